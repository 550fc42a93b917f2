/-
  Part 1 of 2: contracts and what they rest on (TReg, IWOwn).
-/
import Derived.Test.YtdcggcfgkhlblaaM5
import Derived.WalkKit
import Derived.Test.YtdcggcfgkhlblaaRows
import Derived.OrdersHeld
import Derived.Deep.RegionHeld
import Derived.BigQuiet
import Derived.Deep.QuietTactic
import Derived.Lib.Hide
import Derived.Lib.Small
import Derived.Lib.Walk
import Derived.Lib.BitFns
import Derived.Maps.AppendAt
import Derived.RangeFuncNested
import Derived.RangeFuncBound
import Derived.RangeFuncCalls
import Derived.RangeFuncLeaves
import Derived.Shelf.Abstract
import Derived.OwnWalkIn
import Derived.TacticsInMore
import Derived.LoopNIn
import Derived.LoopIn
import Derived.RangeFuncBox
import Derived.Deep.RegionHeld3
import Derived.OrdersIn
import Derived.StillTailTactics
import Derived.RangeFuncFrom
import Derived.Laws.EntriesVeiled
import Derived.ProofKit
import Derived.OpenShut
import Derived.JoinedCond
import Derived.Carry
import Derived.Laws.AppendOwnNone
import Derived.Lib.ItoaNum
import Derived.Deep.RegionLaw
import Derived.WalkMore
import Derived.Lib.SmallJoins
import Derived.IntWalk
import Derived.Deep.DeepCutAuto
import Derived.Laws.OwnMore
import Derived.ArgAppend
import Derived.Deep.Slices
import Derived.Laws.CopyOwn
import Derived.Lib.SliceRun
import Derived.SizedLaws
import Derived.Great.BuildSlice
namespace Go.Proofs.Ytdcggcfgkhlblaa
set_option maxRecDepth 100000
section
open Go.RowKit Go.ChangeShapes Go.WideShapes Go.ChangeAt Go.Joins Go.Deep
set_option linter.unusedVariables false
set_option linter.unusedSimpArgs false
set_option maxRecDepth 100000
/-- append(nil, s...) in a region that draws its order -/
theorem step_copyK {ops : Array Oper} {o : Oper} {a : Act} {w : World} {K : Act → World → Prop} {Q : Exit → Act → World → Prop} {E : Prop} (hg : o.guard = none) (t : Nat) (T : TypeId) (hT : Try.prog.underlying T = some (.slice 3))
    (hop : o.op = Op.call { callee := Callee.builtin Builtin.append, args := #[Operand.const (.slice none 0 0), Operand.tmp t], argTypes := #[T, T] }) {xs : List Int} {ad : Option Addr} {cap : Nat} {u : Value} (hx : a.eval (.tmp t) = u)
    (hA : ArgS w u xs ad cap) (hn : ad = none → cap = 0) (hl : xs.length ≤ 17592186044416)
    (h : ∀ v' w1, ResS w.heap.size w1 v' xs → Below w.heap.size w w1 → K (a.put o.dst v') w1) :
    if Region.wanted o (yielded ops a.tmps) = true then Oper.wp Try.prog o a w K Q else E := by
  rw [if_pos (by simp [Region.wanted, hg])]
  obtain ⟨i0, hi, hz0, hz1, hz2⟩ := info_parts infoS
  have hnil := World.ownsRow_nil w w.heap.size 3 1
  have hs : a.eval (.const (.slice none 0 0)) = .slice none 0 0 := rfl
  obtain ⟨rfl, lx, hle, wx⟩ := hA
  cases ad with
  | none =>
    have hc := hn rfl
    subst hc
    have hxs : xs = [] := List.eq_nil_of_length_eq_zero (by omega)
    subst hxs
    have hrun := run_append_owned_none (P := Try.prog) w w.heap.size T o.type 3 i0 1 hT hi (.slice none 0 0) 0 [] hnil
    unfold Oper.wp
    simp [execOp, hop, resolve, invoke, builtin, hs, hx, hrun, Result.andThen]
    exact h _ _ ⟨hnil, wx⟩ (Below.refl _ _)
  | some ad =>
    obtain ⟨v', w', hr, hown, hgrow, _⟩ := run_append_own (P := Try.prog) w w.heap.size T o.type 3 i0 (.int .i64 0) 1 8 hT hi hz0 hz1 hz2 rfl (by decide) (.slice none 0 0) 0 [] hnil ad xs.length cap (xs.map (Value.int .i64)) (by simp) (cells_argS (cap := cap) lx) (ints_oneCell _ _) (by unfold maxLen; omega) (by omega) (Nat.le_refl _)
    unfold Oper.wp
    simp [execOp, hop, resolve, invoke, builtin, hs, hx, hr, Result.andThen]
    refine h v' w' ⟨?_, wx⟩ ((Below.refl _ w).grown hgrow (Nat.le_refl _) (fun k hk => by cases hk))
    unfold NumS
    simpa using hown
end
section
open Go.RowKit
set_option linter.unusedVariables false
set_option linter.unusedSimpArgs false
theorem infoSh12 : (Try.prog.info? 28).map (fun i => (i.zero, i.size, i.bytes)) = some (some (.slice none 0 0), 1, 24) := by kernel_rfl
/-- a row of shapes of one's own, that grows -/
def OwnR (B : Nat) (w : World) (v : Value) (ls : List (List Int)) : Prop := ∃ vals : List Value, w.ownsRow B 28 1 v ls.length vals ∧ vals.length = ls.length ∧ ∀ i, i < ls.length → ∃ (a : Option Addr) (c : Nat), vals[i]? = some (.slice a (shpI ls i).length c) ∧ ResS B w (.slice a (shpI ls i).length c) (shpI ls i)
theorem OwnR.nil (B : Nat) (w : World) : OwnR B w (.slice none 0 0) [] := ⟨[], World.ownsRow_nil _ _ _ _, rfl, fun i h => by simp at h⟩
theorem OwnR.row {B : Nat} {w : World} {v : Value} {ls : List (List Int)} (h : OwnR B w v ls) : ∃ ad cap, v = .slice ad ls.length cap ∧ RowL w (.slice ad ls.length cap) ls ad cap := by
  obtain ⟨vals, ho, hl, he⟩ := h
  exact OwnA.row (w0 := w) ⟨vals, ho, hl, fun i hi => by
    obtain ⟨a, c, e1, e2⟩ := he i hi
    exact ⟨a, c, e1, e2.at_.2⟩⟩ (Below.refl _ _)
theorem ResS.keptT {B r : Nat} {w w' : World} {u : Value} {xs : List Int} (h : ResS B w u xs) (k : Kept r w w') (hap : ∀ g t cs, Row w g t cs → t ≠ 28 → g ≠ r) : ResS B w' u xs := by
  refine ⟨?_, h.wf⟩
  obtain ⟨h1, h2⟩ := h.num
  refine ⟨h1, ?_⟩
  rcases h2 with h2 | ⟨g, cap, cur, rfl, hg0, hg, hrest⟩
  · exact .inl h2
  · exact .inr ⟨g, cap, cur, rfl, hg0, (k.block g (lt_of_block hg) (hap g _ cur hg (by decide))).trans hg, hrest⟩
set_option maxRecDepth 100000 in
set_option maxHeartbeats 40000000 in
theorem inferOwn_walk (v : Int) {v0 : Value} {o : Int} {ys xs : List Int} {ls : List (List Int)} {a1 a2 al : Option Addr} {c1 c2 cl : Nat} (w : World) (N : NodeA w v0 o ys xs a1 c1 a2 c2) (hy0 : ys.length ≤ 17592186044416) (hx0 : xs.length ≤ 17592186044416) (L : RowL w (.slice al ls.length cl) ls al cl) (hls : ∀ x ∈ ls, x.length ≤ 17592186044416) (hll : ls.length ≤ 17592186044416) : Calls Try.prog 7 #[.int .i64 v, v0, .slice al ls.length cl] w fun e w' => e = .returned (.bool true) ∧ Below w.heap.size w w' := by
  have HN := Lib.hid N
  have HL := Lib.hid L
  have HLS := Lib.hid hls
  obtain rfl := N.is
  obtain ⟨m1, hm1⟩ : ∃ m, ys.length = m := ⟨_, rfl⟩
  obtain ⟨m2, hm2⟩ : ∃ m, xs.length = m := ⟨_, rfl⟩
  obtain ⟨k, hk⟩ : ∃ m, ls.length = m := ⟨_, rfl⟩
  have HM1 := Lib.hid hm1
  have HM2 := Lib.hid hm2
  have HK := Lib.hid hk
  obtain ⟨IC, hic⟩ : ∃ c, infC v o m1 xs ls = c := ⟨_, rfl⟩
  obtain ⟨IV, hiv⟩ : ∃ c, infV v o m1 xs ls = c := ⟨_, rfl⟩
  have HIC := Lib.hid hic
  have HIV := Lib.hid hiv
  obtain ⟨e1, he1⟩ : ∃ c, chkO v o m1 xs = c := ⟨_, rfl⟩
  have HE1 := Lib.hid he1
  rw [hm1, hm2, hk]
  obtain ⟨W, hW⟩ : ∃ W, w.alloc (.cells #[.int .i64 o, .slice a1 m1 c1, .slice a2 m2 c2] 25) = W := ⟨_, rfl⟩
  have R0 : Row W w.heap.size 25 #[.int .i64 o, .slice a1 m1 c1, .slice a2 m2 c2] := by rw [← hW]; exact Row.new _ _ _
  have hbW : Below w.heap.size w W := by rw [← hW]; exact (Below.refl _ _).alloc (Nat.le_refl _) _
  have HSH := Lib.hid (show ∀ X, Below w.heap.size w X → Calls Try.prog 10 #[.int .i64 v, .agg #[.int .i64 o, .slice a1 m1 c1, .slice a2 m2 c2], .slice al k cl] X fun e w' => ∃ r, e = .returned (.tuple #[r, .int .i64 IC]) ∧ ResS X.heap.size w' r IV ∧ Below X.heap.size X w' from fun X hX => by
    have h := shape_any v (HN.out.later hX).atts HN.out.nil2 hx0 (HL.out.later hX) hls hll (o := o) (a1 := a1) (n1 := m1) (c1 := c1)
    rw [hm2, hk, hic, hiv] at h
    exact h)
  have HR0 := Lib.hid R0
  obtain ⟨k0, k1, k2, _, _, _⟩ := R0.three
  rw [hm1] at hy0
  rw [hm2] at hx0
  rw [hk] at hll
  have HX0 := Lib.hid hx0
  have HY0 := Lib.hid hy0
  clear hm1 hm2 hk hic hiv he1 N L hls R0
  by_cases h20 : k > 8
  · have h20I : (k : Int) > 8 := by omega
    go_enter Try.func7, Try.ntmps7
    (try rw [hW])
    go_wp2_with fail
    (try rw [hW])
    refine (known12_any _).mono ?_
    rintro e z1 ⟨rfl, hz1⟩
    go_wp2_with fail
    (try rw [Exit.noGoto_ret])
    go_ret
    exact ⟨rfl, hbW.trans (hz1.mono hbW.size)⟩
  · have h20I : ¬ (k : Int) > 8 := by omega
    obtain ⟨iS, hiS, hzA, hzB, hzC⟩ := info_parts infoSh12
    go_enter Try.func7, Try.ntmps7
    (try rw [hW])
    go_wp2_with fail
    (try rw [hW])
    clear hW k0 k1 k2
    go_loopw [7, 8] (fun u ii wi => ∃ j : Nat, ii = .int .i64 (j : Int) ∧ j ≤ k ∧ OwnR W.heap.size wi u (ls.take j) ∧ Below W.heap.size W wi) (fun _ ii _ => k - (intOf ii).toNat)
    case atStart => exact ⟨0, rfl, Nat.zero_le _, by rw [List.take_zero]; exact OwnR.nil _ _, Below.refl _ _⟩
    case round =>
      rename World => wi
      obtain ⟨j, rfl, hj, hown, BWi⟩ := hrel
      have bwi : Below w.heap.size w wi := hbW.trans (BWi.mono hbW.size)
      have htl : (ls.take j).length = j := by rw [List.length_take, HK.out]; omega
      by_cases hlt : j < k
      · have hltI : (j : Int) < (k : Int) := by omega
        have hj0 : (0 : Int) ≤ (j : Int) := by omega
        obtain ⟨vals, ho, hvl, hel⟩ := hown
        rw [htl] at ho hvl
        obtain ⟨b, o0, ax, cx, rfl, hbl, hcx, hAx, hnx⟩ := (HL.out.later bwi).at (i := j) (by rw [HK.out]; exact hlt)
        have hlxb := HLS.out _ (shp_in (i := j) (by rw [HK.out]; exact hlt))
        obtain ⟨x, hxe⟩ : ∃ x, shpI ls j = x := ⟨_, rfl⟩
        rw [hxe] at hcx hAx hlxb
        obtain ⟨lx, hlx⟩ : ∃ n, x.length = n := ⟨_, rfl⟩
        rw [hlx] at hcx hAx hlxb
        have HXE := Lib.hid hxe
        have HLX := Lib.hid hlx
        have HAX := Lib.hid hAx
        have HEL := Lib.hid hel
        have HO := Lib.hid ho
        have HVL := Lib.hid hvl
        have HTL := Lib.hid htl
        have HTN := Lib.hid (show ls.take (j + 1) = ls.take j ++ [x] by rw [List.take_add_one, shp_some (by rw [HK.out]; exact hlt), hxe]; rfl)
        obtain ⟨au0, cu0, rfl⟩ := ownT_slice ho
        clear hxe hlx hel ho hvl htl hAx
        go_wp2_with (at_builtin; first | (refine step_copyT rfl _ 28 28 Try.underlying28 Try.underlying28 rfl rfl HAX.out hnx (by rw [HLX.out]; exact hlxb) ?_; intro ro w3 R3 hb3; obtain ⟨ar, cr, rfl, R4⟩ := res_slice11 R3; rw [HLX.out] at R4; (try rw [HLX.out]); have HR4 := Lib.hid (R4.mono (base' := W.heap.size) BWi.size); have BW3 : Below W.heap.size W w3 := BWi.trans (hb3.mono BWi.size); have hsz3 := BW3.size; obtain ⟨r, hrv, hbr, hap, hrc, _⟩ := ownV_hits (rowLater HO.out hb3) BW3.size; have HAP := Lib.hid hap; have HRV := Lib.hid hrv; have HB3 := Lib.hid hb3; clear R3 R4 hap hrv hrc hb3) | (refine wpList_append_own _ rfl _ _ 26 rfl W.heap.size 28 iS (.slice none 0 0) 1 24 Try.underlying26 hiS hzA hzB hzC rfl (by decide) _ j vals rfl (rowLater (rowLater HO.out HB3.out) ((Below.refl _ _).alloc (Nat.le_refl _) _)) ⟨w3.heap.size, 0, none⟩ 1 1 [.slice ar lx cr] rfl rfl (cell_one_new _ _ _) (by simp [Value.oneCell']) (by unfold maxLen; omega) (by omega) (by simp; omega) ?_; intro v' w6 hown' hgrow _))
        have hb6 : Below W.heap.size W w6 := (BW3.alloc hsz3 _).grown hgrow (by simp; omega) (fun q hq => (World.ownsRow.lt (rowLater HO.out HB3.out) q hq).1)
        have hk6 : Kept r w3 w6 := ((Kept.refl r w3).alloc _).grown hgrow HRV.out
        have hN : OwnR W.heap.size w6 v' (ls.take (j + 1)) := by
          rw [HTN.out]
          refine ⟨vals ++ [.slice ar lx cr], ?_, ?_, fun i hi => ?_⟩
          · rw [List.length_append, HTL.out]; exact hown'
          · rw [List.length_append, List.length_append, HTL.out, HVL.out]; rfl
          · rw [List.length_append, HTL.out] at hi
            by_cases hij : i < j
            · rw [shp_app (by rw [HTL.out]; exact hij)]
              obtain ⟨a, c, e1, e2⟩ := HEL.out i (by rw [HTL.out]; exact hij)
              exact ⟨a, c, by rw [List.getElem?_append_left (by rw [HVL.out]; exact hij)]; exact e1, (e2.later HB3.out).keptT hk6 HAP.out⟩
            · obtain rfl : i = j := by simp at hi; omega
              have e : shpI (ls.take i ++ [x]) i = x := by
                have h5 := shp_last (l := ls.take i) (x := x)
                rw [HTL.out] at h5
                exact h5
              rw [e]
              exact ⟨ar, cr, by rw [List.getElem?_append_right (by rw [HVL.out]; exact Nat.le_refl _), HVL.out, Nat.sub_self, ← HLX.out]; rfl, by rw [HLX.out]; exact HR4.out.keptT hk6 HAP.out⟩
        have HN6 := Lib.hid hN
        clear hN hown' hgrow hk6
        (try go_wp2_with fail)
        go_roundw
        case rel => exact ⟨j + 1, by go_num, by omega, HN6.out, hb6⟩
        case measure => simp [intOf]; omega
      · obtain rfl : j = k := by omega
        have hall : ls.take j = ls := List.take_of_length_le (by rw [HK.out]; exact Nat.le_refl _)
        rw [hall] at hown
        obtain ⟨oad, ocap, rfl, hRL⟩ := hown.row
        rw [HK.out]
        obtain ⟨V1, hV1⟩ : ∃ y, wi = y := ⟨_, rfl⟩
        rw [hV1] at BWi bwi hRL hown ⊢
        have HRL := Lib.hid hRL
        have hb1 := bwi
        have MK2 := Lib.hid (show ∀ X, Below V1.heap.size V1 X → (fun X => X.cell? ⟨w.heap.size, 0, none⟩ = some (.int .i64 o) ∧ X.cell? ⟨w.heap.size, 1, none⟩ = some (.slice a1 m1 c1) ∧ X.cell? ⟨w.heap.size, 2, none⟩ = some (.slice a2 m2 c2)) X from fun X h => by
          obtain ⟨g0, g1, g2, _⟩ := (HR0.out.later (BWi.trans (h.mono BWi.size))).three
          exact ⟨g0, g1, g2⟩)
        clear hV1 hown hRL hall htl
        go_wp2_with fail
        refine wp_region_held_drew (S := fun X => X.cell? ⟨w.heap.size, 0, none⟩ = some (.int .i64 o) ∧ X.cell? ⟨w.heap.size, 1, none⟩ = some (.slice a1 m1 c1) ∧ X.cell? ⟨w.heap.size, 2, none⟩ = some (.slice a2 m2 c2)) (by kernel_rfl) (MK2.out _ ((Below.refl _ _).drew)) (fun hHeld => ?_)
        obtain ⟨pp, hp⟩ : ∃ Y, V1.drew = Y := ⟨_, rfl⟩
        have bp : Below V1.heap.size V1 pp := by rw [← hp]; exact (Below.refl _ _).drew
        rw [hp] at hHeld ⊢
        clear hp
        refine todo [0, 1, 2, 3, 5, 6] ?_
        iterate 6
         refine todoH (v := ?_) rfl (by kernel_rfl) (fun _ _ _ h => h) (by assumption) (Or.inl ⟨by rfl, ?_⟩) ?_
         rotate_left
         · intro w hSw; (try dsimp only at hSw); go_simp; (try with_reducible rfl)
         try simp only [Act.put, List.getElem_toArray, List.getElem_cons_succ, List.getElem_cons_zero, List.setIfInBounds_toArray, List.set_cons_zero, List.set_cons_succ]
        refine todone ?_
        have HPp := Lib.hid (fun (X : World) (h : Below pp.heap.size pp X) => (show X.cell? ⟨w.heap.size, 0, none⟩ = some (.int .i64 o) ∧ X.cell? ⟨w.heap.size, 1, none⟩ = some (.slice a1 m1 c1) ∧ X.cell? ⟨w.heap.size, 2, none⟩ = some (.slice a2 m2 c2) from MK2.out _ (bp.trans (h.mono bp.size))))
        refine pool_start (fs := [⟨9, 9, 25, #[.int .i64 0, .slice none 0 0, .slice none 0 0], fun g => .pointer (some ⟨g, 0, none⟩)⟩]) (us := [undef]) (n := 4) (F := fun _ => True) (by kernel_rfl) (by simp only [putF, Act.put, List.getElem_toArray, List.getElem_cons_succ, List.getElem_cons_zero, List.setIfInBounds_toArray, List.set_cons_zero, List.set_cons_succ]) rfl trivial ?_
        refine pool_step (α := Option Addr × Nat) (fun p => .slice p.1 m1 p.2) (c := 4) (dc := 36) (need := []) (F' := fun p X => ResS w.heap.size X (.slice p.1 m1 p.2) ys) rfl ?flp4 (by decide) (by decide) (by decide) (by decide) (by kernel_rfl) HPp.out (fun _ _ _ _ => trivial) ?stp4 ?nxp4
        case flp4 =>
          intro f hf
          simp only [List.mem_cons, List.not_mem_nil, or_false] at hf
          rcases hf with rfl
          all_goals exact ⟨fun g g' e => by simpa using e, _, rfl, fun a X K h => by unfold StepH; go_simp; exact h⟩
        case stp4 =>
          intro us X K hus _ hb _ hK
          obtain ⟨uF1, rfl⟩ := len_one10 hus
          simp only [putF, Act.put, List.getElem_toArray, List.getElem_cons_succ, List.getElem_cons_zero, List.setIfInBounds_toArray, List.set_cons_zero, List.set_cons_succ]
          unfold StepH
          have bX : Below w.heap.size w X := hb1.trans ((bp.trans (hb.mono bp.size)).mono hb1.size)
          have hAc := (HN.out.later bX).args
          rw [HM1.out] at hAc
          refine step_copyK (by rfl) 35 23 Try.underlying23 rfl (u := .slice a1 m1 c1) rfl hAc HN.out.nil1 (by rw [HM1.out]; exact HY0.out) ?_
          intro v1 X' q1 hy
          obtain ⟨ad1, cp1, rfl, r1⟩ := res_slice11 q1
          rw [HM1.out] at r1 ⊢
          have r2 := r1.mono (base' := w.heap.size) bX.size
          clear q1 r1
          exact hK (ad1, cp1) _ hy r2
        rintro ⟨d1, g1⟩
        (try dsimp only)
        try simp only [Act.put, List.getElem_toArray, List.getElem_cons_succ, List.getElem_cons_zero, List.setIfInBounds_toArray, List.set_cons_zero, List.set_cons_succ]
        refine pool_step (α := Option Addr × Nat) (fun p => .slice p.1 m2 p.2) (c := 7) (dc := 39) (need := []) (F' := fun p X => ResS w.heap.size X (.slice d1 m1 g1) ys ∧ ResS w.heap.size X (.slice p.1 m2 p.2) xs) rfl ?flp7 (by decide) (by decide) (by decide) (by decide) (by kernel_rfl) HPp.out (fun X Y h hF => ResS.later hF h) ?stp7 ?nxp7
        case flp7 =>
          intro f hf
          simp only [List.mem_cons, List.not_mem_nil, or_false] at hf
          rcases hf with rfl
          all_goals exact ⟨fun g g' e => by simpa using e, _, rfl, fun a X K h => by unfold StepH; go_simp; exact h⟩
        case stp7 =>
          intro us X K hus _ hb hF hK
          obtain ⟨uF1, rfl⟩ := len_one10 hus
          simp only [putF, Act.put, List.getElem_toArray, List.getElem_cons_succ, List.getElem_cons_zero, List.setIfInBounds_toArray, List.set_cons_zero, List.set_cons_succ]
          unfold StepH
          have bX : Below w.heap.size w X := hb1.trans ((bp.trans (hb.mono bp.size)).mono hb1.size)
          have hAc := (HN.out.later bX).atts
          rw [HM2.out] at hAc
          refine step_copyK (by rfl) 38 23 Try.underlying23 rfl (u := .slice a2 m2 c2) rfl hAc HN.out.nil2 (by rw [HM2.out]; exact HX0.out) ?_
          intro v1 X' q1 hy
          obtain ⟨ad1, cp1, rfl, r1⟩ := res_slice11 q1
          rw [HM2.out] at r1 ⊢
          have r2 := r1.mono (base' := w.heap.size) bX.size
          clear q1 r1
          exact hK (ad1, cp1) _ hy ⟨hF.later hy, r2⟩
        rintro ⟨d2, g2⟩
        (try dsimp only)
        try simp only [Act.put, List.getElem_toArray, List.getElem_cons_succ, List.getElem_cons_zero, List.setIfInBounds_toArray, List.set_cons_zero, List.set_cons_succ]
        refine pool_take (v := ?_) (i := 8) (di := 40) rfl rfl (by decide) (by decide) (by kernel_rfl) (fun _ _ _ h => h) HPp.out (fun us hus => ?_) ?_
        rotate_left
        · obtain ⟨uF1, rfl⟩ := len_one10 hus
          simp only [putF, Act.put, List.getElem_toArray, List.getElem_cons_succ, List.getElem_cons_zero, List.setIfInBounds_toArray, List.set_cons_zero, List.set_cons_succ]
          refine Or.inl ⟨by rfl, ?_⟩
          intro w hSw; (try dsimp only at hSw); go_simp; (try with_reducible rfl)
        try simp only [Act.put, List.getElem_toArray, List.getElem_cons_succ, List.getElem_cons_zero, List.setIfInBounds_toArray, List.set_cons_zero, List.set_cons_succ]
        refine pool_end ?flpe (by decide) (by decide) (by kernel_rfl) HPp.out (fun X Y h hF => ⟨ResS.later hF.1 h, ResS.later hF.2 h⟩) ?nxpe
        case flpe =>
          intro f hf
          simp only [List.mem_cons, List.not_mem_nil, or_false] at hf
          rcases hf with rfl
          all_goals exact ⟨fun g g' e => by simpa using e, _, rfl, fun a X K h => by unfold StepH; go_simp; exact h⟩
        intro us xp ok hb hF
        obtain ⟨gp, rfl, hgp, Rp⟩ := ok.one
        (try dsimp only at Rp hF)
        simp only [putF, Act.put, List.getElem_toArray, List.getElem_cons_succ, List.getElem_cons_zero, List.setIfInBounds_toArray, List.set_cons_zero, List.set_cons_succ]
        have Bp : Below V1.heap.size V1 xp := bp.trans (hb.mono bp.size)
        have hHeld := HPp.out xp hb
        clear ok
        obtain ⟨d0, d1, d2, d3, d4, d5⟩ := Rp.three
        refine wpAnyH_ready (rs := [10]) (by kernel_rfl) (by simp) ?_
        refine AllReadyH.cons rfl (fun K hK => ?sp1) AllReadyH.nil
        go_simp
        refine afterSet3 Rp (fun xp1 op1 zp1 => ?_)
        clear d0 d1 d2 d3 d4 d5
        have Bp1 : Below V1.heap.size V1 xp1 := Bp.trans (op1.below (Nat.le_trans bp.size hgp))
        replace hF := (⟨hF.1.far Rp (by decide) op1.block, hF.2.far Rp (by decide) op1.block⟩ : _ ∧ _)
        replace Rp := zp1
        refine hK.out _ _ (MK2.out _ Bp1) (fun hHeld2 => ?_)
        clear hK K hHeld
        have hHeld := hHeld2
        clear hHeld2
        try simp only [Act.put, List.getElem_toArray, List.getElem_cons_succ, List.getElem_cons_zero, List.setIfInBounds_toArray, List.set_cons_zero, List.set_cons_succ]
        refine wpAnyH_done (by kernel_rfl) ?_ _
        (try dsimp only [Straight])
        obtain ⟨V2, hV2⟩ : ∃ Y, xp1 = Y := ⟨_, rfl⟩
        rw [hV2] at Rp hF Bp1 ⊢
        have hB2 : Below W.heap.size W V2 := BWi.trans (Bp1.mono BWi.size)
        have hb2 : Below w.heap.size w V2 := hbW.trans (hB2.mono hbW.size)
        have hat1 := hF.1.at_
        have hat2 := hF.2.at_
        have HA1 := Lib.hid hat1.2
        have HA2 := Lib.hid hat2.2
        have HRS := Lib.hid Rp
        have hrl2 := HRL.out.later Bp1
        have HL2 := Lib.hid hrl2
        have hsh := shape_any v (by have h5 := HA2.out.1; rw [← HM2.out] at h5; exact h5 : ArgS V2 (.slice d2 xs.length g2) xs d2 g2) HA2.out.2 (by rw [HM2.out]; exact HX0.out) hrl2 HLS.out (by rw [HK.out]; omega) (o := o) (a1 := d1) (n1 := m1) (c1 := g1)
        rw [HM2.out, HK.out, HIC.out, HIV.out] at hsh
        have HS2 := Lib.hid hsh
        obtain ⟨k0, k1, k2, _, _, _⟩ := Rp.three
        clear hV2 hF hat1 hat2 hHeld Rp hrl2 hsh
        go_wp2_with fail
        refine HS2.out.mono ?_
        rintro e V3 ⟨r, rfl, hr, hy⟩
        have D3 : Below V2.heap.size V2 V3 := hy
        obtain ⟨lv, hlv⟩ : ∃ n, IV.length = n := ⟨_, rfl⟩
        have HLV := Lib.hid hlv
        obtain ⟨ar, cr, rfl, IL, hlc, nl, wl⟩ := hr.idx
        rw [hlv] at hlc
        (try rw [hlv])
        have HIL := Lib.hid IL
        clear hr hy hlv IL nl wl k0 k1 k2
        go_wp2_with fail
        go_loopw [12] (fun ii wi => ∃ (i : Nat) (zs : List Int), ii = .int .i64 (i : Int) ∧ i ≤ lv ∧ zs.length = lv ∧ IdxP V2.heap.size wi ar cr zs ∧ Below V2.heap.size V2 wi) (fun ii _ => lv - (intOf ii).toNat)
        case atStart => exact ⟨0, IV, rfl, Nat.zero_le _, HLV.out, HIL.out, D3⟩
        case round =>
          rename World => wi
          obtain ⟨i, zs, rfl, hi, hzl, hI, hbi⟩ := hrel
          have HZL := Lib.hid hzl
          by_cases hil : i < lv
          · have hilI : (i : Int) < (lv : Int) := by omega
            have hi0 : (0 : Int) ≤ (i : Int) := by omega
            obtain ⟨gl, rfl, hgB, hmax, hP⟩ := hI.at (i := i) (by rw [hzl]; exact hil)
            have hlv44 : lv ≤ 9223372036854775807 := by unfold maxLen at hmax; omega
            have hc := hP.cell i (by rw [hzl]; exact hil)
            have hf := hP.free i
            obtain ⟨z, hz⟩ : ∃ z, zs.getD i 0 = z := ⟨_, rfl⟩
            rw [hz] at hc
            have hP1 := hP.set i (by rw [hzl]; exact hil) (-7)
            have HP1 := Lib.hid hP1
            have HBE := Lib.hid (hbi.setCell hgB (p := ⟨gl, i, none⟩) (.int .i64 (-7)))
            clear hI hP hP1 hz hzl
            go_wp2_with fail
            go_roundw
            case rel => exact ⟨i + 1, zs.set i (-7), by go_num, by omega, by rw [List.length_set, HZL.out], .inr ⟨gl, rfl, hgB, hmax, HP1.out⟩, HBE.out⟩
            case measure => simp [intOf]; omega
          · obtain rfl : i = lv := by omega
            have hltI : ¬ (i : Int) < (i : Int) := by omega
            obtain ⟨V4, hV4⟩ : ∃ y, wi = y := ⟨_, rfl⟩
            rw [hV4] at hbi ⊢
            have hB4 : Below W.heap.size W V4 := hB2.trans (hbi.mono hB2.size)
            have hb4 : Below w.heap.size w V4 := hbW.trans (hB4.mono hbW.size)
            have HBI := Lib.hid hbi
            clear hI hzl hV4 hbi
            go_wp2_with fail
            go_loopw [13] (fun ii wi => ∃ j' : Nat, ii = .int .i64 (j' : Int) ∧ j' ≤ j ∧ Below V4.heap.size V4 wi) (fun ii _ => j - (intOf ii).toNat)
            case atStart => exact ⟨0, rfl, Nat.zero_le _, Below.refl _ _⟩
            case round =>
              rename World => wi
              obtain ⟨jj, rfl, hjj, hbj⟩ := hrel
              have D2i : Below V2.heap.size V2 wi := HBI.out.trans (hbj.mono HBI.out.size)
              have bwi2 : Below w.heap.size w wi := hb4.trans (hbj.mono hb4.size)
              have BWi2 : Below W.heap.size W wi := hB4.trans (hbj.mono hB4.size)
              by_cases hjl : jj < j
              · have hjlI : (jj : Int) < (j : Int) := by omega
                have hjj0 : (0 : Int) ≤ (jj : Int) := by omega
                obtain ⟨bo, oo, ao, co, rfl, hbo, hco, hAo, hno⟩ := (HL2.out.later D2i).at (i := jj) (by rw [HK.out]; exact hjl)
                obtain ⟨bl, ol, ax, cx, rfl, hbl, hcx, hAx, hnx⟩ := (HL.out.later bwi2).at (i := jj) (by rw [HK.out]; exact hjl)
                obtain ⟨x, hxe⟩ : ∃ x, shpI ls jj = x := ⟨_, rfl⟩
                have hlxb := HLS.out _ (shp_in (i := jj) (by rw [HK.out]; exact hjl))
                rw [hxe] at hco hcx hAo hAx hlxb
                obtain ⟨lx, hlx⟩ : ∃ n, x.length = n := ⟨_, rfl⟩
                have HLX := Lib.hid hlx
                have HAO := Lib.hid hAo
                have HAX := Lib.hid hAx
                have HSS := Lib.hid (show ∀ X, Below wi.heap.size wi X → Calls Try.prog 13 #[.slice ao lx co, .slice ax lx cx] X fun e w' => e = .returned (.bool true) ∧ Below X.heap.size X w' from fun X hX => by
                  have h5 := sameL_any (HAO.out.later hX) (HAX.out.later hX) (by omega)
                  rw [decide_eq_true (show x = x from rfl), hlx] at h5
                  exact h5)
                rw [hlx] at hco hcx
                have MKI := Lib.hid (show ∀ X, Below wi.heap.size wi X → (fun X => X.cell? ⟨bo, oo + jj, none⟩ = some (.slice ao lx co) ∧ X.cell? ⟨bl, ol + jj, none⟩ = some (.slice ax lx cx)) X from fun X h => ⟨(h.cell hbo).trans hco, (h.cell hbl).trans hcx⟩)
                have Q0 : Below wi.heap.size wi wi.drew := (Below.refl _ _).drew
                clear hxe hlx hAo hAx hco hcx
                go_wp2_with fail
                refine wp_region_held_drew (S := fun X => X.cell? ⟨bo, oo + jj, none⟩ = some (.slice ao lx co) ∧ X.cell? ⟨bl, ol + jj, none⟩ = some (.slice ax lx cx)) (by kernel_rfl) (MKI.out _ Q0) (fun hHeld => ?_)
                obtain ⟨q0, hdrh⟩ : ∃ Y, wi.drew = Y := ⟨_, rfl⟩
                rw [hdrh] at Q0 hHeld ⊢
                clear hdrh
                refine todo [0, 1, 2, 3, 4, 5, 6, 7] ?_
                iterate 8
                 first
                 | (refine todoH (v := ?_) rfl (by kernel_rfl) (fun _ _ _ h => h) (by assumption) (Or.inl ⟨by rfl, ?_⟩) ?_
                    rotate_left
                    · intro w hSw; (try dsimp only at hSw); go_simp; (try with_reducible rfl)
                    try simp only [Act.put, List.getElem_toArray, List.getElem_cons_succ, List.getElem_cons_zero, List.setIfInBounds_toArray, List.set_cons_zero, List.set_cons_succ])
                 | (refine todoH (v := undef) rfl (by kernel_rfl) (fun _ _ _ h => h) (by assumption) (Or.inr ⟨by rfl, rfl⟩) ?_
                    try simp only [Act.put, List.getElem_toArray, List.getElem_cons_succ, List.getElem_cons_zero, List.setIfInBounds_toArray, List.set_cons_zero, List.set_cons_succ])
                refine todone ?_
                refine wpAnyH_ready (rs := [8]) (by kernel_rfl) (by simp) ?_
                refine AllReadyH.cons rfl (fun K hK => ?sh_8) AllReadyH.nil
                go_simp
                refine (HSS.out _ Q0).mono ?_
                rintro e q1 ⟨rfl, hy⟩
                have Q1 : Below wi.heap.size wi q1 := Q0.trans (hy.mono Q0.size)
                have Dh1 := hy
                clear hy
                go_simp
                refine hK.out _ _ (MKI.out _ Q1) (fun hHeld2 => ?mh_8)
                clear hK K hHeld
                have hHeld := hHeld2
                clear hHeld2
                try simp only [Act.put, List.getElem_toArray, List.getElem_cons_succ, List.getElem_cons_zero, List.setIfInBounds_toArray, List.set_cons_zero, List.set_cons_succ]
                refine todo [9] ?_
                iterate 1
                 first
                 | (refine todoH (v := ?_) rfl (by kernel_rfl) (fun _ _ _ h => h) (by assumption) (Or.inl ⟨by rfl, ?_⟩) ?_
                    rotate_left
                    · intro w hSw; (try dsimp only at hSw); go_simp; (try with_reducible rfl)
                    try simp only [Act.put, List.getElem_toArray, List.getElem_cons_succ, List.getElem_cons_zero, List.setIfInBounds_toArray, List.set_cons_zero, List.set_cons_succ])
                 | (refine todoH (v := undef) rfl (by kernel_rfl) (fun _ _ _ h => h) (by assumption) (Or.inr ⟨by rfl, rfl⟩) ?_
                    try simp only [Act.put, List.getElem_toArray, List.getElem_cons_succ, List.getElem_cons_zero, List.setIfInBounds_toArray, List.set_cons_zero, List.set_cons_succ])
                refine todone ?_
                refine wpAnyH_done (by kernel_rfl) ?_ _
                (try dsimp only [Straight])
                clear hHeld
                go_wp2_with fail
                go_roundw
                case rel => exact ⟨jj + 1, by go_num, by omega, hbj.trans (Q1.mono hbj.size)⟩
                case measure => simp [intOf]; omega
              · obtain rfl : jj = j := by omega
                obtain ⟨k0, k1, k2, _, _, _⟩ := (HR0.out.later BWi2).three
                obtain ⟨n0, n1, n2, _, _, _⟩ := (HRS.out.later D2i).three
                have hs2 := sameL_any (HA2.out.1.later D2i) (by have h5 := (HN.out.later bwi2).atts; rw [HM2.out] at h5; exact h5 : ArgS wi (.slice a2 m2 c2) xs a2 c2) (by rw [HM2.out]; have := HX0.out; omega)
                rw [decide_eq_true (show xs = xs from rfl)] at hs2
                have HSA := Lib.hid hs2
                clear hs2
                go_wp2_with fail
                refine HSA.out.mono ?_
                rintro e V5 ⟨rfl, hy⟩
                have D5 : Below V2.heap.size V2 V5 := D2i.trans (hy.mono D2i.size)
                have bw5 : Below w.heap.size w V5 := bwi2.trans (hy.mono bwi2.size)
                have BW5 : Below W.heap.size W V5 := BWi2.trans (hy.mono BWi2.size)
                clear hy k0 k1 k2 n0 n1 n2
                obtain ⟨k0, k1, k2, _, _, _⟩ := (HR0.out.later BW5).three
                obtain ⟨n0, n1, n2, _, _, _⟩ := (HRS.out.later D5).three
                have hs1 := sameL_any (HA1.out.1.later D5) (by have h5 := (HN.out.later bw5).args; rw [HM1.out] at h5; exact h5 : ArgS V5 (.slice a1 m1 c1) ys a1 c1) (by rw [HM1.out]; have := HY0.out; omega)
                rw [decide_eq_true (show ys = ys from rfl)] at hs1
                have HSB := Lib.hid hs1
                clear hs1
                go_wp2_with fail
                refine HSB.out.mono ?_
                rintro e V6 ⟨rfl, hy⟩
                have bw6 : Below w.heap.size w V6 := bw5.trans (hy.mono bw5.size)
                clear hy
                go_wp2_with fail
                refine (known12_any _).mono ?_
                rintro e z7 ⟨rfl, hz7⟩
                go_wp2_with fail
                (try rw [Exit.noGoto_ret])
                go_ret
                exact ⟨rfl, bw6.trans (hz7.mono bw6.size)⟩
end
end Go.Proofs.Ytdcggcfgkhlblaa
