/-
  Part 27 of 29: contracts and what they rest on (GShapes, GSamp, GKnown).
-/
import Derived.Test.YtjgiacghlkkjfaaGreatDoorF1
import Derived.Test.YtjgiacghlkkjfaaGreatDoorF2
import Derived.Test.YtjgiacghlkkjfaaGreatDoorF3
import Derived.Test.YtjgiacghlkkjfaaGreatDoorF4
import Derived.Test.YtjgiacghlkkjfaaGreatDoorF5
import Derived.Test.YtjgiacghlkkjfaaGreatDoorF8
import Derived.Test.YtjgiacghlkkjfaaGreatDoorF9
import Derived.Test.YtjgiacghlkkjfaaGreatDoorF10
import Derived.Test.YtjgiacghlkkjfaaGreatDoorF11
import Derived.Test.YtjgiacghlkkjfaaGreatDoorF13
import Derived.Test.YtjgiacghlkkjfaaGreatDoorF14
import Derived.Test.YtjgiacghlkkjfaaGreatDoorF15
import Derived.Test.YtjgiacghlkkjfaaGreatDoorF16
import Derived.Test.YtjgiacghlkkjfaaGreatDoorF18
import Derived.Test.YtjgiacghlkkjfaaGreatDoorF19
import Derived.Test.YtjgiacghlkkjfaaGreatDoorF24
import Derived.Test.YtjgiacghlkkjfaaGreatDoorF26
import Derived.WalkKit
import Derived.Test.YtjgiacghlkkjfaaGreatDoorRows
import Derived.OrdersHeld
import Derived.Deep.RegionHeld
import Derived.BigQuiet
import Derived.Deep.QuietTactic
import Derived.Lib.Hide
import Derived.Lib.Small
import Derived.Lib.Walk
import Derived.Lib.BitFns
import Derived.Maps.AppendAt
import Derived.RangeFuncNested
import Derived.RangeFuncBound
import Derived.RangeFuncCalls
import Derived.RangeFuncLeaves
import Derived.Shelf.Abstract
import Derived.OwnWalkIn
import Derived.TacticsInMore
import Derived.LoopNIn
import Derived.LoopIn
import Derived.RangeFuncBox
import Derived.Deep.RegionHeld3
import Derived.OrdersIn
import Derived.StillTailTactics
import Derived.RangeFuncFrom
import Derived.Laws.EntriesVeiled
import Derived.ProofKit
import Derived.OpenShut
import Derived.JoinedCond
import Derived.Carry
import Derived.Laws.AppendOwnNone
import Derived.Lib.ItoaNum
import Derived.Deep.RegionLaw
import Derived.WalkMore
import Derived.Lib.SmallJoins
import Derived.IntWalk
import Derived.Deep.DeepCutAuto
import Derived.Laws.OwnMore
import Derived.ArgAppend
import Derived.Deep.Slices
import Derived.Laws.CopyOwn
import Derived.Lib.SliceRun
import Derived.SizedLaws
import Derived.Great.BuildSlice
import Derived.Defers
import Derived.Recover
import Derived.Shelf.Small.Wraps
import Derived.Shelf.Strconv.Itoa3
import Derived.Shelf.Strconv.AtoiAll
import Derived.Laws.RangeAny
import Derived.Lib.AppendZerosOnto
import Derived.Maps.OwnSet
import Derived.Maps.Views
namespace Go.Proofs.YtjgiacghlkkjfaaGreatDoor
set_option maxRecDepth 100000
section
open Go.RowKit
set_option linter.unusedVariables false
set_option linter.unusedSimpArgs false
/-- what the caught closure leaves: b0 is the graph's block, b0 + 1 the shapes', ge the error's -/
def RefsG (g : GrD) (w : World) (ge : Nat) (w' : World) : Prop :=
  Below w.heap.size w w' ∧ ∃ r x, Row w' (w.heap.size + 1) 36 #[r] ∧ Row w' ge 32 #[x] ∧ RowC w.heap.size 43 1 (ShpO w.heap.size) w' r (shpG g)
theorem shpO_far {B gf : Nat} {t : TypeId} {cs : Array Value} {w w' : World} {c : List Value} {x : List Int} (h : ShpO B w c x) (R : Row w gf t cs) (ht : t ≠ 3) (hk : ∀ k, k ≠ gf → w'.heap[k]? = w.heap[k]?) : ShpO B w' c x := by
  obtain ⟨a, n, e, h⟩ := h
  exact ⟨a, n, e, h.far R ht hk⟩
theorem RefsG.set {g : GrD} {w : World} {ge : Nat} {w' : World} (h : RefsG g w ge w') (hge : w.heap.size + 1 < ge) (v : Value) : RefsG g w ge (w'.setCell ⟨ge, 0, none⟩ v) := by
  obtain ⟨hb, r, x, R1, R2, R3⟩ := h
  have hk : ∀ k, k ≠ ge → (w'.setCell ⟨ge, 0, none⟩ v).heap[k]? = w'.heap[k]? := fun k hk => Below.heap_setCell w' _ _ k hk
  exact ⟨hb.setCell (p := ⟨ge, 0, none⟩) (by show w.heap.size ≤ ge; omega) _, r, v, R1.far (by show w.heap.size + 1 ≠ ge; omega) _, R2.set 0 v, R3.far R2 (by decide) hk (fun c x h => shpO_far h R2 (by decide) hk)⟩
set_option maxRecDepth 100000 in
set_option maxHeartbeats 8000000 in
theorem shapes1_any {g : GrD} {A : AdG} {w V : World} {ge : Nat} (hb : Below w.heap.size w V) (hge : w.heap.size + 1 < ge) (RG : Row V w.heap.size 29 (cellsG g A)) (RS : Row V (w.heap.size + 1) 36 #[.slice none 0 0]) (RE : Row V ge 32 #[.int .i64 0])
    (hck : Calls Tryz.prog 37 #[.agg (cellsG g A)] V (CheckG g V)) :
    Calls Tryz.prog 36 #[.pointer (some ⟨w.heap.size, 0, none⟩), .pointer (some ⟨w.heap.size + 1, 0, none⟩)] V fun e w' => EndG (chkG g) (.tuple #[]) e ∧ RefsG g w ge w' ∧ w'.cell? ⟨ge, 0, none⟩ = some (.int .i64 0) ∧ w'.frozen? ⟨ge, 0, none⟩ = false := by
  obtain ⟨gv, hgv⟩ : ∃ n, g.v = n := ⟨_, rfl⟩
  obtain ⟨np, hnp⟩ : ∃ n, g.ps.length = n := ⟨_, rfl⟩
  obtain ⟨nw, hnw⟩ : ∃ n, g.ws.length = n := ⟨_, rfl⟩
  obtain ⟨nn, hnn1⟩ : ∃ n, g.b.ns.length = n := ⟨_, rfl⟩
  obtain ⟨no, hno⟩ : ∃ n, g.b.os.length = n := ⟨_, rfl⟩
  obtain ⟨nv, hnv⟩ : ∃ n, g.vb.ns.length = n := ⟨_, rfl⟩
  obtain ⟨nu, hnu⟩ : ∃ n, g.vb.os.length = n := ⟨_, rfl⟩
  obtain ⟨hv, hhv⟩ : ∃ n, g.hv = n := ⟨_, rfl⟩
  have hcl : cellsG g A = #[.int .i64 gv, .slice A.pa np A.pc, .slice A.wa nw A.wc, .slice A.na nn A.nc, .slice A.oa no A.oc, .bool hv, .slice A.va nv A.vc, .slice A.ua nu A.uc] := by unfold cellsG; rw [hgv, hnp, hnw, hnn1, hno, hnv, hnu, hhv]
  obtain ⟨c, hc⟩ : ∃ c, chkG g = c := ⟨_, rfl⟩
  rw [hc]
  have HC := Lib.hid hc
  have HS := Lib.hid (show c = 0 → shpG g = fwdF g from fun h => by unfold shpG; rw [if_pos (by rw [hc]; exact h)])
  have HS2 := Lib.hid (show ¬ c = 0 → shpG g = [] from fun h => by unfold shpG; rw [if_neg (by rw [hc]; exact h)])
  have HCK := Lib.hid hck
  have HRS := Lib.hid RS
  have HRE := Lib.hid RE
  rw [hcl] at HCK RG
  have k0 := (RG.cell 0)
  have k1 := (RG.cell 1)
  have k2 := (RG.cell 2)
  have k3 := (RG.cell 3)
  have k4 := (RG.cell 4)
  have k5 := (RG.cell 5)
  have k6 := (RG.cell 6)
  have k7 := (RG.cell 7)
  simp only [List.getElem?_toArray, List.getElem?_cons_zero, List.getElem?_cons_succ] at k0 k1 k2 k3 k4 k5 k6 k7
  have hB := hb.size
  have hlt1 := RS.lt
  clear hck hcl hgv hnp hnw hnn1 hno hnv hnu hhv RG RS RE hc
  go_enter Tryz.func36, Tryz.ntmps36
  go_wp2_with fail
  clear k0 k1 k2 k3 k4 k5 k6 k7
  refine HCK.out.mono ?_
  rintro e y1 ⟨hy1, he⟩
  rw [HC.out] at he
  have RS1 := HRS.out.later hy1
  have HRE1 := Lib.hid (HRE.out.later hy1)
  have hby := Lib.hid (hb.trans (hy1.mono hB))
  by_cases h0 : c = 0
  case neg =>
    rw [if_neg h0] at he
    subst he
    have HH := Lib.hid (show RefsG g w ge y1 from ⟨hby.out, _, _, RS1, HRE1.out, by rw [HS2.out h0]; exact RowC.nil _ _ _ _ _⟩)
    have HED := Lib.hid (EndG.die (v := .tuple #[]) h0)
    have c0 := HRE1.out.cell 0
    have c1 := HRE1.out.free 0
    have HCC := Lib.hid (And.intro c0 c1)
    clear h0 c0 c1 RS1 hy1
    go_wp2_with fail
    refine ⟨rfl, HED.out, HH.out, HCC.out.1.trans rfl, HCC.out.2⟩
  case pos =>
  rw [if_pos h0] at he
  subst h0
  obtain ⟨r, rfl, hr⟩ := he
  obtain ⟨ra, rc, rfl⟩ := hr.slice
  obtain ⟨nr, hnr⟩ : ∃ n, (fwdF g).length = n := ⟨_, rfl⟩
  rw [hnr] at hr ⊢
  have hr2 := shpQ_mono hr hB
  have hk : ∀ k, k ≠ w.heap.size + 1 → (y1.setCell ⟨w.heap.size + 1, 0, none⟩ (.slice ra nr rc)).heap[k]? = y1.heap[k]? := fun k hk => Below.heap_setCell y1 _ _ k hk
  have HH := Lib.hid (show RefsG g w ge (y1.setCell ⟨w.heap.size + 1, 0, none⟩ (.slice ra nr rc)) from ⟨hby.out.setCell (p := ⟨w.heap.size + 1, 0, none⟩) (by show w.heap.size ≤ w.heap.size + 1; omega) _, _, _, RS1.set 0 _, HRE1.out.far (by show ge ≠ w.heap.size + 1; omega) _, by
    rw [HS.out rfl]
    exact hr2.far RS1 (by decide) hk (fun c x h => shpO_far h RS1 (by decide) hk)⟩)
  have s0 := RS1.cell 0
  have s1 := RS1.free 0
  simp only [List.getElem?_toArray, List.getElem?_cons_zero, List.getElem?_cons_succ] at s0
  have HRE2 := Lib.hid (HRE1.out.far (p := ⟨w.heap.size + 1, 0, none⟩) (by show ge ≠ w.heap.size + 1; omega) (.slice ra nr rc))
  have HCC := Lib.hid (And.intro (HRE2.out.cell 0) (HRE2.out.free 0))
  clear hr hr2 hnr hy1 hk RS1
  go_wp2_with fail
  go_end0
  exact ⟨EndG.mk, HH.out, HCC.out.1.trans rfl, HCC.out.2⟩
/-- what Shapes answers -/
def ShapesG (g : GrD) (w : World) (e : Ending) (w' : World) : Prop :=
  ∃ (a : Option Addr) (n c : Nat), e = .returned (.tuple #[.slice a n c, .int .i64 (chkG g)]) ∧ RowC w.heap.size 43 1 (ShpO w.heap.size) w' (.slice a n c) (shpG g) ∧ Below w.heap.size w w'
set_option maxRecDepth 100000 in
set_option maxHeartbeats 8000000 in
theorem shapesX_any {g : GrD} {A : AdG} {w : World} (hck : ∀ X, Below w.heap.size w X → Calls Tryz.prog 37 #[.agg (cellsG g A)] X (CheckG g X)) : Calls Tryz.prog 15 #[.agg (cellsG g A)] w (ShapesG g w) := by
  obtain ⟨gv, hgv⟩ : ∃ n, g.v = n := ⟨_, rfl⟩
  obtain ⟨np, hnp⟩ : ∃ n, g.ps.length = n := ⟨_, rfl⟩
  obtain ⟨nw, hnw⟩ : ∃ n, g.ws.length = n := ⟨_, rfl⟩
  obtain ⟨nn, hnn1⟩ : ∃ n, g.b.ns.length = n := ⟨_, rfl⟩
  obtain ⟨no, hno⟩ : ∃ n, g.b.os.length = n := ⟨_, rfl⟩
  obtain ⟨nv, hnv⟩ : ∃ n, g.vb.ns.length = n := ⟨_, rfl⟩
  obtain ⟨nu, hnu⟩ : ∃ n, g.vb.os.length = n := ⟨_, rfl⟩
  obtain ⟨hv, hhv⟩ : ∃ n, g.hv = n := ⟨_, rfl⟩
  have hcl : cellsG g A = #[.int .i64 gv, .slice A.pa np A.pc, .slice A.wa nw A.wc, .slice A.na nn A.nc, .slice A.oa no A.oc, .bool hv, .slice A.va nv A.vc, .slice A.ua nu A.uc] := by unfold cellsG; rw [hgv, hnp, hnw, hnn1, hno, hnv, hnu, hhv]
  have hmf : ∀ (fn : Fn) (first cap : Array Value) (w : World), (Instr.makeFunc fn first cap).run Tryz.prog w = .ok (.func fn first cap) w := fun _ _ _ _ => rfl
  obtain ⟨W, hW⟩ : ∃ W, (w.alloc (.cells (cellsG g A) 29)).alloc (.cells #[.slice none 0 0] 36) = W := ⟨_, rfl⟩
  have R0 : Row W w.heap.size 29 (cellsG g A) := by rw [← hW]; exact (Row.new _ _ _).alloc _
  have R1 : Row W (w.heap.size + 1) 36 #[.slice none 0 0] := by
    rw [← hW]
    have h := Row.new (w.alloc (.cells (cellsG g A) 29)) 36 #[.slice none 0 0]
    simp only [World.size_alloc] at h
    exact h
  have hbW : Below w.heap.size w W := by rw [← hW]; exact ((Below.refl _ _).alloc (Nat.le_refl _) _).alloc (by simp) _
  have hlt := R1.lt
  obtain ⟨c, hc⟩ : ∃ c, chkG g = c := ⟨_, rfl⟩
  have HCT := Lib.hid (show Calls Tryz.prog 35 #[.func (.func 36) #[] #[.pointer (some ⟨w.heap.size, 0, none⟩), .pointer (some ⟨w.heap.size + 1, 0, none⟩)]] W fun e w' => e = .returned (.int .i64 c) ∧ RefsG g w W.heap.size w' from by
    have bE : Below W.heap.size W (W.alloc (.cells #[.int .i64 0] 32)) := (Below.refl _ _).alloc (Nat.le_refl _) _
    have h := shapes1_any (ge := W.heap.size) (hbW.trans (bE.mono hbW.size)) hlt (R0.later bE) (R1.later bE) (Row.new _ _ _) (hck _ (hbW.trans (bE.mono hbW.size)))
    rw [hc] at h
    exact caught_any (F := 36) c (fun w' => RefsG g w W.heap.size w') (fun args w => enters_of Tryz.func36 (by kernel_rfl) rfl args w) (fun X v hX => hX.set hlt v) h)
  have HC := Lib.hid hc
  rw [hcl] at hW R0 ⊢
  clear hck hcl hgv hnp hnw hnn1 hno hnv hnu hhv R0 R1 hc hbW
  go_enter Tryz.func15, Tryz.ntmps15
  (try rw [hW])
  go_wp2_with fail
  (try rw [hW])
  clear hW
  refine HCT.out.mono ?_
  rintro e y1 ⟨rfl, hb, r, x, R1, R2, R3⟩
  obtain ⟨ra, rc, rfl⟩ := R3.slice
  obtain ⟨nr, hnr⟩ : ∃ n, (shpG g).length = n := ⟨_, rfl⟩
  rw [hnr] at R1 R3
  have s0 := R1.cell 0
  simp only [List.getElem?_toArray, List.getElem?_cons_zero, List.getElem?_cons_succ] at s0
  have HR3 := Lib.hid R3
  clear R1 R2 R3 hnr
  go_wp2_with fail
  go_ret2
  exact ⟨ra, nr, rc, by rw [HC.out]; rfl, HR3.out, hb⟩
set_option maxRecDepth 100000 in
set_option maxHeartbeats 8000000 in
theorem checkCX_any {g : GrD} {A : AdG} {w : World} (hck : ∀ X, Below w.heap.size w X → Calls Tryz.prog 37 #[.agg (cellsG g A)] X (CheckG g X)) : Calls Tryz.prog 12 #[.agg (cellsG g A)] w fun e w' => e = .returned (.int .i64 (chkG g)) ∧ Below w.heap.size w w' := by
  obtain ⟨gv, hgv⟩ : ∃ n, g.v = n := ⟨_, rfl⟩
  obtain ⟨np, hnp⟩ : ∃ n, g.ps.length = n := ⟨_, rfl⟩
  obtain ⟨nw, hnw⟩ : ∃ n, g.ws.length = n := ⟨_, rfl⟩
  obtain ⟨nn, hnn1⟩ : ∃ n, g.b.ns.length = n := ⟨_, rfl⟩
  obtain ⟨no, hno⟩ : ∃ n, g.b.os.length = n := ⟨_, rfl⟩
  obtain ⟨nv, hnv⟩ : ∃ n, g.vb.ns.length = n := ⟨_, rfl⟩
  obtain ⟨nu, hnu⟩ : ∃ n, g.vb.os.length = n := ⟨_, rfl⟩
  obtain ⟨hv, hhv⟩ : ∃ n, g.hv = n := ⟨_, rfl⟩
  have hcl : cellsG g A = #[.int .i64 gv, .slice A.pa np A.pc, .slice A.wa nw A.wc, .slice A.na nn A.nc, .slice A.oa no A.oc, .bool hv, .slice A.va nv A.vc, .slice A.ua nu A.uc] := by unfold cellsG; rw [hgv, hnp, hnw, hnn1, hno, hnv, hnu, hhv]
  obtain ⟨W, hW⟩ : ∃ W, w.alloc (.cells (cellsG g A) 29) = W := ⟨_, rfl⟩
  have R0 : Row W w.heap.size 29 (cellsG g A) := by rw [← hW]; exact Row.new _ _ _
  have hbW : Below w.heap.size w W := by rw [← hW]; exact (Below.refl _ _).alloc (Nat.le_refl _) _
  have hs := shapesX_any (g := g) (A := A) (w := W) (fun X hX => hck X (hbW.trans (hX.mono hbW.size)))
  have HSX := Lib.hid hs
  rw [hcl] at hW R0 HSX ⊢
  have k0 := (R0.cell 0)
  have k1 := (R0.cell 1)
  have k2 := (R0.cell 2)
  have k3 := (R0.cell 3)
  have k4 := (R0.cell 4)
  have k5 := (R0.cell 5)
  have k6 := (R0.cell 6)
  have k7 := (R0.cell 7)
  simp only [List.getElem?_toArray, List.getElem?_cons_zero, List.getElem?_cons_succ] at k0 k1 k2 k3 k4 k5 k6 k7
  clear hs hck hcl hgv hnp hnw hnn1 hno hnv hnu hhv R0
  go_enter Tryz.func12, Tryz.ntmps12
  (try rw [hW])
  go_wp2_with fail
  refine HSX.out.mono ?_
  rintro e y1 ⟨a, n, c, rfl, _, hy⟩
  go_wp2_with fail
  go_ret
  exact ⟨rfl, hbW.trans (hy.mono hbW.size)⟩
end
section
open Go.RowKit
set_option linter.unusedVariables false
set_option linter.unusedSimpArgs false
/-- a small number: its cells -/
def NumC (w : World) (c : List Value) (q : Q3) : Prop := ∃ (n : Int) (g1 g2 : Nat), q = numQ13 n ∧ 0 ≤ n ∧ n ≤ 100 ∧ c = [.bool false, .slice (some ⟨g1, 0, none⟩) 1 1, .slice (some ⟨g2, 0, none⟩) 1 1] ∧ Row w g1 96 #[.int .u32 n] ∧ Row w g2 96 #[.int .u32 1]
theorem lat_num : LatC NumC := fun w w' c x h hb => by
  obtain ⟨n, g1, g2, h1, h2, h3, h4, h5, h6⟩ := h
  exact ⟨n, g1, g2, h1, h2, h3, h4, h5.later hb, h6.later hb⟩
theorem apa_num (B : Nat) : ApaC B 93 3 NumC := fun w w1 o v n xs c x ho hg h => by
  obtain ⟨n, g1, g2, h1, h2, h3, h4, h5, h6⟩ := h
  exact ⟨n, g1, g2, h1, h2, h3, h4, rowGrown h5 ho hg (by decide), rowGrown h6 ho hg (by decide)⟩
theorem rowNe {w : World} {g b : Nat} {t s : TypeId} {cs ds : Array Value} (R : Row w g t cs) (S : Row w b s ds) (h : t ≠ s) : g ≠ b := by
  rintro rfl
  have R' : w.heap[g]? = some (.cells cs t (0, 0)) := R
  have S' : w.heap[g]? = some (.cells ds s (0, 0)) := S
  rw [R'] at S'
  simp only [Option.some.injEq, Obj.cells.injEq] at S'
  exact h S'.2.1
theorem num_far {w w' : World} {gf : Nat} {t : TypeId} {cs : Array Value} {c : List Value} {q : Q3} (h : NumC w c q) (R : Row w gf t cs) (ht : t ≠ 96) (hk : ∀ k, k ≠ gf → w'.heap[k]? = w.heap[k]?) : NumC w' c q := by
  obtain ⟨n, g1, g2, h1, h2, h3, h4, h5, h6⟩ := h
  exact ⟨n, g1, g2, h1, h2, h3, h4, (hk g1 (rowNe h5 R (Ne.symm ht))).trans h5, (hk g2 (rowNe h6 R (Ne.symm ht))).trans h6⟩
theorem num_raw {w : World} {c : List Value} {q : Q3} (h : NumC w c q) : ∃ a b d, c = [a, b, d] ∧ RawQ w (.agg #[a, b, d]) q := by
  obtain ⟨n, g1, g2, rfl, h2, h3, rfl, h5, h6⟩ := h
  have lim : ∀ g m, 0 ≤ m → m ≤ 100 → Row w g 96 #[.int .u32 m] → Arg w (.slice (some ⟨g, 0, none⟩) 1 1) [m] (some ⟨g, 0, none⟩) 1 := fun g m m0 m1 R => by
    refine ⟨rfl, .inr ⟨g, 0, rfl, fun i hi => ?_⟩, Nat.le_refl _, ?_⟩
    · obtain rfl : i = 0 := by simpa using hi
      exact (R.cell 0).trans rfl
    · exact wf1 ⟨m0, by omega⟩
  exact ⟨_, _, _, rfl, some ⟨g1, 0, none⟩, some ⟨g2, 0, none⟩, 1, 1, rfl, lim g1 n h2 h3 h5, lim g2 1 (by decide) (by decide) h6, (fun h => by cases h), (fun h => by cases h)⟩
theorem take_num (k : Nat) (hk : k < 3) : ([numQ13 1, numQ13 2, numQ13 3] : List Q3).take (k + 1) = ([numQ13 1, numQ13 2, numQ13 3] : List Q3).take k ++ [numQ13 ((k : Int) + 1)] := by
  match k, hk with
  | 0, _ => rfl
  | 1, _ => rfl
  | 2, _ => rfl
theorem listOf13 {α : Type} {R : Nat → α → Prop} : ∀ n, (∀ i, i < n → ∃ e, R i e) → ∃ es : List α, es.length = n ∧ ∀ i e, es[i]? = some e → R i e
  | 0, _ => ⟨[], rfl, fun i e h => by simp at h⟩
  | n + 1, h => by
    obtain ⟨es, h1, h2⟩ := listOf13 n (fun i hi => h i (by omega))
    obtain ⟨e, he⟩ := h n (by omega)
    refine ⟨es ++ [e], by simp [h1], fun i d hd => ?_⟩
    by_cases hi : i < es.length
    · rw [List.getElem?_append_left hi] at hd; exact h2 i d hd
    · rw [List.getElem?_append_right (by omega)] at hd
      have e0 : i = n := by
        rcases Nat.lt_or_ge (i - es.length) 1 with h | h
        · omega
        · rw [List.getElem?_eq_none (by simpa using h)] at hd; cases hd
      subst e0
      rw [h1, Nat.sub_self] at hd
      simp only [List.getElem?_cons_zero, Option.some.injEq] at hd
      subst hd
      exact he
theorem num_row {w : World} {B : Nat} {v : Value} {l : List Q3} (h : RowC B 93 3 NumC w v l) : ∃ ad cap, v = .slice ad l.length cap ∧ RowA RawQ w (.slice ad l.length cap) l ad cap ∧ (ad = none → cap = 0) := by
  obtain ⟨ad, cap, rfl, hk⟩ := h.rowK (P := fun w b o q => ∃ e : E3, w.cell? ⟨b, o, none⟩ = some e.a ∧ w.cell? ⟨b, o + 1, none⟩ = some e.b ∧ w.cell? ⟨b, o + 2, none⟩ = some e.c ∧ RawQ w e.agg q) (fun b o c x _ hx hc hj => by
    obtain ⟨a, b', d, rfl, hr⟩ := num_raw hx
    exact ⟨⟨a, b', d⟩, hj 0 a rfl, hj 1 b' rfl, hj 2 d rfl, hr⟩)
  refine ⟨ad, cap, rfl, ⟨rfl, hk.le, ?_⟩, hk.nil⟩
  rcases hk.els with e | ⟨b, o, e, hx⟩
  · exact .inl e
  · obtain ⟨es, h1, h2⟩ := listOf13 (R := fun i (e : E3) => ∃ x, l[i]? = some x ∧ w.cell? ⟨b, o + i * 3, none⟩ = some e.a ∧ w.cell? ⟨b, o + i * 3 + 1, none⟩ = some e.b ∧ w.cell? ⟨b, o + i * 3 + 2, none⟩ = some e.c ∧ RawQ w e.agg x) l.length (fun i hi => by
      obtain ⟨e, k⟩ := hx i l[i] (List.getElem?_eq_getElem hi)
      exact ⟨e, _, List.getElem?_eq_getElem hi, k⟩)
    refine .inr ⟨b, o, es, e, fun i d hd => ?_, h1, fun i d x hd hl => ?_⟩
    · obtain ⟨x, _, c0, c1, c2, _⟩ := h2 i d hd
      exact ⟨c0, c1, c2⟩
    · obtain ⟨x', hx', _, _, _, hr⟩ := h2 i d hd
      rw [hl] at hx'
      simp only [Option.some.injEq] at hx'
      subst hx'
      exact hr
theorem ints_row {w : World} {g : Nat} {l : List Int} {cs : Array Value} (R : Row w g 3 cs) (hc : cs.toList = l.map (Value.int .i64 ·)) (hw : ∀ x ∈ l, -100 ≤ x ∧ x ≤ 100) : ArgS w (.slice (some ⟨g, 0, none⟩) l.length l.length) l (some ⟨g, 0, none⟩) l.length := by
  refine ⟨rfl, .inr ⟨g, 0, rfl, fun i hi => ?_⟩, Nat.le_refl _, fun x hx => ⟨by have := (hw x hx).1; omega, by have := (hw x hx).2; omega⟩⟩
  have h := R.cell (0 + i)
  rw [h]
  rw [← Array.getElem?_toList, hc, Nat.zero_add, List.getElem?_map, List.getElem?_eq_getElem hi]
  simp [List.getD_eq_getElem?_getD, List.getElem?_eq_getElem hi]
/-- the sample in memory: where its parts lie -/
structure SampP (y : Int) (w : World) (B g0 g1 gs g2 g3 g4 g5 g6 : Nat) (ea : Option Addr) (ec : Nat) : Prop where
  r0 : Row w g0 3 #[.int .i64 2, .int .i64 3]
  r1 : Row w g1 74 #[.string ⟨#[120]⟩, .slice (some ⟨g0, 0, none⟩) 2 2]
  rs : Row w gs 3 #[.int .i64 3, .int .i64 1]
  re : RowC B 93 3 NumC w (.slice ea 3 ec) [numQ13 1, numQ13 2, numQ13 3]
  r2 : Row w g2 67 #[.string ⟨#[119]⟩, .slice (some ⟨gs, 0, none⟩) 2 2, .slice ea 3 ec]
  r3 : Row w g3 3 #[.int .i64 0, .int .i64 y]
  r4 : Row w g4 3 #[.int .i64 2]
  r5 : Row w g5 46 #[.int .i64 10, .slice (some ⟨g3, 0, none⟩) 2 2, .slice none 0 0, .int .i64 7, .slice (some ⟨g4, 0, none⟩) 1 1, .slice none 0 0]
  r6 : Row w g6 3 #[.int .i64 3]
  ne : g0 ≠ g3 ∧ gs ≠ g3 ∧ g4 ≠ g3 ∧ g6 ≠ g3
def sampA (g1 g2 g5 g6 : Nat) : AdG := ⟨some ⟨g1, 0, none⟩, 1, some ⟨g2, 0, none⟩, 1, some ⟨g5, 0, none⟩, 2, some ⟨g6, 0, none⟩, 1, none, 0, none, 0⟩
theorem SampP.gr {y : Int} {w : World} {B g0 g1 gs g2 g3 g4 g5 g6 : Nat} {ea : Option Addr} {ec : Nat} (h : SampP y w B g0 g1 gs g2 g3 g4 g5 g6 ea ec) (hy : -100 ≤ y ∧ y ≤ 100) : GrA w (sampD y) (sampA g1 g2 g5 g6) := by
  have nilA : ArgS w (.slice none 0 0) [] none 0 := ⟨rfl, .inl rfl, Nat.le_refl _, fun x h => by cases h⟩
  obtain ⟨ad, cap, e, hq, hn⟩ := num_row h.re
  simp only [List.length_cons, List.length_nil, Value.slice.injEq, true_and] at e
  obtain ⟨rfl, rfl⟩ : ea = ad ∧ ec = cap := by simpa using e
  refine ⟨⟨by simp [sampD, sampA], (fun h => by cases h), .inr ⟨g1, 0, rfl, fun i x hi => ?_⟩⟩, ⟨by simp [sampD, sampA], (fun h => by cases h), .inr ⟨g2, 0, rfl, fun i x hi => ?_⟩⟩, ⟨by simp [sampD, sampA], (fun h => by cases h), .inr ⟨g5, 0, rfl, fun i x hi => ?_⟩⟩, ints_row (l := [3]) h.r6 rfl (by simp), (fun h => by cases h), ⟨by simp [sampD, sampA, noBo], fun _ => rfl, .inl rfl⟩, nilA, fun _ => rfl⟩
  · match i, hi with
    | 0, hi =>
      simp only [sampD, List.getElem?_cons_zero, Option.some.injEq] at hi
      subst hi
      exact ⟨some ⟨g0, 0, none⟩, 2, h.r1.cell 0, h.r1.cell 1, ints_row (l := [2, 3]) h.r0 rfl (by simp), (fun h => by cases h)⟩
    | i + 1, hi => simp [sampD] at hi
  · match i, hi with
    | 0, hi =>
      simp only [sampD, List.getElem?_cons_zero, Option.some.injEq] at hi
      subst hi
      exact ⟨some ⟨gs, 0, none⟩, 2, ea, ec, h.r2.cell 0, h.r2.cell 1, h.r2.cell 2, rfl, ints_row (l := [3, 1]) h.rs rfl (by simp), (fun h => by cases h), hq, hn⟩
    | i + 1, hi => simp [sampD] at hi
  · match i, hi with
    | 0, hi =>
      simp only [sampD, List.getElem?_cons_zero, Option.some.injEq] at hi
      subst hi
      exact ⟨some ⟨g3, 0, none⟩, 2, none, 0, h.r5.cell 0, h.r5.cell 1, h.r5.cell 2, ints_row (l := [0, y]) h.r3 rfl (by simp; omega), (fun h => by cases h), nilA, fun _ => rfl⟩
    | 1, hi =>
      simp only [sampD, List.getElem?_cons_succ, List.getElem?_cons_zero, Option.some.injEq] at hi
      subst hi
      exact ⟨some ⟨g4, 0, none⟩, 1, none, 0, h.r5.cell 3, h.r5.cell 4, h.r5.cell 5, ints_row (l := [2]) h.r4 rfl (by simp), (fun h => by cases h), nilA, fun _ => rfl⟩
    | i + 2, hi => simp [sampD] at hi
theorem SampP.later {y : Int} {w w' : World} {B g0 g1 gs g2 g3 g4 g5 g6 : Nat} {ea : Option Addr} {ec : Nat} (h : SampP y w B g0 g1 gs g2 g3 g4 g5 g6 ea ec) (hb : Below w.heap.size w w') : SampP y w' B g0 g1 gs g2 g3 g4 g5 g6 ea ec :=
  ⟨h.r0.later hb, h.r1.later hb, h.rs.later hb, h.re.later lat_num hb, h.r2.later hb, h.r3.later hb, h.r4.later hb, h.r5.later hb, h.r6.later hb, h.ne⟩
/-- node 0's second argument is put in -/
theorem SampP.set {y z : Int} {w w' : World} {B g0 g1 gs g2 g3 g4 g5 g6 : Nat} {ea : Option Addr} {ec : Nat} (h : SampP y w B g0 g1 gs g2 g3 g4 g5 g6 ea ec) (hk : ∀ k, k ≠ g3 → w'.heap[k]? = w.heap[k]?) (h3 : Row w' g3 3 #[.int .i64 0, .int .i64 z]) : SampP z w' B g0 g1 gs g2 g3 g4 g5 g6 ea ec :=
  ⟨(hk _ h.ne.1).trans h.r0, (hk _ (rowNe h.r1 h.r3 (by decide))).trans h.r1, (hk _ h.ne.2.1).trans h.rs, h.re.far h.r3 (by decide) hk (fun c x hc => num_far hc h.r3 (by decide) hk), (hk _ (rowNe h.r2 h.r3 (by decide))).trans h.r2, h3, (hk _ h.ne.2.2.1).trans h.r4, (hk _ (rowNe h.r5 h.r3 (by decide))).trans h.r5, (hk _ h.ne.2.2.2).trans h.r6, h.ne⟩
def SampG (w : World) (e : Ending) (w' : World) : Prop := ∃ (g0 g1 gs g2 g3 g4 g5 g6 : Nat) (ea : Option Addr) (ec : Nat), e = .returned (.agg (cellsG (sampD 1) (sampA g1 g2 g5 g6))) ∧ SampP 1 w' w.heap.size g0 g1 gs g2 g3 g4 g5 g6 ea ec ∧ w.heap.size ≤ g3 ∧ Below w.heap.size w w'
set_option maxRecDepth 100000 in
set_option maxHeartbeats 8000000 in
theorem sample_any (w : World) : Calls Tryz.prog 33 #[] w fun e w' => SampG w e w' := by
  obtain ⟨i0, hi, hz0, hz1, hz2⟩ := info_parts infoQ
  obtain ⟨V, hV⟩ : ∃ V, (((w.alloc (.cells #[.int .i64 0, .slice none 0 0, .slice none 0 0, .slice none 0 0, .slice none 0 0, .bool false, .slice none 0 0, .slice none 0 0] 29)).alloc (.cells #[.int .i64 3, .int .i64 1] 3)).alloc (.cells #[.slice none 0 0, .slice none 0 0] 65)).setRow (w.heap.size + 1 + 1) #[.slice (some ⟨w.heap.size + 1, 0, none⟩) 2 2, .slice none 0 0] = V := ⟨_, rfl⟩
  have Z2 : Row (((w.alloc (.cells #[.int .i64 0, .slice none 0 0, .slice none 0 0, .slice none 0 0, .slice none 0 0, .bool false, .slice none 0 0, .slice none 0 0] 29)).alloc (.cells #[.int .i64 3, .int .i64 1] 3)).alloc (.cells #[.slice none 0 0, .slice none 0 0] 65)) (w.heap.size + 1 + 1) 65 #[.slice none 0 0, .slice none 0 0] := by
    have h := Row.new ((w.alloc (.cells #[.int .i64 0, .slice none 0 0, .slice none 0 0, .slice none 0 0, .slice none 0 0, .bool false, .slice none 0 0, .slice none 0 0] 29)).alloc (.cells #[.int .i64 3, .int .i64 1] 3)) 65 #[.slice none 0 0, .slice none 0 0]
    simp only [World.size_alloc] at h
    exact h
  have Z1 : Row (((w.alloc (.cells #[.int .i64 0, .slice none 0 0, .slice none 0 0, .slice none 0 0, .slice none 0 0, .bool false, .slice none 0 0, .slice none 0 0] 29)).alloc (.cells #[.int .i64 3, .int .i64 1] 3)).alloc (.cells #[.slice none 0 0, .slice none 0 0] 65)) (w.heap.size + 1) 3 #[.int .i64 3, .int .i64 1] := by
    have h := (Row.new (w.alloc (.cells #[.int .i64 0, .slice none 0 0, .slice none 0 0, .slice none 0 0, .slice none 0 0, .bool false, .slice none 0 0, .slice none 0 0] 29)) 3 #[.int .i64 3, .int .i64 1]).alloc (.cells #[.slice none 0 0, .slice none 0 0] 65)
    simp only [World.size_alloc] at h
    exact h
  have Z0 : Row (((w.alloc (.cells #[.int .i64 0, .slice none 0 0, .slice none 0 0, .slice none 0 0, .slice none 0 0, .bool false, .slice none 0 0, .slice none 0 0] 29)).alloc (.cells #[.int .i64 3, .int .i64 1] 3)).alloc (.cells #[.slice none 0 0, .slice none 0 0] 65)) w.heap.size 29 #[.int .i64 0, .slice none 0 0, .slice none 0 0, .slice none 0 0, .slice none 0 0, .bool false, .slice none 0 0, .slice none 0 0] := ((Row.new _ _ _).alloc _).alloc _
  have bZ : Below w.heap.size w (((w.alloc (.cells #[.int .i64 0, .slice none 0 0, .slice none 0 0, .slice none 0 0, .slice none 0 0, .bool false, .slice none 0 0, .slice none 0 0] 29)).alloc (.cells #[.int .i64 3, .int .i64 1] 3)).alloc (.cells #[.slice none 0 0, .slice none 0 0] 65)) := (((Below.refl _ _).alloc (Nat.le_refl _) _).alloc (by simp) _).alloc (by simp; omega) _
  have hfar : ∀ k, k ≠ w.heap.size + 1 + 1 → V.heap[k]? = (((w.alloc (.cells #[.int .i64 0, .slice none 0 0, .slice none 0 0, .slice none 0 0, .slice none 0 0, .bool false, .slice none 0 0, .slice none 0 0] 29)).alloc (.cells #[.int .i64 3, .int .i64 1] 3)).alloc (.cells #[.slice none 0 0, .slice none 0 0] 65)).heap[k]? := fun k hk => by rw [← hV]; exact setRow_other _ _ _ _ hk
  have HR := Lib.hid (show Row V w.heap.size 29 #[.int .i64 0, .slice none 0 0, .slice none 0 0, .slice none 0 0, .slice none 0 0, .bool false, .slice none 0 0, .slice none 0 0] ∧ Row V (w.heap.size + 1) 3 #[.int .i64 3, .int .i64 1] ∧ Row V (w.heap.size + 1 + 1) 65 #[.slice (some ⟨w.heap.size + 1, 0, none⟩) 2 2, .slice none 0 0] from ⟨(hfar _ (by omega)).trans Z0, (hfar _ (by omega)).trans Z1, by rw [← hV]; exact Z2.setRow⟩)
  have HBV := Lib.hid (show Below w.heap.size w V by rw [← hV]; exact below_setRow bZ (by omega))
  have HONE := Lib.hid (show (#[.slice (some ⟨w.heap.size + 1, 0, none⟩) 2 2, .slice none 0 0] : Array Value).all (·.oneCell') = true by simp [Value.oneCell'])
  clear Z0 Z1 bZ hfar
  go_enter Tryz.func33, Tryz.ntmps33
  go_wp2_with (refine wpList_store_row rfl 65 _ _ rfl (w.heap.size + 1 + 1) #[.slice (some ⟨w.heap.size + 1, 0, none⟩) 2 2, .slice none 0 0] (by rfl) (by rfl) 65 #[.slice none 0 0, .slice none 0 0] Z2 (by kernel_rfl) rfl HONE.out ?_; rw [hV])
  clear hV Z2
  go_loopw [2] (fun i wr => ∃ k : Nat, i = .int .i64 (k : Int) ∧ k ≤ 3 ∧ Row wr w.heap.size 29 #[.int .i64 0, .slice none 0 0, .slice none 0 0, .slice none 0 0, .slice none 0 0, .bool false, .slice none 0 0, .slice none 0 0] ∧ Row wr (w.heap.size + 1) 3 #[.int .i64 3, .int .i64 1] ∧ (∃ v, Row wr (w.heap.size + 1 + 1) 65 #[.slice (some ⟨w.heap.size + 1, 0, none⟩) 2 2, v] ∧ RowC w.heap.size 93 3 NumC wr v (([numQ13 1, numQ13 2, numQ13 3] : List Q3).take k)) ∧ Below w.heap.size w wr) (fun i _ => 3 - (intOf i).toNat)
  case atStart => exact ⟨0, rfl, by omega, HR.out.1, HR.out.2.1, ⟨_, HR.out.2.2, RowC.nil _ _ _ _ _⟩, HBV.out⟩
  case round =>
    rename World => wr
    obtain ⟨k, rfl, hk, R0, R1, ⟨v, R2, hrow⟩, hb⟩ := hrel
    have hszE := hb.size
    obtain ⟨ea, ec, he⟩ := hrow.slice
    have hlen : (([numQ13 1, numQ13 2, numQ13 3] : List Q3).take k).length = k := by simp; omega
    rw [hlen] at he
    subst he
    by_cases hlt : k < 3
    · have hltI : (k : Int) < 3 := by omega
      obtain ⟨cs, ho, q2, q3, q4⟩ := hrow
      rw [hlen] at ho
      have HO := Lib.hid ho
      have HQ := Lib.hid (And.intro q2 (And.intro q3 q4))
      obtain ⟨Y, hY⟩ : ∃ Y, (wr.alloc (.cells #[.int .u32 ((k : Int) + 1)] 96)).alloc (.cells #[.int .u32 1] 96) = Y := ⟨_, rfl⟩
      have hszY : Y.heap.size = wr.heap.size + 1 + 1 := by rw [← hY]; simp
      have bY : Below w.heap.size w Y := by rw [← hY]; exact (hb.alloc hszE _).alloc (by simp; omega) _
      have hbY : Below wr.heap.size wr Y := by rw [← hY]; exact ((Below.refl _ _).alloc (Nat.le_refl _) _).alloc (by simp) _
      have HRY := Lib.hid (And.intro (R0.later hbY) (And.intro (R1.later hbY) (R2.later hbY)))
      have HOY := Lib.hid (rowLater13 ho hbY)
      have N1 : Row Y wr.heap.size 96 #[.int .u32 ((k : Int) + 1)] := by rw [← hY]; exact (Row.new _ _ _).alloc _
      have N2 : Row Y (wr.heap.size + 1) 96 #[.int .u32 1] := by
        rw [← hY]
        have h := Row.new (wr.alloc (.cells #[.int .u32 ((k : Int) + 1)] 96)) 96 #[.int .u32 1]
        simp only [World.size_alloc] at h
        exact h
      have HN := Lib.hid (And.intro N1 N2)
      have HBY := Lib.hid (And.intro bY hbY)
      have c2 := R2.cell 1
      have hb0 := HRY.out.2.2
      simp only [List.getElem?_toArray, List.getElem?_cons_zero, List.getElem?_cons_succ] at c2
      clear ho q2 q3 q4 N1 N2 bY hbY hb R0 R1 R2 hb0
      go_wp2_with (at_builtin; (refine wpList_append_own _ rfl _ _ 63 rfl w.heap.size 93 i0 _ 3 56 Tryz.underlying63 hi hz0 hz1 hz2 rfl (by decide) (.slice ea k ec) k cs.flatten rfl (rowLater13 HOY.out ((Below.refl _ _).alloc (Nat.le_refl _) _)) ⟨Y.heap.size, 0, none⟩ 1 1 [.bool false, .slice (some ⟨wr.heap.size, 0, none⟩) 1 1, .slice (some ⟨wr.heap.size + 1, 0, none⟩) 1 1] (by rw [hszY]; rfl) rfl (cell_three_new _ _ _ _ _) (by simp [Value.oneCell']) (by unfold maxLen; omega) (by omega) (by simp; omega) ?_; intro v' w6 hown' hgrow _; obtain ⟨va', vc', rfl⟩ := ownT_slice hown'; have Rf6 := rowGrown HRY.out.2.2 HOY.out hgrow (by decide); have HRF6 := Lib.hid Rf6; have HG6 := Lib.hid hgrow; have HO6 := Lib.hid hown'; have s0 := Rf6.cell 1; have s1 := Rf6.free 1; clear Rf6 hgrow hown'))
      have bY := HBY.out.1
      have R0a := rowGrown HRY.out.1 HOY.out HG6.out (by decide)
      have R1a := rowGrown HRY.out.2.1 HOY.out HG6.out (by decide)
      have hb6 : Below w.heap.size w w6 := (bY.alloc (by omega) _).grown HG6.out (by simp; omega) (fun q hq => (World.ownsRow.lt HOY.out q hq).1)
      have hN : RowC w.heap.size 93 3 NumC w6 (.slice va' (k + 1) vc') (([numQ13 1, numQ13 2, numQ13 3] : List Q3).take k ++ [numQ13 ((k : Int) + 1)]) :=
        RowC.push (apa_num _) (by rw [hlen]; exact HOY.out) HQ.out.1 HQ.out.2.1 (fun i c x a b => lat_num _ _ _ _ (HQ.out.2.2 i c x a b) HBY.out.2) rfl ⟨(k : Int) + 1, wr.heap.size, wr.heap.size + 1, rfl, by omega, by omega, rfl, HN.out.1, HN.out.2⟩ (by rw [hlen]; exact HO6.out) HG6.out
      have hfar : ∀ q, q ≠ w.heap.size + 1 + 1 → (w6.setCell ⟨w.heap.size + 1 + 1, 1, none⟩ (.slice va' (k + 1) vc')).heap[q]? = w6.heap[q]? := fun q hq => Below.heap_setCell w6 _ _ q hq
      have hinv : Hid (Row (w6.setCell ⟨w.heap.size + 1 + 1, 1, none⟩ (.slice va' (k + 1) vc')) w.heap.size 29 #[.int .i64 0, .slice none 0 0, .slice none 0 0, .slice none 0 0, .slice none 0 0, .bool false, .slice none 0 0, .slice none 0 0] ∧ Row (w6.setCell ⟨w.heap.size + 1 + 1, 1, none⟩ (.slice va' (k + 1) vc')) (w.heap.size + 1) 3 #[.int .i64 3, .int .i64 1] ∧ (∃ v, Row (w6.setCell ⟨w.heap.size + 1 + 1, 1, none⟩ (.slice va' (k + 1) vc')) (w.heap.size + 1 + 1) 65 #[.slice (some ⟨w.heap.size + 1, 0, none⟩) 2 2, v] ∧ RowC w.heap.size 93 3 NumC (w6.setCell ⟨w.heap.size + 1 + 1, 1, none⟩ (.slice va' (k + 1) vc')) v (([numQ13 1, numQ13 2, numQ13 3] : List Q3).take (k + 1))) ∧ Below w.heap.size w (w6.setCell ⟨w.heap.size + 1 + 1, 1, none⟩ (.slice va' (k + 1) vc'))) := Lib.hid (by
        refine ⟨(hfar _ (by omega)).trans R0a, (hfar _ (by omega)).trans R1a, ⟨_, HRF6.out.set21 _, ?_⟩, hb6.setCell (p := ⟨w.heap.size + 1 + 1, 1, none⟩) (by show w.heap.size ≤ w.heap.size + 1 + 1; omega) _⟩
        rw [take_num k hlt]
        exact hN.far HRF6.out (by decide) hfar (fun c x h => num_far h HRF6.out (by decide) hfar))
      clear hN hfar hb6 R0a R1a s0 s1 bY c2
      go_roundw
      case rel => exact ⟨k + 1, by go_num, by omega, hinv.out⟩
      case measure => simp [intOf]; omega
    · obtain rfl : k = 3 := by omega
      have hltI : ¬ ((3 : Nat) : Int) < 3 := by omega
      have hTake : ([numQ13 1, numQ13 2, numQ13 3] : List Q3).take 3 = [numQ13 1, numQ13 2, numQ13 3] := rfl
      rw [hTake] at hrow
      have hlt2 := R2.lt
      obtain ⟨U, hU⟩ : ∃ U, (((((((wr.alloc (.cells #[.int .i64 2, .int .i64 3] 3)).alloc (.cells #[.string ⟨#[120]⟩, .slice (some ⟨wr.heap.size, 0, none⟩) 2 2] 74)).alloc (.cells #[.string ⟨#[119]⟩, .slice (some ⟨w.heap.size + 1, 0, none⟩) 2 2, .slice ea 3 ec] 67)).alloc (.cells #[.int .i64 0, .int .i64 1] 3)).alloc (.cells #[.int .i64 2] 3)).alloc (.cells #[.int .i64 10, .slice (some ⟨wr.heap.size + 1 + 1 + 1, 0, none⟩) 2 2, .slice none 0 0, .int .i64 7, .slice (some ⟨wr.heap.size + 1 + 1 + 1 + 1, 0, none⟩) 1 1, .slice none 0 0] 46)).alloc (.cells #[.int .i64 3] 3)) = U := ⟨_, rfl⟩
      have n0 : Row U (wr.heap.size) 3 #[.int .i64 2, .int .i64 3] := by
        rw [← hU]
        have h := Row.new wr 3 #[.int .i64 2, .int .i64 3]
        exact ((((((h).alloc _).alloc _).alloc _).alloc _).alloc _).alloc _
      have n1 : Row U (wr.heap.size + 1) 74 #[.string ⟨#[120]⟩, .slice (some ⟨wr.heap.size, 0, none⟩) 2 2] := by
        rw [← hU]
        have h := Row.new (wr.alloc (.cells #[.int .i64 2, .int .i64 3] 3)) 74 #[.string ⟨#[120]⟩, .slice (some ⟨wr.heap.size, 0, none⟩) 2 2]
        simp only [World.size_alloc] at h
        exact (((((h).alloc _).alloc _).alloc _).alloc _).alloc _
      have n2 : Row U (wr.heap.size + 1 + 1) 67 #[.string ⟨#[119]⟩, .slice (some ⟨w.heap.size + 1, 0, none⟩) 2 2, .slice ea 3 ec] := by
        rw [← hU]
        have h := Row.new ((wr.alloc (.cells #[.int .i64 2, .int .i64 3] 3)).alloc (.cells #[.string ⟨#[120]⟩, .slice (some ⟨wr.heap.size, 0, none⟩) 2 2] 74)) 67 #[.string ⟨#[119]⟩, .slice (some ⟨w.heap.size + 1, 0, none⟩) 2 2, .slice ea 3 ec]
        simp only [World.size_alloc] at h
        exact ((((h).alloc _).alloc _).alloc _).alloc _
      have n3 : Row U (wr.heap.size + 1 + 1 + 1) 3 #[.int .i64 0, .int .i64 1] := by
        rw [← hU]
        have h := Row.new (((wr.alloc (.cells #[.int .i64 2, .int .i64 3] 3)).alloc (.cells #[.string ⟨#[120]⟩, .slice (some ⟨wr.heap.size, 0, none⟩) 2 2] 74)).alloc (.cells #[.string ⟨#[119]⟩, .slice (some ⟨w.heap.size + 1, 0, none⟩) 2 2, .slice ea 3 ec] 67)) 3 #[.int .i64 0, .int .i64 1]
        simp only [World.size_alloc] at h
        exact (((h).alloc _).alloc _).alloc _
      have n4 : Row U (wr.heap.size + 1 + 1 + 1 + 1) 3 #[.int .i64 2] := by
        rw [← hU]
        have h := Row.new ((((wr.alloc (.cells #[.int .i64 2, .int .i64 3] 3)).alloc (.cells #[.string ⟨#[120]⟩, .slice (some ⟨wr.heap.size, 0, none⟩) 2 2] 74)).alloc (.cells #[.string ⟨#[119]⟩, .slice (some ⟨w.heap.size + 1, 0, none⟩) 2 2, .slice ea 3 ec] 67)).alloc (.cells #[.int .i64 0, .int .i64 1] 3)) 3 #[.int .i64 2]
        simp only [World.size_alloc] at h
        exact ((h).alloc _).alloc _
      have n5 : Row U (wr.heap.size + 1 + 1 + 1 + 1 + 1) 46 #[.int .i64 10, .slice (some ⟨wr.heap.size + 1 + 1 + 1, 0, none⟩) 2 2, .slice none 0 0, .int .i64 7, .slice (some ⟨wr.heap.size + 1 + 1 + 1 + 1, 0, none⟩) 1 1, .slice none 0 0] := by
        rw [← hU]
        have h := Row.new (((((wr.alloc (.cells #[.int .i64 2, .int .i64 3] 3)).alloc (.cells #[.string ⟨#[120]⟩, .slice (some ⟨wr.heap.size, 0, none⟩) 2 2] 74)).alloc (.cells #[.string ⟨#[119]⟩, .slice (some ⟨w.heap.size + 1, 0, none⟩) 2 2, .slice ea 3 ec] 67)).alloc (.cells #[.int .i64 0, .int .i64 1] 3)).alloc (.cells #[.int .i64 2] 3)) 46 #[.int .i64 10, .slice (some ⟨wr.heap.size + 1 + 1 + 1, 0, none⟩) 2 2, .slice none 0 0, .int .i64 7, .slice (some ⟨wr.heap.size + 1 + 1 + 1 + 1, 0, none⟩) 1 1, .slice none 0 0]
        simp only [World.size_alloc] at h
        exact (h).alloc _
      have n6 : Row U (wr.heap.size + 1 + 1 + 1 + 1 + 1 + 1) 3 #[.int .i64 3] := by
        rw [← hU]
        have h := Row.new ((((((wr.alloc (.cells #[.int .i64 2, .int .i64 3] 3)).alloc (.cells #[.string ⟨#[120]⟩, .slice (some ⟨wr.heap.size, 0, none⟩) 2 2] 74)).alloc (.cells #[.string ⟨#[119]⟩, .slice (some ⟨w.heap.size + 1, 0, none⟩) 2 2, .slice ea 3 ec] 67)).alloc (.cells #[.int .i64 0, .int .i64 1] 3)).alloc (.cells #[.int .i64 2] 3)).alloc (.cells #[.int .i64 10, .slice (some ⟨wr.heap.size + 1 + 1 + 1, 0, none⟩) 2 2, .slice none 0 0, .int .i64 7, .slice (some ⟨wr.heap.size + 1 + 1 + 1 + 1, 0, none⟩) 1 1, .slice none 0 0] 46)) 3 #[.int .i64 3]
        simp only [World.size_alloc] at h
        exact h
      have hbU : Below wr.heap.size wr U := by rw [← hU]; exact (((((((Below.refl _ _).alloc (by simp; try omega) _).alloc (by simp; try omega) _).alloc (by simp; try omega) _).alloc (by simp; try omega) _).alloc (by simp; try omega) _).alloc (by simp; try omega) _).alloc (by simp; try omega) _
      have bU : Below w.heap.size w U := hb.trans (hbU.mono hszE)
      have HRAW := Lib.hid (R0.later hbU)
      have RU := R0.later hbU
      have hfar : ∀ q, q ≠ w.heap.size → (U.setRow w.heap.size #[.int .i64 3, .slice (some ⟨wr.heap.size + 1, 0, none⟩) 1 1, .slice (some ⟨wr.heap.size + 1 + 1, 0, none⟩) 1 1, .slice (some ⟨wr.heap.size + 1 + 1 + 1 + 1 + 1, 0, none⟩) 2 2, .slice (some ⟨wr.heap.size + 1 + 1 + 1 + 1 + 1 + 1, 0, none⟩) 1 1, .bool false, .slice none 0 0, .slice none 0 0]).heap[q]? = U.heap[q]? := fun q hq => setRow_other _ _ _ _ hq
      have P3 := RU.setRow (cs := #[.int .i64 3, .slice (some ⟨wr.heap.size + 1, 0, none⟩) 1 1, .slice (some ⟨wr.heap.size + 1 + 1, 0, none⟩) 1 1, .slice (some ⟨wr.heap.size + 1 + 1 + 1 + 1 + 1, 0, none⟩) 2 2, .slice (some ⟨wr.heap.size + 1 + 1 + 1 + 1 + 1 + 1, 0, none⟩) 1 1, .bool false, .slice none 0 0, .slice none 0 0])
      have z0 := P3.cell 0
      have z1 := P3.cell 1
      have z2 := P3.cell 2
      have z3 := P3.cell 3
      have z4 := P3.cell 4
      have z5 := P3.cell 5
      have z6 := P3.cell 6
      have z7 := P3.cell 7
      have HONE := Lib.hid (show (#[.int .i64 3, .slice (some ⟨wr.heap.size + 1, 0, none⟩) 1 1, .slice (some ⟨wr.heap.size + 1 + 1, 0, none⟩) 1 1, .slice (some ⟨wr.heap.size + 1 + 1 + 1 + 1 + 1, 0, none⟩) 2 2, .slice (some ⟨wr.heap.size + 1 + 1 + 1 + 1 + 1 + 1, 0, none⟩) 1 1, .bool false, .slice none 0 0, .slice none 0 0] : Array Value).all (·.oneCell') = true by simp [Value.oneCell'])
      have HS := Lib.hid (show SampP 1 (U.setRow w.heap.size #[.int .i64 3, .slice (some ⟨wr.heap.size + 1, 0, none⟩) 1 1, .slice (some ⟨wr.heap.size + 1 + 1, 0, none⟩) 1 1, .slice (some ⟨wr.heap.size + 1 + 1 + 1 + 1 + 1, 0, none⟩) 2 2, .slice (some ⟨wr.heap.size + 1 + 1 + 1 + 1 + 1 + 1, 0, none⟩) 1 1, .bool false, .slice none 0 0, .slice none 0 0]) w.heap.size (wr.heap.size) (wr.heap.size + 1) (w.heap.size + 1) (wr.heap.size + 1 + 1) (wr.heap.size + 1 + 1 + 1) (wr.heap.size + 1 + 1 + 1 + 1) (wr.heap.size + 1 + 1 + 1 + 1 + 1) (wr.heap.size + 1 + 1 + 1 + 1 + 1 + 1) ea ec from ⟨(hfar _ (by omega)).trans n0, (hfar _ (by omega)).trans n1, (hfar _ (by omega)).trans (R1.later hbU), (hrow.later lat_num hbU).far RU (by decide) hfar (fun c x hc => num_far hc RU (by decide) hfar), (hfar _ (by omega)).trans n2, (hfar _ (by omega)).trans n3, (hfar _ (by omega)).trans n4, (hfar _ (by omega)).trans n5, (hfar _ (by omega)).trans n6, by omega, by omega, by omega, by omega⟩)
      have HBF := Lib.hid (show Below w.heap.size w (U.setRow w.heap.size #[.int .i64 3, .slice (some ⟨wr.heap.size + 1, 0, none⟩) 1 1, .slice (some ⟨wr.heap.size + 1 + 1, 0, none⟩) 1 1, .slice (some ⟨wr.heap.size + 1 + 1 + 1 + 1 + 1, 0, none⟩) 2 2, .slice (some ⟨wr.heap.size + 1 + 1 + 1 + 1 + 1 + 1, 0, none⟩) 1 1, .bool false, .slice none 0 0, .slice none 0 0]) from below_setRow bU (Nat.le_refl _))
      have T := (R2.alloc (.cells #[.int .i64 2, .int .i64 3] 3)).alloc (.cells #[.string ⟨#[120]⟩, .slice (some ⟨wr.heap.size, 0, none⟩) 2 2] 74)
      have t0 := T.cell 0
      have t1 := T.cell 1
      simp only [List.getElem?_toArray, List.getElem?_cons_zero, List.getElem?_cons_succ] at t0 t1 z0 z1 z2 z3 z4 z5 z6 z7
      clear T P3 RU hfar bU hbU n0 n1 n2 n3 n4 n5 n6 hrow R0 R1 R2 hb
      go_wp2_with (refine wpList_store_row rfl 29 _ _ rfl w.heap.size #[.int .i64 3, .slice (some ⟨wr.heap.size + 1, 0, none⟩) 1 1, .slice (some ⟨wr.heap.size + 1 + 1, 0, none⟩) 1 1, .slice (some ⟨wr.heap.size + 1 + 1 + 1 + 1 + 1, 0, none⟩) 2 2, .slice (some ⟨wr.heap.size + 1 + 1 + 1 + 1 + 1 + 1, 0, none⟩) 1 1, .bool false, .slice none 0 0, .slice none 0 0] (by rfl) (by rfl) 29 #[.int .i64 0, .slice none 0 0, .slice none 0 0, .slice none 0 0, .slice none 0 0, .bool false, .slice none 0 0, .slice none 0 0] HRAW.out (by kernel_rfl) rfl HONE.out ?_)
      exact bodyPost_ret (v := .agg #[.int .i64 3, .slice (some ⟨wr.heap.size + 1, 0, none⟩) 1 1, .slice (some ⟨wr.heap.size + 1 + 1, 0, none⟩) 1 1, .slice (some ⟨wr.heap.size + 1 + 1 + 1 + 1 + 1, 0, none⟩) 2 2, .slice (some ⟨wr.heap.size + 1 + 1 + 1 + 1 + 1 + 1, 0, none⟩) 1 1, .bool false, .slice none 0 0, .slice none 0 0]) (by simp [results, Tryz.results33, go_sem, z0, z1, z2, z3, z4, z5, z6, z7]) rfl ⟨_, _, _, _, _, _, _, _, ea, ec, rfl, HS.out, by omega, HBF.out⟩
end
section
open Go.RowKit
set_option linter.unusedVariables false
set_option linter.unusedSimpArgs false
theorem samp_cells (y : Int) (g1 g2 g5 g6 : Nat) : cellsG (sampD y) (sampA g1 g2 g5 g6) = #[.int .i64 3, .slice (some ⟨g1, 0, none⟩) 1 1, .slice (some ⟨g2, 0, none⟩) 1 1, .slice (some ⟨g5, 0, none⟩) 2 2, .slice (some ⟨g6, 0, none⟩) 1 1, .bool false, .slice none 0 0, .slice none 0 0] := rfl
theorem samp_lim (y : Int) : LimG (sampD y) := ⟨by simp [sampD], by simp [sampD], by simp [sampD]; decide, by simp [sampD], by simp [sampD, numQ13]; decide, by simp [sampD], by simp [sampD], by simp [sampD], by simp [sampD, noBo], by simp [sampD, noBo], by simp [sampD, noBo]⟩
theorem samp_few (y : Int) : FewG (sampD y) := ⟨by simp [sampD], by simp [sampD], by simp [sampD], by simp [sampD]⟩
theorem samp_shp : shpG (sampD 1) = [[2, 3], [3, 1], [2, 1], [2, 1]] := by
  unfold shpG
  rw [if_pos samp_ok, samp_shapes]
theorem samp_ck {y : Int} {w : World} {B g0 g1 gs g2 g3 g4 g5 g6 : Nat} {ea : Option Addr} {ec : Nat} (h : SampP y w B g0 g1 gs g2 g3 g4 g5 g6 ea ec) (hy : -100 ≤ y ∧ y ≤ 100) (G : Glb w) : Calls Tryz.prog 37 #[.agg (cellsG (sampD y) (sampA g1 g2 g5 g6))] w (CheckG (sampD y) w) :=
  checkX_any (h.gr hy) (samp_lim y) G (samp_few y) (fun W oa on oc _ _ _ => checkVJP0_any rfl)
set_option maxRecDepth 100000 in
set_option maxHeartbeats 8000000 in
theorem known_any (w : World) (G : Glb w) : Calls Tryz.prog 11 #[] w fun e w' => e = .returned (.bool true) ∧ Below w.heap.size w w' := by
  have HG := Lib.hid G
  clear G
  go_enter Tryz.func11, Tryz.ntmps11
  go_wp2_with fail
  refine (sample_any w).mono ?_
  rintro e y1 ⟨f0, f1, fs, f2, f3, f4, f5, f6, fa, fc, rfl, S1, hf3, hy1⟩
  have hs := shapesX_any (g := sampD 1) (A := sampA f1 f2 f5 f6) (w := y1) (fun X hX => samp_ck (S1.later hX) (by omega) (HG.out.later (hy1.trans (hX.mono hy1.size))))
  rw [samp_cells] at hs ⊢
  have HS := Lib.hid hs
  have HY1 := Lib.hid hy1
  clear hs S1 hy1
  go_wp2_with fail
  refine HS.out.mono ?_
  rintro e y2 ⟨ra, rn, rc, rfl, R, hy2⟩
  rw [samp_ok]
  rw [samp_shp] at R
  obtain ⟨ad, cap, he, hl, hn⟩ := R.rowL (fun c x _ h => by
    exact shpA_ofO h)
  obtain ⟨rfl, rfl, rfl⟩ : ra = ad ∧ rn = 4 ∧ rc = cap := by simpa using he
  obtain ⟨_, _, hl⟩ := hl
  rcases hl with hl | ⟨b, o, rfl, hx⟩
  · cases hl
  obtain ⟨a0, c0, x0, A0, _⟩ := hx 0 [2, 3] rfl
  obtain ⟨a1, c1, x1, A1, _⟩ := hx 1 [3, 1] rfl
  obtain ⟨a2, c2, x2, A2, _⟩ := hx 2 [2, 1] rfl
  obtain ⟨a3, c3, x3, A3, _⟩ := hx 3 [2, 1] rfl
  have HX := Lib.hid (And.intro x0 (And.intro x1 (And.intro x2 x3)))
  have HA := Lib.hid (And.intro A0 (And.intro A1 (And.intro A2 A3)))
  have HY2 := Lib.hid (HY1.out.trans (hy2.mono HY1.out.size))
  clear hx hn he R hy2 x0 x1 x2 x3 A0 A1 A2 A3
  go_wp2_with fail
  refine (sample_any y2).mono ?_
  rintro e y3 ⟨g0, g1, gs, g2, g3, g4, g5, g6, ea, ec, rfl, S2, hg3, hy3⟩
  rw [samp_cells]
  obtain ⟨V1, hV1⟩ : ∃ V1, (y3.alloc (.cells #[.int .i64 0, .slice none 0 0, .slice none 0 0, .slice none 0 0, .slice none 0 0, .bool false, .slice none 0 0, .slice none 0 0] 29)).setRow y3.heap.size #[.int .i64 3, .slice (some ⟨g1, 0, none⟩) 1 1, .slice (some ⟨g2, 0, none⟩) 1 1, .slice (some ⟨g5, 0, none⟩) 2 2, .slice (some ⟨g6, 0, none⟩) 1 1, .bool false, .slice none 0 0, .slice none 0 0] = V1 := ⟨_, rfl⟩
  have hRaw : Row (y3.alloc (.cells #[.int .i64 0, .slice none 0 0, .slice none 0 0, .slice none 0 0, .slice none 0 0, .bool false, .slice none 0 0, .slice none 0 0] 29)) y3.heap.size 29 #[.int .i64 0, .slice none 0 0, .slice none 0 0, .slice none 0 0, .slice none 0 0, .bool false, .slice none 0 0, .slice none 0 0] := Row.new _ _ _
  have RG : Row V1 y3.heap.size 29 #[.int .i64 3, .slice (some ⟨g1, 0, none⟩) 1 1, .slice (some ⟨g2, 0, none⟩) 1 1, .slice (some ⟨g5, 0, none⟩) 2 2, .slice (some ⟨g6, 0, none⟩) 1 1, .bool false, .slice none 0 0, .slice none 0 0] := by rw [← hV1]; exact hRaw.setRow
  have b31 : Below y3.heap.size y3 V1 := by rw [← hV1]; exact below_setRow ((Below.refl _ _).alloc (Nat.le_refl _) _) (Nat.le_refl _)
  have S3 := S2.later b31
  obtain ⟨V, hV⟩ : ∃ V, V1.setCell ⟨g3, 1, none⟩ (.int .i64 3) = V := ⟨_, rfl⟩
  have RV : Row V g3 3 #[.int .i64 0, .int .i64 3] := by rw [← hV]; exact S3.r3.set21 _
  have hk : ∀ k, k ≠ g3 → V.heap[k]? = V1.heap[k]? := fun k hk => by rw [← hV]; exact Below.heap_setCell V1 _ _ k hk
  have S4 := S3.set hk RV
  have RGV : Row V y3.heap.size 29 #[.int .i64 3, .slice (some ⟨g1, 0, none⟩) 1 1, .slice (some ⟨g2, 0, none⟩) 1 1, .slice (some ⟨g5, 0, none⟩) 2 2, .slice (some ⟨g6, 0, none⟩) 1 1, .bool false, .slice none 0 0, .slice none 0 0] := (hk _ (rowNe RG S3.r3 (by decide))).trans RG
  have b2V : Below y2.heap.size y2 V := by rw [← hV]; exact (hy3.trans (b31.mono hy3.size)).setCell (p := ⟨g3, 1, none⟩) hg3 _
  have HBV := Lib.hid (HY2.out.trans (b2V.mono HY2.out.size))
  have HXV := Lib.hid (And.intro (oldCell HX.out.1 b2V) (And.intro (oldCell HX.out.2.1 b2V) (And.intro (oldCell HX.out.2.2.1 b2V) (oldCell HX.out.2.2.2 b2V))))
  have HAV := Lib.hid (And.intro (HA.out.1.later b2V) (And.intro (HA.out.2.1.later b2V) (And.intro (HA.out.2.2.1.later b2V) (HA.out.2.2.2.later b2V))))
  have HS4 := Lib.hid S4
  have HRGV := Lib.hid RGV
  have HRAW := Lib.hid hRaw
  have HGV := Lib.hid (HG.out.later (HY2.out.trans (b2V.mono HY2.out.size)))
  have HONE := Lib.hid (show (#[.int .i64 3, .slice (some ⟨g1, 0, none⟩) 1 1, .slice (some ⟨g2, 0, none⟩) 1 1, .slice (some ⟨g5, 0, none⟩) 2 2, .slice (some ⟨g6, 0, none⟩) 1 1, .bool false, .slice none 0 0, .slice none 0 0] : Array Value).all (·.oneCell') = true by simp [Value.oneCell'])
  have k3 := RG.cell 3
  have n1 := S3.r5.cell 1
  have m1 := S3.r3.cell 1
  have m2 := S3.r3.free 1
  simp only [List.getElem?_toArray, List.getElem?_cons_zero, List.getElem?_cons_succ] at k3 n1 m1
  have x0 := HXV.out.1
  simp only [Nat.add_zero] at x0
  clear RG b31 S3 S2 RV hk S4 RGV b2V hRaw hy3
  go_wp2_with (refine wpList_store_row rfl 29 _ _ rfl y3.heap.size #[.int .i64 3, .slice (some ⟨g1, 0, none⟩) 1 1, .slice (some ⟨g2, 0, none⟩) 1 1, .slice (some ⟨g5, 0, none⟩) 2 2, .slice (some ⟨g6, 0, none⟩) 1 1, .bool false, .slice none 0 0, .slice none 0 0] (by rfl) (by rfl) 29 #[.int .i64 0, .slice none 0 0, .slice none 0 0, .slice none 0 0, .slice none 0 0, .bool false, .slice none 0 0, .slice none 0 0] HRAW.out (by kernel_rfl) rfl HONE.out ?_; rw [hV1])
  refine (sameSh_any (HAV.out.1.later ((Below.refl _ _).alloc (Nat.le_refl _) _)) (ints_row (l := [2, 3]) (Row.new V 3 #[.int .i64 2, .int .i64 3]) rfl (by simp)) (by simp)).mono ?_
  rintro e u0 ⟨rfl, hb⟩
  have hd : decide (([2, 3] : List Int) = [2, 3]) = true := rfl
  rw [hd]
  clear hd
  have HU0 := Lib.hid (((Below.refl _ V).alloc (Nat.le_refl _) _).trans (hb.mono (by simp)))
  have x1 := oldCell HXV.out.2.1 HU0.out
  clear hb x0
  go_wp2_with fail
  refine (sameSh_any (HAV.out.2.1.later (HU0.out.alloc HU0.out.size _)) (ints_row (l := [3, 1]) (Row.new u0 3 #[.int .i64 3, .int .i64 1]) rfl (by simp)) (by simp)).mono ?_
  rintro e u1 ⟨rfl, hb⟩
  have hd : decide (([3, 1] : List Int) = [3, 1]) = true := rfl
  rw [hd]
  clear hd
  have HU1 := Lib.hid ((HU0.out.alloc HU0.out.size _).trans (hb.mono (by have := HU0.out.size; simp; omega)))
  have x2 := oldCell HXV.out.2.2.1 HU1.out
  clear hb x1
  go_wp2_with fail
  refine (sameSh_any (HAV.out.2.2.1.later (HU1.out.alloc HU1.out.size _)) (ints_row (l := [2, 1]) (Row.new u1 3 #[.int .i64 2, .int .i64 1]) rfl (by simp)) (by simp)).mono ?_
  rintro e u2 ⟨rfl, hb⟩
  have hd : decide (([2, 1] : List Int) = [2, 1]) = true := rfl
  rw [hd]
  clear hd
  have HU2 := Lib.hid ((HU1.out.alloc HU1.out.size _).trans (hb.mono (by have := HU1.out.size; simp; omega)))
  have x3 := oldCell HXV.out.2.2.2 HU2.out
  clear hb x2
  go_wp2_with fail
  refine (sameSh_any (HAV.out.2.2.2.later (HU2.out.alloc HU2.out.size _)) (ints_row (l := [2, 1]) (Row.new u2 3 #[.int .i64 2, .int .i64 1]) rfl (by simp)) (by simp)).mono ?_
  rintro e u3 ⟨rfl, hb⟩
  have hd : decide (([2, 1] : List Int) = [2, 1]) = true := rfl
  rw [hd]
  clear hd
  have HU3 := Lib.hid ((HU2.out.alloc HU2.out.size _).trans (hb.mono (by have := HU2.out.size; simp; omega)))
  have RGU := HRGV.out.later HU3.out
  have z0 := RGU.cell 0
  have z1 := RGU.cell 1
  have z2 := RGU.cell 2
  have z3 := RGU.cell 3
  have z4 := RGU.cell 4
  have z5 := RGU.cell 5
  have z6 := RGU.cell 6
  have z7 := RGU.cell 7
  simp only [List.getElem?_toArray, List.getElem?_cons_zero, List.getElem?_cons_succ] at z0 z1 z2 z3 z4 z5 z6 z7
  have hc := checkCX_any (g := sampD 3) (A := sampA g1 g2 g5 g6) (w := u3) (fun X hX => samp_ck (HS4.out.later (HU3.out.trans (hX.mono HU3.out.size))) (by omega) (HGV.out.later (HU3.out.trans (hX.mono HU3.out.size))))
  rw [samp_cells, samp_no] at hc
  have HCX := Lib.hid hc
  clear hb x3 hc RGU
  go_wp2_with fail
  refine HCX.out.mono ?_
  rintro e y9 ⟨rfl, hb⟩
  go_wp2_with fail
  go_ret
  exact ⟨rfl, HBV.out.trans ((HU3.out.trans (hb.mono HU3.out.size)).mono HBV.out.size)⟩
end
end Go.Proofs.YtjgiacghlkkjfaaGreatDoor
