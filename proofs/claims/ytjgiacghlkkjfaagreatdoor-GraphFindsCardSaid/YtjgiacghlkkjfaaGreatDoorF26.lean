/-
  Part 26 of 29: contracts and what they rest on (GBody, GCheck).
-/
import Derived.Test.YtjgiacghlkkjfaaGreatDoorF1
import Derived.Test.YtjgiacghlkkjfaaGreatDoorF2
import Derived.Test.YtjgiacghlkkjfaaGreatDoorF3
import Derived.Test.YtjgiacghlkkjfaaGreatDoorF4
import Derived.Test.YtjgiacghlkkjfaaGreatDoorF5
import Derived.Test.YtjgiacghlkkjfaaGreatDoorF6
import Derived.Test.YtjgiacghlkkjfaaGreatDoorF7
import Derived.Test.YtjgiacghlkkjfaaGreatDoorF8
import Derived.Test.YtjgiacghlkkjfaaGreatDoorF9
import Derived.Test.YtjgiacghlkkjfaaGreatDoorF10
import Derived.Test.YtjgiacghlkkjfaaGreatDoorF11
import Derived.Test.YtjgiacghlkkjfaaGreatDoorF13
import Derived.Test.YtjgiacghlkkjfaaGreatDoorF14
import Derived.Test.YtjgiacghlkkjfaaGreatDoorF15
import Derived.Test.YtjgiacghlkkjfaaGreatDoorF16
import Derived.Test.YtjgiacghlkkjfaaGreatDoorF18
import Derived.Test.YtjgiacghlkkjfaaGreatDoorF19
import Derived.Test.YtjgiacghlkkjfaaGreatDoorF21
import Derived.Test.YtjgiacghlkkjfaaGreatDoorF23
import Derived.Test.YtjgiacghlkkjfaaGreatDoorF24
import Derived.Test.YtjgiacghlkkjfaaGreatDoorF25
import Derived.WalkKit
import Derived.Test.YtjgiacghlkkjfaaGreatDoorRows
import Derived.OrdersHeld
import Derived.Deep.RegionHeld
import Derived.BigQuiet
import Derived.Deep.QuietTactic
import Derived.Lib.Hide
import Derived.Lib.Small
import Derived.Lib.Walk
import Derived.Lib.BitFns
import Derived.Maps.AppendAt
import Derived.RangeFuncNested
import Derived.RangeFuncBound
import Derived.RangeFuncCalls
import Derived.RangeFuncLeaves
import Derived.Shelf.Abstract
import Derived.OwnWalkIn
import Derived.TacticsInMore
import Derived.LoopNIn
import Derived.LoopIn
import Derived.RangeFuncBox
import Derived.Deep.RegionHeld3
import Derived.OrdersIn
import Derived.StillTailTactics
import Derived.RangeFuncFrom
import Derived.Laws.EntriesVeiled
import Derived.ProofKit
import Derived.OpenShut
import Derived.JoinedCond
import Derived.Carry
import Derived.Laws.AppendOwnNone
import Derived.Lib.ItoaNum
import Derived.Deep.RegionLaw
import Derived.WalkMore
import Derived.Lib.SmallJoins
import Derived.IntWalk
import Derived.Deep.DeepCutAuto
import Derived.Laws.OwnMore
import Derived.ArgAppend
import Derived.Deep.Slices
import Derived.Laws.CopyOwn
import Derived.Lib.SliceRun
import Derived.SizedLaws
import Derived.Great.BuildSlice
import Derived.Defers
import Derived.Recover
import Derived.Shelf.Small.Wraps
import Derived.Shelf.Strconv.Itoa3
import Derived.Shelf.Strconv.AtoiAll
import Derived.Laws.RangeAny
import Derived.Lib.AppendZerosOnto
import Derived.Maps.OwnSet
import Derived.Maps.Views
namespace Go.Proofs.YtjgiacghlkkjfaaGreatDoor
set_option maxRecDepth 100000
section
open Go.RowKit
set_option linter.unusedVariables false
set_option linter.unusedSimpArgs false
def OfG (w0 : World) (f : List (List Int)) (x : Int) (w : World) (e : Ending) (w' : World) : Prop := ∃ (a : Option Addr) (n c : Nat), e = (if decide (0 ≤ x ∧ x < (f.length : Int)) = true then .returned (.slice a n c) else .panicked (diesV 12)) ∧ (decide (0 ≤ x ∧ x < (f.length : Int)) = true → ShpQ w0 w' [.slice a n c] (f.getD x.toNat [])) ∧ Below w.heap.size w w'
set_option maxRecDepth 100000 in
set_option maxHeartbeats 4000000 in
theorem shapeOf_any {gf : Nat} {f : List (List Int)} {av : Option Addr} {cv : Nat} {w0 w : World} (R : Row w0 gf 36 #[.slice av f.length cv]) (L : RowL w0 (.slice av f.length cv) f av cv) (hb : Below w0.heap.size w0 w) (x : Int) (hl : f.length ≤ 17592186044416) :
    Calls Tryz.prog 112 #[.int .i64 x, .pointer (some ⟨gf, 0, none⟩)] w (OfG w0 f x w) := by
  have k0 := (R.later hb).cell 0
  simp only [List.getElem?_toArray, List.getElem?_cons_zero] at k0
  by_cases h0 : 0 ≤ x
  · by_cases h1 : x < (f.length : Int)
    · obtain ⟨i, rfl⟩ : ∃ i : Nat, x = (i : Int) := ⟨x.toNat, by omega⟩
      have hd : decide (0 ≤ (i : Int) ∧ (i : Int) < (f.length : Int)) = true := decide_eq_true ⟨h0, h1⟩
      obtain ⟨b, o0, a, c, rfl, hbl, hc, hA, hn⟩ := L.at (i := i) (by omega)
      have hc1 := oldCell hc hb
      have HB := Lib.hid hb
      obtain ⟨l, hl1⟩ : ∃ n, f.length = n := ⟨_, rfl⟩
      obtain ⟨m, hm⟩ : ∃ n, (shpI f i).length = n := ⟨_, rfl⟩
      have HS := Lib.hid (show ShpQ w0 w [.slice a (shpI f i).length c] (f.getD (i : Int).toNat []) from ⟨a, c, rfl, hA, hn, hb⟩)
      rw [hm] at hc1 HS
      rw [hl1] at k0 h1
      have HD := Lib.hid hd
      have HF := Lib.hid hl1
      clear L R hb hA hn hd hc hl1 hm
      go_enter Tryz.func112, Tryz.ntmps112
      go_wp2_with fail
      refine (demand_yes _ _).mono ?_
      rintro e w' ⟨rfl, rfl⟩
      go_wp2_with fail
      go_ret
      exact ⟨a, m, c, (if_pos HD.out).symm, fun _ => HS.out, Below.refl _ _⟩
    · have hd : decide (0 ≤ x ∧ x < (f.length : Int)) = false := decide_eq_false (fun h => h1 h.2)
      obtain ⟨l, hl1⟩ : ∃ n, f.length = n := ⟨_, rfl⟩
      rw [hl1] at k0 h1
      have h1 : decide (x < (l : Int)) = false := decide_eq_false h1
      have HD := Lib.hid hd
      clear L R hb hd hl1
      go_enter Tryz.func112, Tryz.ntmps112
      go_wp2_with fail
      refine (demand_no _ _).mono ?_
      rintro e w' ⟨rfl, rfl⟩
      exact ⟨rfl, none, 0, 0, (if_neg (by rw [HD.out]; simp)).symm, (fun h => by rw [HD.out] at h; cases h), Below.refl _ _⟩
  · have hd : decide (0 ≤ x ∧ x < (f.length : Int)) = false := decide_eq_false (fun h => h0 h.1)
    have h2 : decide (0 ≤ x) = false := decide_eq_false h0
    have HD := Lib.hid hd
    clear L R hb hd k0
    go_enter Tryz.func112, Tryz.ntmps112
    go_wp2_with fail
    refine (demand_no _ _).mono ?_
    rintro e w' ⟨rfl, rfl⟩
    exact ⟨rfl, none, 0, 0, (if_neg (by rw [HD.out]; simp)).symm, (fun h => by rw [HD.out] at h; cases h), Below.refl _ _⟩
/-- a shape that lies there -/
def ShpA (w : World) (c : List Value) (x : List Int) : Prop := ∃ (a : Option Addr) (n : Nat), c = [.slice a x.length n] ∧ ArgS w (.slice a x.length n) x a n ∧ (a = none → n = 0)
theorem shpA_ofO {B : Nat} {w : World} {c : List Value} {x : List Int} (h : ShpO B w c x) : ShpA w c x := by
  obtain ⟨a, n, rfl, h⟩ := h
  obtain ⟨e, h2, h3⟩ := h.at_
  exact ⟨a, n, rfl, h2, h3⟩
theorem shpA_ofQ {w0 w : World} {c : List Value} {x : List Int} (h : ShpQ w0 w c x) : ShpA w c x := by
  obtain ⟨a, n, rfl, h1, h2, h3⟩ := h
  exact ⟨a, n, rfl, h1.later h3, h2⟩
/-- rows outlast an append to a row of another kind, and a store into a variable of another kind -/
theorem rowGrown {base k n g : Nat} {T t : TypeId} {w w1 : World} {o : Obj} {v : Value} {xs : List Value} {cs : Array Value} (R : Row w g t cs) (ho : w.ownsRow base T k v n xs) (hg : (w.alloc o).grownBy w1 v.ownBlock) (ht : T ≠ t) : Row w1 g t cs := by
  have hlt := R.lt
  refine ((hg.block g (by simp; omega) (fun e => ?_)).trans (Below.heap_alloc _ _ _ hlt)).trans R
  obtain ⟨_, k2⟩ := ho
  rcases k2 with ⟨rfl, _⟩ | ⟨g2, cap2, cur2, rfl, _, hg2, _⟩
  · cases e
  · have e2 : g2 = g := by simpa [Value.ownBlock] using e.symm
    subst e2
    have R' : w.heap[g2]? = some (.cells cs t (0, 0)) := R
    rw [R'] at hg2
    simp only [Option.some.injEq, Obj.cells.injEq] at hg2
    exact ht hg2.2.1.symm
theorem RowC.far {B gf k : Nat} {T t : TypeId} {α : Type} {Q : World → List Value → α → Prop} {w w' : World} {v : Value} {cs : Array Value} {l : List α} (h : RowC B T k Q w v l) (R : Row w gf t cs) (h1 : t ≠ T) (hk : ∀ k, k ≠ gf → w'.heap[k]? = w.heap[k]?) (hQ : ∀ c x, Q w c x → Q w' c x) : RowC B T k Q w' v l := by
  obtain ⟨cs', ⟨o1, o2⟩, h3, h4, h5⟩ := h
  refine ⟨cs', ⟨o1, ?_⟩, h3, h4, fun i c x a b => hQ _ _ (h5 i c x a b)⟩
  rcases o2 with o2 | ⟨g, cap, cur, rfl, hb, hg, hr⟩
  · exact .inl o2
  · refine .inr ⟨g, cap, cur, rfl, hb, (hk g fun e => ?_).trans hg, hr⟩
    subst e
    have R' : w.heap[g]? = some (.cells cs t (0, 0)) := R
    rw [R'] at hg
    simp only [Option.some.injEq, Obj.cells.injEq] at hg
    exact h1 hg.2.1
set_option maxRecDepth 100000 in
set_option maxHeartbeats 1000000 in
theorem args_yes {gf : Nat} {f : List (List Int)} {av a1 : Option Addr} {cv c1 : Nat} {w : World} {ys : List Int} (R : Row w gf 36 #[.slice av f.length cv]) (L : RowL w (.slice av f.length cv) f av cv) (hl : f.length ≤ 17592186044416) (A0 : ArgS w (.slice a1 ys.length c1) ys a1 c1) (hy : ys.length ≤ 1000000) (h : refB f.length ys = true) :
    Calls Tryz.prog 63 #[.slice a1 ys.length c1, .func (.func 112) #[] #[.pointer (some ⟨gf, 0, none⟩)]] w fun e w' => ∃ (al : Option Addr) (cl : Nat), e = .returned (.slice al ys.length cl) ∧ RowC w.heap.size 43 1 (ShpQ w) w' (.slice al ys.length cl) (argsI f ys) ∧ Below w.heap.size w w' := by
  refine (eachIS_any (f := fun x => f.getD x.toNat []) (Q := ShpQ w) (okB := fun x => decide (0 ≤ x ∧ x < (f.length : Int))) (c0 := 12) A0 hy (fun args w => enters_of Tryz.func112 (by kernel_rfl) rfl args w) (lat_shpQ w) (apa_shpQ w) (fun W x _ hb => by have h := shapeOf_any R L hb x hl; exact h)).mono ?_
  intro e w' he
  have h' : (ys.all fun x => decide (0 ≤ x ∧ x < (f.length : Int))) = true := h
  unfold EachI at he
  rw [if_pos h'] at he
  obtain ⟨v, rfl, hv, hb⟩ := he
  obtain ⟨al, cl, rfl⟩ := hv.slice
  rw [List.length_map] at hv ⊢
  exact ⟨al, cl, rfl, hv, hb⟩
set_option maxRecDepth 100000 in
set_option maxHeartbeats 1000000 in
theorem args_no {gf : Nat} {f : List (List Int)} {av a1 : Option Addr} {cv c1 : Nat} {w : World} {ys : List Int} (R : Row w gf 36 #[.slice av f.length cv]) (L : RowL w (.slice av f.length cv) f av cv) (hl : f.length ≤ 17592186044416) (A0 : ArgS w (.slice a1 ys.length c1) ys a1 c1) (hy : ys.length ≤ 1000000) (h : refB f.length ys = false) :
    Calls Tryz.prog 63 #[.slice a1 ys.length c1, .func (.func 112) #[] #[.pointer (some ⟨gf, 0, none⟩)]] w fun e w' => e = .panicked (diesV 12) ∧ Below w.heap.size w w' := by
  refine (eachIS_any (f := fun x => f.getD x.toNat []) (Q := ShpQ w) (okB := fun x => decide (0 ≤ x ∧ x < (f.length : Int))) (c0 := 12) A0 hy (fun args w => enters_of Tryz.func112 (by kernel_rfl) rfl args w) (lat_shpQ w) (apa_shpQ w) (fun W x _ hb => by have h := shapeOf_any R L hb x hl; exact h)).mono ?_
  intro e w' he
  unfold EachI at he
  rw [if_neg (by rw [show (ys.all fun x => decide (0 ≤ x ∧ x < (f.length : Int))) = false from h]; simp)] at he
  exact he
/-- what checkBody leaves -/
def BodyG (g : GrD) (w : World) (e : Ending) (w' : World) : Prop :=
  Below w.heap.size w w' ∧ if bodyC (mostN g.ps) g.v (headS g.ps g.ws) g.b = 0 then ∃ r q, e = .returned (.tuple #[r, q]) ∧ RowC w.heap.size 43 1 (ShpO w.heap.size) w' r (fwdF g) ∧ RowC w.heap.size 43 1 ShpA w' q (argsI (fwdF g) g.b.os) else e = .panicked (diesV (bodyC (mostN g.ps) g.v (headS g.ps g.ws) g.b))
theorem BodyG.die {g : GrD} {w w' : World} {c : Int} (h : bodyC (mostN g.ps) g.v (headS g.ps g.ws) g.b = c) (hc : ¬ c = 0) (hb : Below w.heap.size w w') : BodyG g w (.panicked (diesV c)) w' := by
  refine ⟨hb, ?_⟩
  rw [h, if_neg hc]
/-- the loop over nodes -/
def InvG (g : GrD) (A : AdG) (w : World) (gf k : Nat) (wr : World) : Prop :=
  ∃ vv, Row wr w.heap.size 29 (cellsG g A) ∧ Row wr gf 36 #[vv] ∧ RowC w.heap.size 43 1 (ShpO w.heap.size) wr vv (nodesF g.v (headS g.ps g.ws) (g.b.ns.take k)) ∧ Below w.heap.size w wr ∧ nodesC g.v (headS g.ps g.ws) (g.b.ns.take k) = 0 ∧ ∀ x ∈ nodesF g.v (headS g.ps g.ws) (g.b.ns.take k), x.length ≤ 17592186044416
set_option maxRecDepth 100000 in
set_option maxHeartbeats 20000000 in
theorem checkBody_any {g : GrD} {A : AdG} {w : World} (H : GrA w g A) (L : LimG g) (G : Glb w) (hp : g.ps.length ≤ 100000) (hw : g.ws.length ≤ 100000) (hnn : g.b.ns.length ≤ 500000) (hoo : g.b.os.length ≤ 500000) : Calls Tryz.prog 69 #[.agg (cellsG g A)] w (BodyG g w) := by
  have HH := Lib.hid H
  have HL := Lib.hid L
  have hhs := fun X (hX : Below w.heap.size w X) => headShapes_any (H.later hX) L hp hw
  have how := fun X (hX : Below w.heap.size w X) => isOwn_any (H.later hX) L (G.later hX)
  obtain ⟨W, hW⟩ : ∃ W, w.alloc (.cells (cellsG g A) 29) = W := ⟨_, rfl⟩
  have R0 : Row W w.heap.size 29 (cellsG g A) := by rw [← hW]; exact Row.new _ _ _
  have hbW : Below w.heap.size w W := by rw [← hW]; exact (Below.refl _ _).alloc (Nat.le_refl _) _
  have hsW : w.heap.size < W.heap.size := R0.lt
  have hf0 : (headS g.ps g.ws).length = g.ps.length + g.ws.length := by simp [headS]
  have hfl : ∀ x ∈ headS g.ps g.ws, x.length ≤ 17592186044416 := fun x hx => by
    rcases List.mem_append.1 hx with hx | hx
    · obtain ⟨p, hp1, rfl⟩ := List.mem_map.1 hx
      exact (L.pn p hp1).2
    · obtain ⟨p, hp1, rfl⟩ := List.mem_map.1 hx
      exact Nat.le_trans (L.wn p hp1).2.1 (by decide)
  obtain ⟨bc, hbc⟩ : ∃ c, bodyC (mostN g.ps) g.v (headS g.ps g.ws) g.b = c := ⟨_, rfl⟩
  obtain ⟨t, ht⟩ : ∃ t, ownB g.ps = t := ⟨_, rfl⟩
  obtain ⟨gv, hgv⟩ : ∃ c, g.v = c := ⟨_, rfl⟩
  obtain ⟨np, hnp⟩ : ∃ n, g.ps.length = n := ⟨_, rfl⟩
  obtain ⟨nw, hnw⟩ : ∃ n, g.ws.length = n := ⟨_, rfl⟩
  obtain ⟨nn, hnn1⟩ : ∃ n, g.b.ns.length = n := ⟨_, rfl⟩
  obtain ⟨no, hno⟩ : ∃ n, g.b.os.length = n := ⟨_, rfl⟩
  obtain ⟨nv, hnv⟩ : ∃ n, g.vb.ns.length = n := ⟨_, rfl⟩
  obtain ⟨nu, hnu⟩ : ∃ n, g.vb.os.length = n := ⟨_, rfl⟩
  obtain ⟨hv, hhv⟩ : ∃ n, g.hv = n := ⟨_, rfl⟩
  obtain ⟨na, hna⟩ : ∃ n, A.na = n := ⟨_, rfl⟩
  have hcl : cellsG g A = #[.int .i64 gv, .slice A.pa np A.pc, .slice A.wa nw A.wc, .slice na nn A.nc, .slice A.oa no A.oc, .bool hv, .slice A.va nv A.vc, .slice A.ua nu A.uc] := by unfold cellsG; rw [hgv, hnp, hnw, hnn1, hno, hnv, hnu, hhv, hna]
  rw [ht] at how
  rw [hcl] at hhs how hW R0 ⊢
  rw [hnn1] at hnn
  rw [hno] at hoo
  rw [hnp] at hp
  rw [hnw] at hw
  have HHS := Lib.hid hhs
  have HOW := Lib.hid how
  have HBC := Lib.hid hbc
  have HT := Lib.hid ht
  have HGV := Lib.hid hgv
  have HNP := Lib.hid hnp
  have HNW := Lib.hid hnw
  have HNN := Lib.hid hnn1
  have HNO := Lib.hid hno
  have HNA := Lib.hid hna
  have HCL := Lib.hid hcl
  have HFL := Lib.hid hfl
  have HF0 := Lib.hid hf0
  have HR0 := Lib.hid R0
  have k0 := (R0.cell 0)
  have k1 := (R0.cell 1)
  have k2 := (R0.cell 2)
  have k3 := (R0.cell 3)
  have k4 := (R0.cell 4)
  have k5 := (R0.cell 5)
  have k6 := (R0.cell 6)
  have k7 := (R0.cell 7)
  simp only [List.getElem?_toArray, List.getElem?_cons_zero, List.getElem?_cons_succ] at k0 k1 k2 k3 k4 k5 k6 k7
  clear hhs how hbc ht hgv hnp hnw hnn1 hno hnv hnu hhv hna hcl hfl hf0 R0 H L G
  go_enter Tryz.func69, Tryz.ntmps69
  (try rw [hW])
  go_wp2_with fail
  (try rw [hW])
  clear hW
  refine (HHS.out _ hbW).mono ?_
  rintro e y1 ⟨r, rfl, hr, hy⟩
  obtain ⟨av, cv, rfl⟩ := hr.slice
  rw [HF0.out] at hr ⊢
  have HRR := Lib.hid hr
  obtain ⟨V, hV⟩ : ∃ V, y1.alloc (.cells #[.slice av (g.ps.length + g.ws.length) cv] 36) = V := ⟨_, rfl⟩
  have bV : Below y1.heap.size y1 V := by rw [← hV]; exact (Below.refl _ _).alloc (Nat.le_refl _) _
  have bWV : Below W.heap.size W V := hy.trans (bV.mono hy.size)
  have hbV : Below w.heap.size w V := hbW.trans (bWV.mono hbW.size)
  have Rf : Row V y1.heap.size 36 #[.slice av (g.ps.length + g.ws.length) cv] := by rw [← hV]; exact Row.new _ _ _
  have Rg := HR0.out.later bWV
  have hne : w.heap.size ≠ y1.heap.size := by have := hy.size; omega
  have HRF := Lib.hid Rf
  have HYL := Lib.hid (show w.heap.size ≤ y1.heap.size by have := hy.size; omega)
  have HRG := Lib.hid Rg
  have HBV := Lib.hid bV
  clear hr k0 k1 k2 k3 k4 k5 k6 k7
  have k0 := (Rg.cell 0)
  have k1 := (Rg.cell 1)
  have k2 := (Rg.cell 2)
  have k3 := (Rg.cell 3)
  have k4 := (Rg.cell 4)
  have k5 := (Rg.cell 5)
  have k6 := (Rg.cell 6)
  have k7 := (Rg.cell 7)
  simp only [List.getElem?_toArray, List.getElem?_cons_zero, List.getElem?_cons_succ] at k0 k1 k2 k3 k4 k5 k6 k7
  clear Rf Rg bV
  obtain ⟨lim, hlim⟩ : ∃ n, mostN g.ps = n := ⟨_, rfl⟩
  have HLIM := Lib.hid hlim
  clear hlim
  go_wp2_with fail
  (try rw [hV])
  clear hV
  refine (HOW.out _ hbV).mono ?_
  rintro e y2 ⟨rfl, hy2⟩
  go_upto_if 15 with fail
  go_cut [6] (fun s6 wx => s6 = .int .i64 (lim : Int) ∧ wx = y2)
  case first =>
    cases t with
    | true =>
      obtain rfl : lim = 32768 := by rw [← HLIM.out]; unfold mostN; rw [HT.out]; rfl
      go_wp2_with fail
      go_meet
      exact ⟨rfl, rfl⟩
    | false =>
      obtain rfl : lim = 1024 := by rw [← HLIM.out]; unfold mostN; rw [HT.out]; rfl
      go_wp2_with fail
      go_meet
      exact ⟨rfl, rfl⟩
  obtain ⟨rfl, rfl⟩ := hcut
  rename World => y2
  have RG2 := (HRG.out.later hy2)
  have RF2 := (HRF.out.later hy2)
  have hb2 : Below w.heap.size w y2 := hbV.trans (hy2.mono hbV.size)
  have HB2 := Lib.hid hb2
  have hinv : InvG g A w y1.heap.size 0 y2 := ⟨_, by rw [HCL.out]; exact RG2, RF2, by rw [List.take_zero]; exact ((HRR.out.mono (base' := w.heap.size) (Q' := ShpO w.heap.size) hbW.size (fun c x _ h => by
    obtain ⟨a, n, e, h⟩ := h
    exact ⟨a, n, e, h.mono hbW.size⟩)).later (lat_shpO _) (HBV.out.trans (hy2.mono HBV.out.size))), hb2, by rw [List.take_zero]; rfl, by rw [List.take_zero]; exact HFL.out⟩
  have HINV := Lib.hid hinv
  clear hinv k0 k1 k2 k3 k4 k5 k6 k7
  have k0 := (RG2.cell 0)
  have k1 := (RG2.cell 1)
  have k2 := (RG2.cell 2)
  have k3 := (RG2.cell 3)
  have k4 := (RG2.cell 4)
  have k5 := (RG2.cell 5)
  have k6 := (RG2.cell 6)
  have k7 := (RG2.cell 7)
  simp only [List.getElem?_toArray, List.getElem?_cons_zero, List.getElem?_cons_succ] at k0 k1 k2 k3 k4 k5 k6 k7
  have KK := Lib.hid (And.intro k0 (And.intro k3 k4))
  clear RG2 RF2 hy2 hb2 k1 k2 k5 k6 k7 hbV
  by_cases hl1 : nn ≤ lim
  case neg =>
    have hl2 : ¬ (nn : Int) ≤ (lim : Int) := by omega
    have hd : BodyG g w (.panicked (diesV 14)) y2 := BodyG.die (by unfold bodyC; rw [HLIM.out, HNN.out, if_pos (by omega)]) (by decide) HB2.out
    have HD := Lib.hid hd
    clear hd hl1
    go_wp2_with fail
    refine (demand_no _ _).mono ?_
    rintro e w' ⟨rfl, rfl⟩
    exact ⟨rfl, HD.out⟩
  case pos =>
  have hl2 : (nn : Int) ≤ (lim : Int) := by omega
  have HL1 := Lib.hid hl1
  clear hl1
  go_wp2_with fail
  refine (demand_yes _ _).mono ?_
  rintro e w' ⟨rfl, rfl⟩
  go_wp2_with fail
  clear k0 k3 k4
  go_loopw [27] (fun i wr => ∃ k : Nat, i = .int .i64 (k : Int) ∧ k ≤ nn ∧ InvG g A w y1.heap.size k wr) (fun i _ => nn - (intOf i).toNat)
  case atStart => exact ⟨0, rfl, Nat.zero_le _, HINV.out⟩
  case round =>
    rename World => wr
    obtain ⟨k, rfl, hk, vv, Rg, Rf, hrow, hbE, hC, hFL⟩ := hrel
    rw [HCL.out] at Rg
    obtain ⟨av, cv, rfl⟩ := hrow.slice
    have hflen : (nodesF g.v (headS g.ps g.ws) (g.b.ns.take k)).length = g.ps.length + g.ws.length + k := by rw [nodesF_len, HF0.out, List.length_take, HNN.out]; omega
    obtain ⟨f, hf⟩ : ∃ f, nodesF g.v (headS g.ps g.ws) (g.b.ns.take k) = f := ⟨_, rfl⟩
    rw [hf] at hrow hflen hFL Rf
    have hfl2 : f.length ≤ 700000 := by rw [hflen, HNP.out, HNW.out]; omega
    have HF := Lib.hid hf
    have HC := Lib.hid hC
    have HFL2 := Lib.hid hFL
    have HROW := Lib.hid hrow
    have HFLEN := Lib.hid hflen
    obtain ⟨avL, cvL, eL, RLf, _⟩ := hrow.rowL (fun c x _ h => shpA_ofO h)
    cases eL
    have HRLf := Lib.hid RLf
    clear hf hC hFL hrow hflen RLf
    obtain ⟨m, hm⟩ : ∃ m, f.length = m := ⟨_, rfl⟩
    rw [hm] at Rf hfl2
    have HM := Lib.hid hm
    clear hm
    have hne1 : w.heap.size ≠ y1.heap.size := hne
    have hszE := hbE.size
    have hcl0 := Rg.cell 0
    simp only [List.getElem?_toArray, List.getElem?_cons_zero] at hcl0
    by_cases hlt : k < nn
    · have hltI : (k : Int) < (nn : Int) := by omega
      obtain ⟨b1, o1, x, hna2, hx, a1, c1, a2, c2, n0, n1, n2, hA, hn, hA2, hn2⟩ := ((HH.out.ns).later stays_nod hbE).at (i := k) (by rw [HNN.out]; exact hlt)
      rw [HNA.out] at hna2
      subst hna2
      have hlim := HL.out.nn x (List.mem_of_getElem? hx)
      obtain ⟨xo, hxo⟩ : ∃ c, x.o = c := ⟨_, rfl⟩
      obtain ⟨lx, hlx⟩ : ∃ c, x.ys.length = c := ⟨_, rfl⟩
      obtain ⟨ly, hly⟩ : ∃ c, x.xs.length = c := ⟨_, rfl⟩
      obtain ⟨e1, he1⟩ : ∃ c, chkO gv xo lx x.xs = c := ⟨_, rfl⟩
      obtain ⟨IC, hic⟩ : ∃ c, infC gv xo lx x.xs (argsI f x.ys) = c := ⟨_, rfl⟩
      obtain ⟨IV, hiv⟩ : ∃ c, infV gv xo lx x.xs (argsI f x.ys) = c := ⟨_, rfl⟩
      obtain ⟨X1, hX1⟩ : ∃ X, wr.alloc (.cells #[.int .i64 xo, .slice a1 lx c1, .slice a2 ly c2] 46) = X := ⟨_, rfl⟩
      have RN : Row X1 wr.heap.size 46 #[.int .i64 xo, .slice a1 lx c1, .slice a2 ly c2] := by rw [← hX1]; exact Row.new _ _ _
      have hbX1 : Below wr.heap.size wr X1 := by rw [← hX1]; exact (Below.refl _ _).alloc (Nat.le_refl _) _
      have HCK := Lib.hid (show Calls Tryz.prog 113 #[.int .i64 gv, .agg #[.int .i64 xo, .slice a1 lx c1, .slice a2 ly c2]] X1 fun e w' => e = .returned (.int .i64 e1) ∧ Below X1.heap.size X1 w' from by
        have h := check_any gv (o := xo) (a1 := a1) (n1 := lx) (c1 := c1) (hA2.later hbX1) hn2 hlim.2
        rw [hly, he1] at h
        exact h)
      have HST := Lib.hid (show ∀ c, stepC g.v f x = c → ¬ c = 0 → bodyC (mostN g.ps) g.v (headS g.ps g.ws) g.b = c from fun c h hc => by
        have h2 := nodes_stop hx HC.out (by rw [HF.out, h]; exact hc)
        rw [HF.out, h] at h2
        unfold bodyC
        rw [HLIM.out, HNN.out, if_neg (by have := HL1.out; omega), if_pos (by rw [h2]; exact hc), h2])
      have HSC := Lib.hid (show stepC g.v f x = if e1 ≠ 0 then e1 else if refB m x.ys = false then 12 else IC from by
        unfold stepC
        rw [HGV.out, hxo, hlx, he1, hic, HM.out])
      have HNX := Lib.hid (show stepC g.v f x = 0 → nodesC g.v (headS g.ps g.ws) (g.b.ns.take (k + 1)) = 0 ∧ nodesF g.v (headS g.ps g.ws) (g.b.ns.take (k + 1)) = f ++ [IV] from fun h => by
        have h2 := nodes_next hx HC.out (by rw [HF.out, h])
        rw [HF.out] at h2
        refine ⟨h2.1, h2.2.trans ?_⟩
        unfold stepV
        rw [HGV.out, hxo, hlx, hiv])
      have HIV4 := Lib.hid (show IC = 0 → IV.length ≤ 4 from fun h => by rw [← hiv]; exact (inf_ok (by rw [hic]; exact h)).rank)
      have HX0 := Lib.hid (show e1 = 0 → lx ≤ 8 from fun h => (ar_one (good_of (by rw [he1]; exact h) 0)).2)
      have HARGS := Lib.hid (And.intro hA (And.intro hn (And.intro hA2 (And.intro hn2 hlim))))
      have HLX := Lib.hid hlx
      have HLY := Lib.hid hly
      have HIC := Lib.hid hic
      have HIV := Lib.hid hiv
      rw [hxo] at n0
      rw [hlx] at n1
      rw [hly] at n2
      have Rg1 := Rg.later hbX1
      have HRN := Lib.hid RN
      have HRG1 := Lib.hid Rg1
      have HRF1 := Lib.hid (Rf.later hbX1)
      have HBX := Lib.hid hbX1
      clear hx hxo hlx hly he1 hic hiv hA hn hA2 hn2 hlim
      clear hcl0
      have v0 := Rg1.cell 0
      simp only [List.getElem?_toArray, List.getElem?_cons_zero] at v0
      obtain ⟨d0, d1, d2, _, _, _⟩ := RN.three
      clear RN Rg1 hbX1
      go_wp2_with fail
      (try rw [hX1])
      clear hX1 d0 d1 d2 v0 n0 n1 n2
      refine HCK.out.mono ?_
      rintro e y3 ⟨rfl, hy3⟩
      have HY3 := Lib.hid (HBX.out.trans (hy3.mono HBX.out.size))
      have HB3 := Lib.hid (hbE.trans (HY3.out.mono hszE))
      have HRN3 := Lib.hid (HRN.out.later hy3)
      have HRG3 := Lib.hid (HRG1.out.later hy3)
      have HRF3 := Lib.hid (HRF1.out.later hy3)
      clear hy3
      by_cases h1 : e1 = 0
      case neg =>
        have hd : BodyG g w (.panicked (diesV e1)) y3 := BodyG.die (HST.out e1 (by rw [HSC.out, if_pos h1]) h1) h1 HB3.out
        have HD := Lib.hid hd
        have h1b := h1
        clear hd h1
        go_wp2_with fail
        refine (demandOK_no h1b _).mono ?_
        rintro e w' ⟨rfl, rfl⟩
        (try rw [Exit.noGoto_panic])
        exact ⟨rfl, HD.out⟩
      case pos =>
      subst h1
      have hlx8 := HX0.out rfl
      go_wp2_with fail
      refine demandOK_yes _ |>.mono ?_
      rintro e w' ⟨rfl, rfl⟩
      rename World => y3
      go_wp2_with fail
      have MK := Lib.hid (show ∀ X, Below y3.heap.size y3 X → (fun X => X.cell? ⟨w.heap.size, 0, none⟩ = some (.int .i64 gv) ∧ X.cell? ⟨wr.heap.size, 0, none⟩ = some (.int .i64 xo) ∧ X.cell? ⟨wr.heap.size, 1, none⟩ = some (.slice a1 lx c1) ∧ X.cell? ⟨wr.heap.size, 2, none⟩ = some (.slice a2 ly c2)) X from fun X h => by
        obtain ⟨g0, g1, g2, _⟩ := (HRN3.out.later h).three
        exact ⟨((HRG3.out.later h).cell 0).trans rfl, g0, g1, g2⟩)
      by_cases hR : refB m x.ys = true
      case neg =>
        have hR' : refB m x.ys = false := by simpa using hR
        have HARN := Lib.hid (show ∀ X, Below y3.heap.size y3 X → Calls Tryz.prog 63 #[.slice a1 lx c1, .func (.func 112) #[] #[.pointer (some ⟨y1.heap.size, 0, none⟩)]] X fun e w' => e = .panicked (diesV 12) ∧ Below X.heap.size X w' from fun X hX => by
          have h := args_no (f := f) (av := av) (cv := cv) (by rw [HM.out]; exact HRF3.out.later hX) (HRLf.out.later (HY3.out.trans (hX.mono HY3.out.size))) (by rw [HM.out]; omega) (HARGS.out.1.later (HY3.out.trans (hX.mono HY3.out.size))) (by rw [HLX.out]; omega) (by rw [HM.out]; exact hR')
          rw [HLX.out] at h
          exact h)
        have HD := Lib.hid (show ∀ X, Below y3.heap.size y3 X → BodyG g w (.panicked (diesV 12)) X from fun X hX => BodyG.die (HST.out 12 (by rw [HSC.out, if_neg (by simp), if_pos hR']) (by decide)) (by decide) (HB3.out.trans (hX.mono HB3.out.size)))
        clear hR hR'
        have C0 : Below y3.heap.size y3 y3.drew := (Below.refl _ _).drew
        refine wp_region_held_drew (S := fun X => X.cell? ⟨w.heap.size, 0, none⟩ = some (.int .i64 gv) ∧ X.cell? ⟨wr.heap.size, 0, none⟩ = some (.int .i64 xo) ∧ X.cell? ⟨wr.heap.size, 1, none⟩ = some (.slice a1 lx c1) ∧ X.cell? ⟨wr.heap.size, 2, none⟩ = some (.slice a2 ly c2)) (by kernel_rfl) (MK.out _ C0) (fun hHeld => ?_)
        obtain ⟨z0, hdrrn⟩ : ∃ Y, y3.drew = Y := ⟨_, rfl⟩
        rw [hdrrn] at C0 hHeld ⊢
        clear hdrrn
        refine todo [0, 1, 2, 3, 4, 5] ?_
        iterate 6
         refine todoH (v := ?_) rfl (by kernel_rfl) (fun _ _ _ h => h) (by assumption) (Or.inl ⟨by rfl, ?_⟩) ?_
         rotate_left
         · intro w hSw; (try dsimp only at hSw); go_simp; (try with_reducible rfl)
         try simp only [Act.put, List.getElem_toArray, List.getElem_cons_succ, List.getElem_cons_zero, List.setIfInBounds_toArray, List.set_cons_zero, List.set_cons_succ]
        refine todone ?_
        have han := HARN.out z0 C0
        have HAN := Lib.hid han
        clear han
        refine wpAnyH_ready (rs := [6]) (by kernel_rfl) (by simp) ?_
        refine AllReadyH.cons rfl (fun K hK => ?srn_6) AllReadyH.nil
        go_simp
        refine HAN.out.mono ?_
        rintro e z1 ⟨rfl, hy⟩
        (try rw [Exit.noGoto_panic])
        exact ⟨rfl, HD.out _ (C0.trans (hy.mono C0.size))⟩
      case pos =>
      have HARG := Lib.hid (show ∀ X, Below y3.heap.size y3 X → Calls Tryz.prog 63 #[.slice a1 lx c1, .func (.func 112) #[] #[.pointer (some ⟨y1.heap.size, 0, none⟩)]] X fun e w' => ∃ (al : Option Addr) (cl : Nat), e = .returned (.slice al lx cl) ∧ RowC X.heap.size 43 1 (ShpQ X) w' (.slice al lx cl) (argsI f x.ys) ∧ Below X.heap.size X w' from fun X hX => by
        have h := args_yes (f := f) (av := av) (cv := cv) (by rw [HM.out]; exact HRF3.out.later hX) (HRLf.out.later (HY3.out.trans (hX.mono HY3.out.size))) (by rw [HM.out]; omega) (HARGS.out.1.later (HY3.out.trans (hX.mono HY3.out.size))) (by rw [HLX.out]; omega) (by rw [HM.out]; exact hR)
        rw [HLX.out] at h
        exact h)
      have HARL := Lib.hid (show (argsI f x.ys).length = lx by unfold argsI; rw [List.length_map, HLX.out])
      have HAL : ∀ z ∈ argsI f x.ys, z.length ≤ 17592186044416 := fun z hz => by
        obtain ⟨y, hy, rfl⟩ := List.mem_map.1 hz
        have h := of_decide_eq_true (List.all_eq_true.1 hR y hy)
        rw [List.getD_eq_getElem?_getD, List.getElem?_eq_getElem (by rw [HM.out]; omega)]
        exact HFL2.out _ (List.getElem_mem _)
      have HSHP := Lib.hid (show ∀ X, Below y3.heap.size y3 X → ∀ al cl, RowL X (.slice al lx cl) (argsI f x.ys) al cl → Calls Tryz.prog 114 #[.int .i64 gv, .agg #[.int .i64 xo, .slice a1 lx c1, .slice a2 ly c2], .slice al lx cl] X fun e w' => ∃ r, e = .returned (.tuple #[r, .int .i64 IC]) ∧ ResS X.heap.size w' r IV ∧ Below X.heap.size X w' from fun X hX al cl hL => by
        have h := shape_any gv (o := xo) (a1 := a1) (n1 := lx) (c1 := c1) (ls := argsI f x.ys) (al := al) (cl := cl) (HARGS.out.2.2.1.later (HY3.out.trans (hX.mono HY3.out.size))) HARGS.out.2.2.2.1 HARGS.out.2.2.2.2.2 (by rw [HARL.out]; exact hL) HAL (by rw [HARL.out]; omega)
        rw [HIC.out, HIV.out, HLY.out, HARL.out] at h
        exact h)
      have HSC2 := Lib.hid (show stepC g.v f x = IC by rw [HSC.out, if_neg (by simp), if_neg (by rw [hR]; simp)])
      clear HAL hR
      have C0 : Below y3.heap.size y3 y3.drew := (Below.refl _ _).drew
      refine wp_region_held_drew (S := fun X => X.cell? ⟨w.heap.size, 0, none⟩ = some (.int .i64 gv) ∧ X.cell? ⟨wr.heap.size, 0, none⟩ = some (.int .i64 xo) ∧ X.cell? ⟨wr.heap.size, 1, none⟩ = some (.slice a1 lx c1) ∧ X.cell? ⟨wr.heap.size, 2, none⟩ = some (.slice a2 ly c2)) (by kernel_rfl) (MK.out _ C0) (fun hHeld => ?_)
      obtain ⟨z0, hdrr⟩ : ∃ Y, y3.drew = Y := ⟨_, rfl⟩
      rw [hdrr] at C0 hHeld ⊢
      clear hdrr
      refine todo [0, 1, 2, 3, 4, 5] ?_
      iterate 6
       refine todoH (v := ?_) rfl (by kernel_rfl) (fun _ _ _ h => h) (by assumption) (Or.inl ⟨by rfl, ?_⟩) ?_
       rotate_left
       · intro w hSw; (try dsimp only at hSw); go_simp; (try with_reducible rfl)
       try simp only [Act.put, List.getElem_toArray, List.getElem_cons_succ, List.getElem_cons_zero, List.setIfInBounds_toArray, List.set_cons_zero, List.set_cons_succ]
      refine todone ?_
      have hay := HARG.out z0 C0
      have HAY := Lib.hid hay
      clear hay
      refine wpAnyH_ready (rs := [6]) (by kernel_rfl) (by simp) ?_
      refine AllReadyH.cons rfl (fun K hK => ?sr_6) AllReadyH.nil
      go_simp
      refine (HAY.out).mono ?_
      rintro e z1 ⟨al, cl, rfl, hq, hy⟩
      have C1 : Below y3.heap.size y3 z1 := C0.trans (hy.mono C0.size)
      have Dr1 := hy
      clear hy
      obtain ⟨al2, cl2, e2, RL, _⟩ := hq.rowL (fun c x _ h => shpA_ofQ h)
      rw [HARL.out] at e2 RL
      cases e2
      have HRL := Lib.hid RL
      clear hq RL
      go_simp
      refine hK.out _ _ (MK.out _ C1) (fun hHeld2 => ?mr_6)
      clear hK K hHeld
      have hHeld := hHeld2
      clear hHeld2
      try simp only [Act.put, List.getElem_toArray, List.getElem_cons_succ, List.getElem_cons_zero, List.setIfInBounds_toArray, List.set_cons_zero, List.set_cons_succ]
      have hsh := HSHP.out z1 C1 al cl HRL.out
      have HSH := Lib.hid hsh
      clear hsh
      refine wpAnyH_ready (rs := [7]) (by kernel_rfl) (by simp) ?_
      refine AllReadyH.cons rfl (fun K hK => ?sr_7) AllReadyH.nil
      go_simp
      refine (HSH.out).mono ?_
      rintro e z2 ⟨rr, rfl, hr, hy⟩
      have C2 : Below y3.heap.size y3 z2 := C1.trans (hy.mono C1.size)
      have Dr2 := hy
      clear hy
      obtain ⟨ra, rc, rfl, hr2⟩ := res_slice11 hr
      have HR := Lib.hid (hr2.mono (base' := w.heap.size) (HB3.out.trans (C1.mono HB3.out.size)).size)
      clear hr hr2
      go_simp
      refine hK.out _ _ (MK.out _ C2) (fun hHeld2 => ?mr_7)
      clear hK K hHeld
      have hHeld := hHeld2
      clear hHeld2
      try simp only [Act.put, List.getElem_toArray, List.getElem_cons_succ, List.getElem_cons_zero, List.setIfInBounds_toArray, List.set_cons_zero, List.set_cons_succ]
      refine todo [8, 9, 10] ?_
      iterate 3
       refine todoH (v := ?_) rfl (by kernel_rfl) (fun _ _ _ h => h) (by assumption) (Or.inl ⟨by rfl, ?_⟩) ?_
       rotate_left
       · intro w hSw; (try dsimp only at hSw); go_simp; (try with_reducible rfl)
       try simp only [Act.put, List.getElem_toArray, List.getElem_cons_succ, List.getElem_cons_zero, List.setIfInBounds_toArray, List.set_cons_zero, List.set_cons_succ]
      refine todone ?_
      refine wpAnyH_ready (rs := [11]) (by kernel_rfl) (by simp) ?_
      refine AllReadyH.cons rfl (fun K hK => ?sr_11) AllReadyH.nil
      go_simp
      refine hK.out _ _ (MK.out _ C2) (fun hHeld2 => ?mr_11)
      clear hK K hHeld
      have hHeld := hHeld2
      clear hHeld2
      try simp only [Act.put, List.getElem_toArray, List.getElem_cons_succ, List.getElem_cons_zero, List.setIfInBounds_toArray, List.set_cons_zero, List.set_cons_succ]
      refine wpAnyH_ready (rs := [12]) (by kernel_rfl) (by simp) ?_
      refine AllReadyH.cons rfl (fun K hK => ?sr_12) AllReadyH.nil
      go_simp
      refine hK.out _ _ (MK.out _ C2) (fun hHeld2 => ?mr_12)
      clear hK K hHeld
      have hHeld := hHeld2
      clear hHeld2
      try simp only [Act.put, List.getElem_toArray, List.getElem_cons_succ, List.getElem_cons_zero, List.setIfInBounds_toArray, List.set_cons_zero, List.set_cons_succ]
      refine wpAnyH_done (by kernel_rfl) ?_ _
      (try dsimp only [Straight])
      go_wp2_with fail
      have HBz := Lib.hid (HB3.out.trans (C2.mono HB3.out.size))
      have HRGz := Lib.hid (HRG3.out.later C2)
      have HRFz := Lib.hid (HRF3.out.later C2)
      have HROWz := Lib.hid (HROW.out.later (lat_shpO _) (HY3.out.trans (C2.mono HY3.out.size)))
      clear hHeld
      by_cases h2 : IC = 0
      case neg =>
        have hd : BodyG g w (.panicked (diesV IC)) z2 := BodyG.die (HST.out IC HSC2.out h2) h2 HBz.out
        have HD := Lib.hid hd
        have h2b := h2
        clear hd h2
        refine (demandOK_no h2b _).mono ?_
        rintro e w' ⟨rfl, rfl⟩
        (try rw [Exit.noGoto_panic])
        exact ⟨rfl, HD.out⟩
      case pos =>
      subst h2
      refine (demandOK_yes _).mono ?_
      rintro e w' ⟨rfl, rfl⟩
      rename World => z2
      obtain ⟨lv, hlv⟩ : ∃ n, IV.length = n := ⟨_, rfl⟩
      rw [hlv] at HR
      have HLV := Lib.hid hlv
      have f0 := HRFz.out.cell 0
      simp only [List.getElem?_toArray, List.getElem?_cons_zero] at f0
      obtain ⟨i0, hi, hz0, hz1, hz2⟩ := info_parts infoShape13
      obtain ⟨cs, ho, q2, q3, q4⟩ := HROWz.out
      rw [HM.out] at ho
      have HO := Lib.hid ho
      have HQ := Lib.hid (And.intro q2 (And.intro q3 q4))
      have hszz := HBz.out.size
      clear ho q2 q3 q4
      rw [hlv]
      clear hlv
      go_wp2_with (at_builtin; (refine wpList_append_own _ rfl _ _ 36 rfl w.heap.size 43 i0 _ 1 24 Tryz.underlying36 hi hz0 hz1 hz2 rfl (by decide) (.slice av m cv) m cs.flatten rfl (rowLater13 HO.out ((Below.refl _ _).alloc (Nat.le_refl _) _)) ⟨z2.heap.size, 0, none⟩ 1 1 [.slice ra lv rc] rfl rfl (cell_one_new _ _ _) (by simp [Value.oneCell']) (by unfold maxLen; omega) (by omega) (by simp; omega) ?_; intro v' w6 hown' hgrow _; obtain ⟨va', vc', rfl⟩ := ownT_slice hown'; have Rf6 := rowGrown HRFz.out HO.out hgrow (by decide); have HRF6 := Lib.hid Rf6; have HG6 := Lib.hid hgrow; have HO6 := Lib.hid hown'; have s0 := Rf6.cell 0; have s1 := Rf6.free 0; clear Rf6 hgrow hown'))
      have hb6 : Below w.heap.size w w6 := (HBz.out.alloc hszz _).grown HG6.out (by simp; omega) (fun q hq => (World.ownsRow.lt HO.out q hq).1)
      have Rg6 := rowGrown HRGz.out HO.out HG6.out (by decide)
      have hN : RowC w.heap.size 43 1 (ShpO w.heap.size) w6 (.slice va' (m + 1) vc') (f ++ [IV]) :=
        RowC.push (apa_shpO _ _) (by rw [HM.out]; exact HO.out) HQ.out.1 HQ.out.2.1 HQ.out.2.2 rfl ⟨ra, rc, by rw [HLV.out], by rw [HLV.out]; exact HR.out⟩ (by rw [HM.out]; exact HO6.out) HG6.out
      have hfar : ∀ k, k ≠ y1.heap.size → (w6.setCell ⟨y1.heap.size, 0, none⟩ (.slice va' (m + 1) vc')).heap[k]? = w6.heap[k]? := fun k hk => Below.heap_setCell w6 _ _ k hk
      have hinv : InvG g A w y1.heap.size (k + 1) (w6.setCell ⟨y1.heap.size, 0, none⟩ (.slice va' (m + 1) vc')) := by
        obtain ⟨nx1, nx2⟩ := HNX.out HSC2.out
        refine ⟨_, by rw [HCL.out]; exact Rg6.far (by exact hne1) _, HRF6.out.set 0 _, ?_, hb6.setCell (p := ⟨y1.heap.size, 0, none⟩) (HYL.out) _, nx1, ?_⟩
        · rw [nx2]
          exact hN.far HRF6.out (by decide) hfar (fun c x h => by
            obtain ⟨a, n, e, h⟩ := h
            exact ⟨a, n, e, h.far HRF6.out (by decide) hfar⟩)
        · rw [nx2]
          intro z hz
          rcases List.mem_append.1 hz with hz | hz
          · exact HFL2.out z hz
          · rw [List.mem_singleton.1 hz]
            have := HIV4.out (by simp)
            omega
      have HINV2 := Lib.hid hinv
      clear hinv hN hfar Rg6 hb6 s0 s1 f0
      go_roundw
      case rel => exact ⟨k + 1, by go_num, by omega, HINV2.out⟩
      case measure => simp [intOf]; omega
    · obtain rfl : k = nn := by omega
      have hltI : ¬ (k : Int) < (k : Int) := by omega
      have hC0 : nodesC g.v (headS g.ps g.ws) g.b.ns = 0 := by
        have h := HC.out
        rw [List.take_of_length_le (by rw [HNN.out]; exact Nat.le_refl _)] at h
        exact h
      have hF0 : fwdF g = f := by
        unfold fwdF
        rw [← HF.out, List.take_of_length_le (by rw [HNN.out]; exact Nat.le_refl _)]
      have HBODY := Lib.hid (show bodyC (mostN g.ps) g.v (headS g.ps g.ws) g.b = outsC m g.b.os by
        unfold bodyC
        rw [HLIM.out, HNN.out, if_neg (by have := HL1.out; omega), if_neg (by rw [hC0]; simp)]
        congr 1
        rw [← HM.out, HFLEN.out, HF0.out])
      have HFF := Lib.hid hF0
      have HRGf := Lib.hid Rg
      have HRFf := Lib.hid Rf
      clear hC0 hF0 hcl0
      have c0 := Rg.cell 3
      have c4 := Rg.cell 4
      simp only [List.getElem?_toArray, List.getElem?_cons_zero, List.getElem?_cons_succ] at c0 c4
      clear Rg Rf
      by_cases ho1 : no ≤ 64
      case neg =>
        have ho2 : ¬ (no : Int) ≤ 64 := by omega
        have hd : BodyG g w (.panicked (diesV 14)) wr := BodyG.die (by rw [HBODY.out]; unfold outsC; rw [HNO.out, if_pos (by omega)]) (by decide) hbE
        have HD := Lib.hid hd
        clear hd
        go_wp2_with fail
        refine (demand_no _ _).mono ?_
        rintro e w' ⟨rfl, rfl⟩
        exact ⟨rfl, HD.out⟩
      case pos =>
      have ho2 : (no : Int) ≤ 64 := by omega
      have HO1 := Lib.hid ho1
      clear ho1
      go_wp2_with fail
      refine (demand_yes _ _).mono ?_
      rintro e w' ⟨rfl, rfl⟩
      go_wp2_with fail
      clear c0 c4
      rename World => wr
      have MK := Lib.hid (show ∀ X, Below wr.heap.size wr X → (fun X => X.cell? ⟨y1.heap.size, 0, none⟩ = some (.slice av m cv) ∧ X.cell? ⟨w.heap.size, 4, none⟩ = some (.slice A.oa no A.oc)) X from fun X h => ⟨((HRFf.out.later h).cell 0).trans rfl, ((HRGf.out.later h).cell 4).trans rfl⟩)
      by_cases hR : refB m g.b.os = true
      case neg =>
        have hR' : refB m g.b.os = false := by simpa using hR
        have HARN := Lib.hid (show ∀ X, Below wr.heap.size wr X → Calls Tryz.prog 63 #[.slice A.oa no A.oc, .func (.func 112) #[] #[.pointer (some ⟨y1.heap.size, 0, none⟩)]] X fun e w' => e = .panicked (diesV 12) ∧ Below X.heap.size X w' from fun X hX => by
          have h := args_no (f := f) (av := av) (cv := cv) (by rw [HM.out]; exact HRFf.out.later hX) (HRLf.out.later hX) (by rw [HM.out]; omega) (HH.out.os.later (hbE.trans (hX.mono hbE.size))) (by rw [HNO.out]; omega) (by rw [HM.out]; exact hR')
          rw [HNO.out] at h
          exact h)
        have HD := Lib.hid (show ∀ X, Below wr.heap.size wr X → BodyG g w (.panicked (diesV 12)) X from fun X hX => BodyG.die (by rw [HBODY.out]; unfold outsC; rw [HNO.out, if_neg (by have := HO1.out; omega), if_neg hR]) (by decide) (hbE.trans (hX.mono hbE.size)))
        clear hR hR'
        have E0 : Below wr.heap.size wr wr.drew := (Below.refl _ _).drew
        refine wp_region_held_drew (S := fun X => X.cell? ⟨y1.heap.size, 0, none⟩ = some (.slice av m cv) ∧ X.cell? ⟨w.heap.size, 4, none⟩ = some (.slice A.oa no A.oc)) (by kernel_rfl) (MK.out _ E0) (fun hHeld => ?_)
        obtain ⟨u0, hdron⟩ : ∃ Y, wr.drew = Y := ⟨_, rfl⟩
        rw [hdron] at E0 hHeld ⊢
        clear hdron
        refine todo [0, 1, 2, 3, 4] ?_
        iterate 5
         refine todoH (v := ?_) rfl (by kernel_rfl) (fun _ _ _ h => h) (by assumption) (Or.inl ⟨by rfl, ?_⟩) ?_
         rotate_left
         · intro w hSw; (try dsimp only at hSw); go_simp; (try with_reducible rfl)
         try simp only [Act.put, List.getElem_toArray, List.getElem_cons_succ, List.getElem_cons_zero, List.setIfInBounds_toArray, List.set_cons_zero, List.set_cons_succ]
        refine todone ?_
        have han := HARN.out u0 E0
        have HAN := Lib.hid han
        clear han
        refine wpAnyH_ready (rs := [5]) (by kernel_rfl) (by simp) ?_
        refine AllReadyH.cons rfl (fun K hK => ?son_5) AllReadyH.nil
        go_simp
        refine HAN.out.mono ?_
        rintro e u1 ⟨rfl, hy⟩
        exact ⟨rfl, HD.out _ (E0.trans (hy.mono E0.size))⟩
      case pos =>
      have HARG := Lib.hid (show ∀ X, Below wr.heap.size wr X → Calls Tryz.prog 63 #[.slice A.oa no A.oc, .func (.func 112) #[] #[.pointer (some ⟨y1.heap.size, 0, none⟩)]] X fun e w' => ∃ (al : Option Addr) (cl : Nat), e = .returned (.slice al no cl) ∧ RowC X.heap.size 43 1 (ShpQ X) w' (.slice al no cl) (argsI f g.b.os) ∧ Below X.heap.size X w' from fun X hX => by
        have h := args_yes (f := f) (av := av) (cv := cv) (by rw [HM.out]; exact HRFf.out.later hX) (HRLf.out.later hX) (by rw [HM.out]; omega) (HH.out.os.later (hbE.trans (hX.mono hbE.size))) (by rw [HNO.out]; omega) (by rw [HM.out]; exact hR)
        rw [HNO.out] at h
        exact h)
      have HZ := Lib.hid (show bodyC (mostN g.ps) g.v (headS g.ps g.ws) g.b = 0 by rw [HBODY.out]; unfold outsC; rw [HNO.out, if_neg (by have := HO1.out; omega), if_pos hR])
      clear hR
      have E0 : Below wr.heap.size wr wr.drew := (Below.refl _ _).drew
      refine wp_region_held_drew (S := fun X => X.cell? ⟨y1.heap.size, 0, none⟩ = some (.slice av m cv) ∧ X.cell? ⟨w.heap.size, 4, none⟩ = some (.slice A.oa no A.oc)) (by kernel_rfl) (MK.out _ E0) (fun hHeld => ?_)
      obtain ⟨u0, hdro⟩ : ∃ Y, wr.drew = Y := ⟨_, rfl⟩
      rw [hdro] at E0 hHeld ⊢
      clear hdro
      refine todo [0, 1, 2, 3, 4] ?_
      iterate 5
       refine todoH (v := ?_) rfl (by kernel_rfl) (fun _ _ _ h => h) (by assumption) (Or.inl ⟨by rfl, ?_⟩) ?_
       rotate_left
       · intro w hSw; (try dsimp only at hSw); go_simp; (try with_reducible rfl)
       try simp only [Act.put, List.getElem_toArray, List.getElem_cons_succ, List.getElem_cons_zero, List.setIfInBounds_toArray, List.set_cons_zero, List.set_cons_succ]
      refine todone ?_
      have hay := HARG.out u0 E0
      have HAY := Lib.hid hay
      clear hay
      refine wpAnyH_ready (rs := [5]) (by kernel_rfl) (by simp) ?_
      refine AllReadyH.cons rfl (fun K hK => ?so_5) AllReadyH.nil
      go_simp
      refine (HAY.out).mono ?_
      rintro e u1 ⟨al, cl, rfl, hq, hy⟩
      have E1 : Below wr.heap.size wr u1 := E0.trans (hy.mono E0.size)
      have Do1 := hy
      clear hy
      have HRQ := Lib.hid hq
      clear hq
      go_simp
      refine hK.out _ _ (MK.out _ E1) (fun hHeld2 => ?mo_5)
      clear hK K hHeld
      have hHeld := hHeld2
      clear hHeld2
      try simp only [Act.put, List.getElem_toArray, List.getElem_cons_succ, List.getElem_cons_zero, List.setIfInBounds_toArray, List.set_cons_zero, List.set_cons_succ]
      refine wpAnyH_ready (rs := [6]) (by kernel_rfl) (by simp) ?_
      refine AllReadyH.cons rfl (fun K hK => ?so_6) AllReadyH.nil
      go_simp
      refine hK.out _ _ (MK.out _ E1) (fun hHeld2 => ?mo_6)
      clear hK K hHeld
      have hHeld := hHeld2
      clear hHeld2
      try simp only [Act.put, List.getElem_toArray, List.getElem_cons_succ, List.getElem_cons_zero, List.setIfInBounds_toArray, List.set_cons_zero, List.set_cons_succ]
      refine wpAnyH_ready (rs := [7]) (by kernel_rfl) (by simp) ?_
      refine AllReadyH.cons rfl (fun K hK => ?so_7) AllReadyH.nil
      go_simp
      refine hK.out _ _ (MK.out _ E1) (fun hHeld2 => ?mo_7)
      clear hK K hHeld
      have hHeld := hHeld2
      clear hHeld2
      try simp only [Act.put, List.getElem_toArray, List.getElem_cons_succ, List.getElem_cons_zero, List.setIfInBounds_toArray, List.set_cons_zero, List.set_cons_succ]
      refine wpAnyH_done (by kernel_rfl) ?_ _
      (try dsimp only [Straight])
      go_wp2_with fail
      refine bodyPost_ret (v := .tuple #[.slice av m cv, .slice al no cl]) (by simp [results, Tryz.results69, go_sem]) rfl ⟨hbE.trans (E1.mono hbE.size), ?_⟩
      rw [if_pos HZ.out]
      refine ⟨_, _, rfl, ?_, ?_⟩
      · rw [HFF.out, ← HM.out]
        exact HROW.out.later (lat_shpO _) E1
      · rw [HFF.out]
        exact HRQ.out.mono (base' := w.heap.size) (hbE.trans (E0.mono hbE.size)).size (fun c x _ h => shpA_ofQ h)
end
section
open Go.RowKit
set_option linter.unusedVariables false
set_option linter.unusedSimpArgs false
/-- what checkVJP leaves -/
def VjpG (g : GrD) (w : World) (e : Ending) (w' : World) : Prop := EndG (vjpC g) (.tuple #[]) e ∧ Below w.heap.size w w'
set_option maxRecDepth 100000 in
set_option maxHeartbeats 8000000 in
theorem checkVJP0_any {g : GrD} {A : AdG} {w : World} {oa : Option Addr} {on oc : Nat} (h0 : g.hv = false) : Calls Tryz.prog 70 #[.agg (cellsG g A), .slice oa on oc] w (VjpG g w) := by
  obtain ⟨gv, hgv⟩ : ∃ n, g.v = n := ⟨_, rfl⟩
  obtain ⟨np, hnp⟩ : ∃ n, g.ps.length = n := ⟨_, rfl⟩
  obtain ⟨nw, hnw⟩ : ∃ n, g.ws.length = n := ⟨_, rfl⟩
  obtain ⟨nn, hnn1⟩ : ∃ n, g.b.ns.length = n := ⟨_, rfl⟩
  obtain ⟨no, hno⟩ : ∃ n, g.b.os.length = n := ⟨_, rfl⟩
  obtain ⟨nv, hnv⟩ : ∃ n, g.vb.ns.length = n := ⟨_, rfl⟩
  obtain ⟨nu, hnu⟩ : ∃ n, g.vb.os.length = n := ⟨_, rfl⟩
  obtain ⟨hv, hhv⟩ : ∃ n, g.hv = n := ⟨_, rfl⟩
  have hcl : cellsG g A = #[.int .i64 gv, .slice A.pa np A.pc, .slice A.wa nw A.wc, .slice A.na nn A.nc, .slice A.oa no A.oc, .bool hv, .slice A.va nv A.vc, .slice A.ua nu A.uc] := by unfold cellsG; rw [hgv, hnp, hnw, hnn1, hno, hnv, hnu, hhv]
  obtain rfl : hv = false := by rw [← hhv, h0]
  obtain ⟨W, hW⟩ : ∃ W, (w.alloc (.cells #[.int .i64 gv, .slice A.pa np A.pc, .slice A.wa nw A.wc, .slice A.na nn A.nc, .slice A.oa no A.oc, .bool false, .slice A.va nv A.vc, .slice A.ua nu A.uc] 29)).alloc (.cells #[.slice oa on oc] 36) = W := ⟨_, rfl⟩
  have R0 : Row W w.heap.size 29 #[.int .i64 gv, .slice A.pa np A.pc, .slice A.wa nw A.wc, .slice A.na nn A.nc, .slice A.oa no A.oc, .bool false, .slice A.va nv A.vc, .slice A.ua nu A.uc] := by rw [← hW]; exact (Row.new _ _ _).alloc _
  have hbW : Below w.heap.size w W := by rw [← hW]; exact ((Below.refl _ _).alloc (Nat.le_refl _) _).alloc (by simp) _
  have k5 := R0.cell 5
  have k6 := R0.cell 6
  have k7 := R0.cell 7
  simp only [List.getElem?_toArray, List.getElem?_cons_zero, List.getElem?_cons_succ] at k5 k6 k7
  have HV := Lib.hid (show vjpC g = if nv = 0 ∧ nu = 0 then 0 else 16 by unfold vjpC; rw [if_pos h0, hnv, hnu])
  rw [hcl]
  clear hcl hgv hnp hnw hnn1 hno hnv hnu hhv h0 R0
  by_cases h1 : nv = 0
  · by_cases h2 : nu = 0
    · have h1I : ((nv : Int) == 0) = true := by simp [h1]
      have h2I : ((nu : Int) == 0) = true := by simp [h2]
      have hd : VjpG g w (.returned (.tuple #[])) W := ⟨by rw [HV.out, if_pos ⟨h1, h2⟩]; exact EndG.mk, hbW⟩
      have HD := Lib.hid hd
      clear h1 h2 hd
      go_enter Tryz.func70, Tryz.ntmps70
      (try rw [hW])
      go_wp2_with fail
      refine (demand_yes _ _).mono ?_
      rintro e w' ⟨rfl, rfl⟩
      go_wp2_with fail
      first
      | (go_end0; exact HD.out)
      | exact bodyPost_ret (v := .tuple #[]) (by simp [results, Tryz.results70, go_sem]) rfl HD.out
    · have h1I : ((nv : Int) == 0) = true := by simp [h1]
      have h2I : ((nu : Int) == 0) = false := by simp; omega
      have hd : VjpG g w (.panicked (diesV 16)) W := ⟨by rw [HV.out, if_neg (by omega)]; exact EndG.die (by decide), hbW⟩
      have HD := Lib.hid hd
      clear h1 h2 hd
      go_enter Tryz.func70, Tryz.ntmps70
      (try rw [hW])
      go_wp2_with fail
      refine (demand_no _ _).mono ?_
      rintro e w' ⟨rfl, rfl⟩
      exact ⟨rfl, HD.out⟩
  · have h1I : ((nv : Int) == 0) = false := by simp; omega
    have hd : VjpG g w (.panicked (diesV 16)) W := ⟨by rw [HV.out, if_neg (by omega)]; exact EndG.die (by decide), hbW⟩
    have HD := Lib.hid hd
    clear h1 hd
    go_enter Tryz.func70, Tryz.ntmps70
    (try rw [hW])
    go_wp2_with fail
    refine (demand_no _ _).mono ?_
    rintro e w' ⟨rfl, rfl⟩
    exact ⟨rfl, HD.out⟩
/-- what check leaves -/
def CheckG (g : GrD) (w : World) (e : Ending) (w' : World) : Prop :=
  Below w.heap.size w w' ∧ if chkG g = 0 then ∃ r, e = .returned r ∧ RowC w.heap.size 43 1 (ShpO w.heap.size) w' r (fwdF g) else e = .panicked (diesV (chkG g))
theorem CheckG.die {g : GrD} {w w' : World} {c : Int} (h : chkG g = c) (hc : ¬ c = 0) (hb : Below w.heap.size w w') : CheckG g w (.panicked (diesV c)) w' := by
  refine ⟨hb, ?_⟩
  rw [h, if_neg hc]
/-- how few things a graph has -/
structure FewG (g : GrD) : Prop where
  p : g.ps.length ≤ 100000
  w : g.ws.length ≤ 100000
  n : g.b.ns.length ≤ 500000
  o : g.b.os.length ≤ 500000
theorem shpQ_mono {T : TypeId} {B B' : Nat} {w : World} {v : Value} {l : List (List Int)} (h : RowC B T 1 (ShpO B) w v l) (hb : B' ≤ B) : RowC B' T 1 (ShpO B') w v l := h.mono hb (fun c x _ h => by
  obtain ⟨a, n, e, h⟩ := h
  exact ⟨a, n, e, h.mono hb⟩)
set_option maxRecDepth 100000 in
set_option maxHeartbeats 8000000 in
theorem checkX_any {g : GrD} {A : AdG} {w : World} (H : GrA w g A) (L : LimG g) (G : Glb w) (F : FewG g)
    (hvjp : ∀ W oa on oc, Below w.heap.size w W → RowC w.heap.size 43 1 ShpA W (.slice oa on oc) (argsI (fwdF g) g.b.os) → fwdC g = 0 → Calls Tryz.prog 70 #[.agg (cellsG g A), .slice oa on oc] W (VjpG g W)) :
    Calls Tryz.prog 37 #[.agg (cellsG g A)] w (CheckG g w) := by
  have HCH := Lib.hid (show ∀ X, Below w.heap.size w X → Calls Tryz.prog 68 #[.agg (cellsG g A)] X (HeadG g X) from fun X h => checkHead_any (H.later h) L (G.later h))
  have HCB := Lib.hid (show ∀ X, Below w.heap.size w X → Calls Tryz.prog 69 #[.agg (cellsG g A)] X (BodyG g X) from fun X h => checkBody_any (H.later h) L (G.later h) F.p F.w F.n F.o)
  have HVJ := Lib.hid hvjp
  obtain ⟨gv, hgv⟩ : ∃ n, g.v = n := ⟨_, rfl⟩
  obtain ⟨np, hnp⟩ : ∃ n, g.ps.length = n := ⟨_, rfl⟩
  obtain ⟨nw, hnw⟩ : ∃ n, g.ws.length = n := ⟨_, rfl⟩
  obtain ⟨nn, hnn1⟩ : ∃ n, g.b.ns.length = n := ⟨_, rfl⟩
  obtain ⟨no, hno⟩ : ∃ n, g.b.os.length = n := ⟨_, rfl⟩
  obtain ⟨nv, hnv⟩ : ∃ n, g.vb.ns.length = n := ⟨_, rfl⟩
  obtain ⟨nu, hnu⟩ : ∃ n, g.vb.os.length = n := ⟨_, rfl⟩
  obtain ⟨hv, hhv⟩ : ∃ n, g.hv = n := ⟨_, rfl⟩
  have hcl : cellsG g A = #[.int .i64 gv, .slice A.pa np A.pc, .slice A.wa nw A.wc, .slice A.na nn A.nc, .slice A.oa no A.oc, .bool hv, .slice A.va nv A.vc, .slice A.ua nu A.uc] := by unfold cellsG; rw [hgv, hnp, hnw, hnn1, hno, hnv, hnu, hhv]
  obtain ⟨W, hW⟩ : ∃ W, w.alloc (.cells (cellsG g A) 29) = W := ⟨_, rfl⟩
  have R0 : Row W w.heap.size 29 (cellsG g A) := by rw [← hW]; exact Row.new _ _ _
  have hbW : Below w.heap.size w W := by rw [← hW]; exact (Below.refl _ _).alloc (Nat.le_refl _) _
  have HGV := Lib.hid hgv
  rw [hcl] at HCH HCB HVJ hW R0 ⊢
  have HR0 := Lib.hid R0
  have k0 := (R0.cell 0)
  have k1 := (R0.cell 1)
  have k2 := (R0.cell 2)
  have k3 := (R0.cell 3)
  have k4 := (R0.cell 4)
  have k5 := (R0.cell 5)
  have k6 := (R0.cell 6)
  have k7 := (R0.cell 7)
  simp only [List.getElem?_toArray, List.getElem?_cons_zero, List.getElem?_cons_succ] at k0 k1 k2 k3 k4 k5 k6 k7
  clear hvjp hcl hgv hnp hnw hnn1 hno hnv hnu hhv R0 H L G F
  by_cases h1 : 1 ≤ gv
  case neg =>
    have h1b : decide (1 ≤ gv) = false := decide_eq_false h1
    have hd : CheckG g w (.panicked (diesV 8)) W := CheckG.die (by unfold chkG fwdC verC; rw [HGV.out]; simp [h1]) (by decide) hbW
    have HD := Lib.hid hd
    clear hd h1
    go_enter Tryz.func37, Tryz.ntmps37
    (try rw [hW])
    go_wp2_with fail
    refine (demand_no _ _).mono ?_
    rintro e w' ⟨rfl, rfl⟩
    exact ⟨rfl, HD.out⟩
  case pos =>
  by_cases h3 : gv ≤ 3
  case neg =>
    have h3b : decide (gv ≤ 3) = false := decide_eq_false h3
    have hd : CheckG g w (.panicked (diesV 8)) W := CheckG.die (by unfold chkG fwdC verC; rw [HGV.out]; simp [h3]) (by decide) hbW
    have HD := Lib.hid hd
    clear hd h3
    go_enter Tryz.func37, Tryz.ntmps37
    (try rw [hW])
    go_wp2_with fail
    refine (demand_no _ _).mono ?_
    rintro e w' ⟨rfl, rfl⟩
    exact ⟨rfl, HD.out⟩
  case pos =>
  have HVC := Lib.hid (show verC g.v = 0 by unfold verC; rw [HGV.out, if_pos ⟨h1, h3⟩])
  go_enter Tryz.func37, Tryz.ntmps37
  (try rw [hW])
  go_wp2_with fail
  (try rw [hW])
  clear hW
  refine (demand_yes _ _).mono ?_
  rintro e w' ⟨rfl, rfl⟩
  rename World => W
  go_wp2_with fail
  clear k0 k1 k2 k3 k4 k5 k6 k7
  refine (HCH.out _ hbW).mono ?_
  rintro e y1 ⟨he, hy1⟩
  have HB1 := Lib.hid (hbW.trans (hy1.mono hbW.size))
  have HR1 := Lib.hid (HR0.out.later hy1)
  clear hy1
  by_cases hc1 : headC g.ps g.ws = 0
  case neg =>
    obtain rfl := he.no hc1
    have hd : CheckG g w (.panicked (diesV (headC g.ps g.ws))) y1 := CheckG.die (by
      have hf : fwdC g = headC g.ps g.ws := by unfold fwdC; rw [if_neg (by rw [HVC.out]; simp), if_pos hc1]
      unfold chkG
      rw [hf, if_pos hc1]) hc1 HB1.out
    have HD := Lib.hid hd
    clear hd he hc1
    go_wp2_with fail
    exact ⟨rfl, HD.out⟩
  case pos =>
  obtain rfl := he.ok hc1
  have HC1 := Lib.hid hc1
  have R1 := HR1.out
  have k0 := (R1.cell 0)
  have k1 := (R1.cell 1)
  have k2 := (R1.cell 2)
  have k3 := (R1.cell 3)
  have k4 := (R1.cell 4)
  have k5 := (R1.cell 5)
  have k6 := (R1.cell 6)
  have k7 := (R1.cell 7)
  simp only [List.getElem?_toArray, List.getElem?_cons_zero, List.getElem?_cons_succ] at k0 k1 k2 k3 k4 k5 k6 k7
  clear he hc1 R1
  go_wp2_with fail
  clear k0 k1 k2 k3 k4 k5 k6 k7
  refine (HCB.out _ HB1.out).mono ?_
  rintro e y2 ⟨hy2, he⟩
  have HB2 := Lib.hid (HB1.out.trans (hy2.mono HB1.out.size))
  have HR2 := Lib.hid (HR1.out.later hy2)
  have HFW := Lib.hid (show fwdC g = bodyC (mostN g.ps) g.v (headS g.ps g.ws) g.b by unfold fwdC; rw [if_neg (by rw [HVC.out]; simp), if_neg (by rw [HC1.out]; simp)])
  clear hy2
  by_cases hc2 : bodyC (mostN g.ps) g.v (headS g.ps g.ws) g.b = 0
  case neg =>
    rw [if_neg hc2] at he
    subst he
    have hd : CheckG g w (.panicked (diesV (bodyC (mostN g.ps) g.v (headS g.ps g.ws) g.b))) y2 := CheckG.die (by unfold chkG; rw [HFW.out, if_pos hc2]) hc2 HB2.out
    have HD := Lib.hid hd
    clear hd hc2
    go_wp2_with fail
    exact ⟨rfl, HD.out⟩
  case pos =>
  rw [if_pos hc2] at he
  obtain ⟨r, q, rfl, hr, hq⟩ := he
  have HZ := Lib.hid (show fwdC g = 0 by rw [HFW.out, hc2])
  obtain ⟨ra, rc, rfl⟩ := hr.slice
  obtain ⟨qa, qc, rfl⟩ := hq.slice
  obtain ⟨nr, hnr⟩ : ∃ n, (fwdF g).length = n := ⟨_, rfl⟩
  obtain ⟨nq, hnq⟩ : ∃ n, (argsI (fwdF g) g.b.os).length = n := ⟨_, rfl⟩
  rw [hnr] at hr ⊢
  rw [hnq] at hq ⊢
  have HR := Lib.hid (shpQ_mono hr HB1.out.size)
  have HQ := Lib.hid (hq.mono (base' := w.heap.size) HB1.out.size (fun c x _ h => h))
  have HNR := Lib.hid hnr
  have R1 := HR2.out
  have k0 := (R1.cell 0)
  have k1 := (R1.cell 1)
  have k2 := (R1.cell 2)
  have k3 := (R1.cell 3)
  have k4 := (R1.cell 4)
  have k5 := (R1.cell 5)
  have k6 := (R1.cell 6)
  have k7 := (R1.cell 7)
  simp only [List.getElem?_toArray, List.getElem?_cons_zero, List.getElem?_cons_succ] at k0 k1 k2 k3 k4 k5 k6 k7
  clear hr hq hc2 R1 hnr hnq
  go_wp2_with fail
  clear k0 k1 k2 k3 k4 k5 k6 k7
  refine (HVJ.out _ _ _ _ HB2.out HQ.out HZ.out).mono ?_
  rintro e y3 ⟨he, hy3⟩
  have HB3 := Lib.hid (HB2.out.trans (hy3.mono HB2.out.size))
  have HR3 := Lib.hid (HR.out.later (lat_shpO _) hy3)
  clear hy3
  by_cases hc3 : vjpC g = 0
  case neg =>
    obtain rfl := he.no hc3
    have hd : CheckG g w (.panicked (diesV (vjpC g))) y3 := CheckG.die (by unfold chkG; rw [if_neg (by rw [HZ.out]; simp)]) hc3 HB3.out
    have HD := Lib.hid hd
    clear hd he hc3
    go_wp2_with fail
    exact ⟨rfl, HD.out⟩
  case pos =>
  obtain rfl := he.ok hc3
  have hz : chkG g = 0 := by unfold chkG; rw [if_neg (by rw [HZ.out]; simp), hc3]
  have HZ3 := Lib.hid hz
  clear he hc3 hz
  go_wp2_with fail
  go_ret
  refine ⟨HB3.out, ?_⟩
  rw [if_pos HZ3.out]
  exact ⟨_, rfl, HR3.out⟩
end
end Go.Proofs.YtjgiacghlkkjfaaGreatDoor
