/-
  Part 24 of 29: contracts and what they rest on (GCHead).
-/
import Derived.Test.YtjgiacghlkkjfaaGreatDoorF1
import Derived.Test.YtjgiacghlkkjfaaGreatDoorF2
import Derived.Test.YtjgiacghlkkjfaaGreatDoorF3
import Derived.Test.YtjgiacghlkkjfaaGreatDoorF4
import Derived.Test.YtjgiacghlkkjfaaGreatDoorF5
import Derived.Test.YtjgiacghlkkjfaaGreatDoorF7
import Derived.Test.YtjgiacghlkkjfaaGreatDoorF8
import Derived.Test.YtjgiacghlkkjfaaGreatDoorF9
import Derived.Test.YtjgiacghlkkjfaaGreatDoorF10
import Derived.Test.YtjgiacghlkkjfaaGreatDoorF11
import Derived.Test.YtjgiacghlkkjfaaGreatDoorF14
import Derived.Test.YtjgiacghlkkjfaaGreatDoorF15
import Derived.Test.YtjgiacghlkkjfaaGreatDoorF21
import Derived.WalkKit
import Derived.Test.YtjgiacghlkkjfaaGreatDoorRows
import Derived.OrdersHeld
import Derived.Deep.RegionHeld
import Derived.BigQuiet
import Derived.Deep.QuietTactic
import Derived.Lib.Hide
import Derived.Lib.Small
import Derived.Lib.Walk
import Derived.Lib.BitFns
import Derived.Maps.AppendAt
import Derived.RangeFuncNested
import Derived.RangeFuncBound
import Derived.RangeFuncCalls
import Derived.RangeFuncLeaves
import Derived.Shelf.Abstract
import Derived.OwnWalkIn
import Derived.TacticsInMore
import Derived.LoopNIn
import Derived.LoopIn
import Derived.RangeFuncBox
import Derived.Deep.RegionHeld3
import Derived.OrdersIn
import Derived.StillTailTactics
import Derived.RangeFuncFrom
import Derived.Laws.EntriesVeiled
import Derived.ProofKit
import Derived.OpenShut
import Derived.JoinedCond
import Derived.Carry
import Derived.Laws.AppendOwnNone
import Derived.Lib.ItoaNum
import Derived.Deep.RegionLaw
import Derived.WalkMore
import Derived.Lib.SmallJoins
import Derived.IntWalk
import Derived.Deep.DeepCutAuto
import Derived.Laws.OwnMore
import Derived.ArgAppend
import Derived.Deep.Slices
import Derived.Laws.CopyOwn
import Derived.Lib.SliceRun
import Derived.SizedLaws
import Derived.Great.BuildSlice
import Derived.Defers
import Derived.Recover
import Derived.Shelf.Small.Wraps
import Derived.Shelf.Strconv.Itoa3
import Derived.Shelf.Strconv.AtoiAll
import Derived.Laws.RangeAny
import Derived.Lib.AppendZerosOnto
import Derived.Maps.OwnSet
import Derived.Maps.Views
namespace Go.Proofs.YtjgiacghlkkjfaaGreatDoor
set_option maxRecDepth 100000
section
open Go.RowKit
set_option linter.unusedVariables false
set_option linter.unusedSimpArgs false
theorem orR_stop {f : Nat → Int} {n k : Nat} (h : ∀ j, j < k → f j = 0) (hk : k < n) (hf : ¬ f k = 0) : orL ((List.range n).map f) = f k := by
  refine orL_at (k := k) (fun j hj => ?_) ?_ hf
  · rw [List.getD_eq_getElem?_getD, List.getElem?_map, List.getElem?_range (by omega)]
    exact h j hj
  · rw [List.getElem?_map, List.getElem?_range hk]
    rfl
theorem orR_all {f : Nat → Int} {n : Nat} (h : ∀ j, j < n → f j = 0) : orL ((List.range n).map f) = 0 := orL_nil fun x hx => by
  obtain ⟨j, hj, rfl⟩ := List.mem_map.1 hx
  exact h j (by simpa using hj)
theorem inB_app (a b : List ByteArray) (s : ByteArray) : inB (a ++ b) s = (inB a s || inB b s) := by simp [inB, List.any_append]
theorem hadP_in (ps : List PoD) (k : Nat) (s : ByteArray) : hadP ps k s = inB ((ps.take k).map PoD.nm) s := by
  unfold hadP inB
  rw [List.any_map]
  rfl
theorem hadW_in (ws : List WeD) (k : Nat) (s : ByteArray) : hadW ws k s = inB ((ws.take k).map WeD.nm) s := by
  unfold hadW inB
  rw [List.any_map]
  rfl
def HeadG (g : GrD) (w : World) (e : Ending) (w' : World) : Prop := EndG (headC g.ps g.ws) (.tuple #[]) e ∧ Below w.heap.size w w'
theorem HeadG.die {g : GrD} {w w' : World} {c : Int} (h : headC g.ps g.ws = c) (hc : ¬ c = 0) (hb : Below w.heap.size w w') : HeadG g w (.panicked (diesV c)) w' := by
  refine ⟨?_, hb⟩
  rw [h]
  exact EndG.die hc
theorem headC_port {ps : List PoD} {ws : List WeD} {k : Nat} {c : Int} (h1 : ps.length ≤ mostP ps) (h2 : ws.length ≤ 64) (h : ∀ j, j < k → portC ps j = 0) (hk : k < ps.length) (hc : portC ps k = c) (h0 : ¬ c = 0) : headC ps ws = c := by
  have hp : portsC ps = c := by
    unfold portsC
    rw [orR_stop h hk (by rw [hc]; exact h0), hc]
  unfold headC
  rw [if_neg (by omega), if_pos (by rw [hp]; exact h0), hp]
theorem headC_wgt {ps : List PoD} {ws : List WeD} {k : Nat} {c : Int} (h1 : ps.length ≤ mostP ps) (h2 : ws.length ≤ 64) (hp : ∀ j, j < ps.length → portC ps j = 0) (h : ∀ j, j < k → wgtC ps ws j = 0) (hk : k < ws.length) (hc : wgtC ps ws k = c) (h0 : ¬ c = 0) : headC ps ws = c := by
  unfold headC
  rw [if_neg (by omega), if_neg (by rw [show portsC ps = 0 from orR_all hp]; simp)]
  unfold wgtsC
  rw [orR_stop h hk (by rw [hc]; exact h0), hc]
theorem headC_ok {ps : List PoD} {ws : List WeD} (h1 : ps.length ≤ mostP ps) (h2 : ws.length ≤ 64) (hp : ∀ j, j < ps.length → portC ps j = 0) (h : ∀ j, j < ws.length → wgtC ps ws j = 0) : headC ps ws = 0 := by
  unfold headC
  rw [if_neg (by omega), if_neg (by rw [show portsC ps = 0 from orR_all hp]; simp)]
  exact orR_all h
/-- the loops over inputs and weights -/
def InvH (cells : Array Value) (w : World) (gt bm : Nat) (n : Nat) (seen : List ByteArray) (wr : World) : Prop :=
  Row wr w.heap.size 29 cells ∧ Row wr gt 132 #[.map (some bm)] ∧ MapS wr bm n seen ∧ Below w.heap.size w wr
theorem InvH.later {cells : Array Value} {w : World} {gt bm n : Nat} {seen : List ByteArray} {wr w' : World} (h : InvH cells w gt bm n seen wr) (hb : Below wr.heap.size wr w') : InvH cells w gt bm n seen w' :=
  ⟨h.1.later hb, h.2.1.later hb, h.2.2.1.later hb, h.2.2.2.trans (hb.mono h.2.2.2.size)⟩
theorem InvH.put {cells : Array Value} {w : World} {gt bm n m : Nat} {seen seen' : List ByteArray} {wr w' : World} (h : InvH cells w gt bm n seen wr) (hM : MapS w' bm m seen') (hg : wr.grownBy w' (some bm)) (hB : w.heap.size ≤ bm) : InvH cells w gt bm m seen' w' := by
  obtain ⟨h1, h2, h3, h4⟩ := h
  have n1 := h3.row h1
  have n2 := h3.row h2
  exact ⟨(hg.block _ h1.lt (fun e => n1 (Option.some.inj e))).trans h1, (hg.block _ h2.lt (fun e => n2 (Option.some.inj e))).trans h2, hM, h4.grown hg h4.size (fun k hk => by rw [← Option.some.inj hk]; exact hB)⟩
theorem Row.grownM {w w' : World} {g b n : Nat} {seen : List ByteArray} {t : TypeId} {cs : Array Value} (R : Row w g t cs) (hg : w.grownBy w' (some b)) (M : MapS w b n seen) : Row w' g t cs := by
  have n1 := M.row R
  exact (hg.block _ R.lt (fun e => n1 (Option.some.inj e))).trans R
set_option maxRecDepth 100000 in
set_option maxHeartbeats 20000000 in
theorem checkHead_any {g : GrD} {A : AdG} {w : World} (H : GrA w g A) (L : LimG g) (G : Glb w) : Calls Tryz.prog 68 #[.agg (cellsG g A)] w (HeadG g w) := by
  have HH := Lib.hid H
  have HL := Lib.hid L
  have HGW := Lib.hid G
  have how := fun X (hX : Below w.heap.size w X) => isOwn_any (H.later hX) L (G.later hX)
  obtain ⟨W, hW⟩ : ∃ W, w.alloc (.cells (cellsG g A) 29) = W := ⟨_, rfl⟩
  have R0 : Row W w.heap.size 29 (cellsG g A) := by rw [← hW]; exact Row.new _ _ _
  have hbW : Below w.heap.size w W := by rw [← hW]; exact (Below.refl _ _).alloc (Nat.le_refl _) _
  obtain ⟨t, ht⟩ : ∃ t, ownB g.ps = t := ⟨_, rfl⟩
  obtain ⟨np, hnp⟩ : ∃ n, g.ps.length = n := ⟨_, rfl⟩
  obtain ⟨nw, hnw⟩ : ∃ n, g.ws.length = n := ⟨_, rfl⟩
  obtain ⟨nn, hnn1⟩ : ∃ n, g.b.ns.length = n := ⟨_, rfl⟩
  obtain ⟨no, hno⟩ : ∃ n, g.b.os.length = n := ⟨_, rfl⟩
  obtain ⟨nv, hnv⟩ : ∃ n, g.vb.ns.length = n := ⟨_, rfl⟩
  obtain ⟨nu, hnu⟩ : ∃ n, g.vb.os.length = n := ⟨_, rfl⟩
  obtain ⟨hv, hhv⟩ : ∃ n, g.hv = n := ⟨_, rfl⟩
  obtain ⟨pa, hpa⟩ : ∃ n, A.pa = n := ⟨_, rfl⟩
  obtain ⟨wa, hwa⟩ : ∃ n, A.wa = n := ⟨_, rfl⟩
  have hcl : cellsG g A = #[.int .i64 g.v, .slice pa np A.pc, .slice wa nw A.wc, .slice A.na nn A.nc, .slice A.oa no A.oc, .bool hv, .slice A.va nv A.vc, .slice A.ua nu A.uc] := by unfold cellsG; rw [hnp, hnw, hnn1, hno, hnv, hnu, hhv, hpa, hwa]
  rw [ht] at how
  rw [hcl] at how hW R0 ⊢
  have HOW := Lib.hid how
  have HT := Lib.hid ht
  have HNP := Lib.hid hnp
  have HNW := Lib.hid hnw
  have HPA := Lib.hid hpa
  have HWA := Lib.hid hwa
  have HLNP := Lib.hid (show np ≤ 17592186044416 by rw [← hnp]; exact L.ps)
  have HLNW := Lib.hid (show nw ≤ 17592186044416 by rw [← hnw]; exact L.ws)
  have HR0 := Lib.hid R0
  have k0 := (R0.cell 0)
  have k1 := (R0.cell 1)
  have k2 := (R0.cell 2)
  have k3 := (R0.cell 3)
  have k4 := (R0.cell 4)
  have k5 := (R0.cell 5)
  have k6 := (R0.cell 6)
  have k7 := (R0.cell 7)
  simp only [List.getElem?_toArray, List.getElem?_cons_zero, List.getElem?_cons_succ] at k0 k1 k2 k3 k4 k5 k6 k7
  clear how ht hnp hnw hnn1 hno hnv hnu hhv hcl hpa hwa R0 H L G
  go_enter Tryz.func68, Tryz.ntmps68
  (try rw [hW])
  go_wp2_with fail
  (try rw [hW])
  clear hW
  refine (HOW.out _ hbW).mono ?_
  rintro e y1 ⟨rfl, hy1⟩
  obtain ⟨lim, hlim⟩ : ∃ n, mostP g.ps = n := ⟨_, rfl⟩
  have HLIM := Lib.hid hlim
  clear hlim k0 k1 k2 k3 k4 k5 k6 k7
  go_upto_if 10 with fail
  go_cut [2] (fun s2 wx => s2 = .int .i64 (lim : Int) ∧ wx = y1)
  case first =>
    cases t with
    | true =>
      obtain rfl : lim = 128 := by rw [← HLIM.out]; unfold mostP; rw [HT.out]; rfl
      go_wp2_with fail
      go_meet
      exact ⟨rfl, rfl⟩
    | false =>
      obtain rfl : lim = 64 := by rw [← HLIM.out]; unfold mostP; rw [HT.out]; rfl
      go_wp2_with fail
      go_meet
      exact ⟨rfl, rfl⟩
  obtain ⟨rfl, rfl⟩ := hcut
  rename World => y1
  have HLIM2 := Lib.hid (show lim ≤ 128 by rw [← HLIM.out]; unfold mostP; split <;> omega)
  have hbY : Below w.heap.size w y1 := hbW.trans (hy1.mono hbW.size)
  have RG1 := HR0.out.later hy1
  have HRG1 := Lib.hid RG1
  have HBY := Lib.hid hbY
  have k1 := (RG1.cell 1)
  have k2 := (RG1.cell 2)
  simp only [List.getElem?_toArray, List.getElem?_cons_zero, List.getElem?_cons_succ] at k1 k2
  clear RG1
  by_cases hl1 : np ≤ lim
  case neg =>
    have hl2 : decide (np ≤ lim) = false := decide_eq_false (by omega)
    have hl2b : ¬ (np : Int) ≤ (lim : Int) := by omega
    have hd : HeadG g w (.panicked (diesV 14)) y1 := HeadG.die (by unfold headC; rw [HLIM.out, HNP.out, if_pos (by omega)]) (by decide) hbY
    have HD := Lib.hid hd
    clear hd hl1
    go_wp2_with fail
    refine (demand_no _ _).mono ?_
    rintro e w' ⟨rfl, rfl⟩
    exact ⟨rfl, HD.out⟩
  case pos =>
  by_cases hl3 : nw ≤ 64
  case neg =>
    have hl2 : (np : Int) ≤ (lim : Int) := by omega
    have hl4 : decide ((nw : Int) ≤ 64) = false := decide_eq_false (by omega)
    have hd : HeadG g w (.panicked (diesV 14)) y1 := HeadG.die (by unfold headC; rw [HLIM.out, HNP.out, HNW.out, if_pos (by omega)]) (by decide) hbY
    have HD := Lib.hid hd
    clear hd hl1 hl3
    go_wp2_with fail
    refine (demand_no _ _).mono ?_
    rintro e w' ⟨rfl, rfl⟩
    exact ⟨rfl, HD.out⟩
  case pos =>
  have hl2 : (np : Int) ≤ (lim : Int) := by omega
  have hl4 : (nw : Int) ≤ 64 := by omega
  have HL1 := Lib.hid hl1
  have HL3 := Lib.hid hl3
  clear hl1 hl3
  obtain ⟨V, hV⟩ : ∃ V, (y1.alloc (.map #[] 0)).alloc (.cells #[.map (some y1.heap.size)] 132) = V := ⟨_, rfl⟩
  have bV : Below y1.heap.size y1 V := by rw [← hV]; exact ((Below.refl _ _).alloc (Nat.le_refl _) _).alloc (by simp) _
  have hbV : Below w.heap.size w V := hbY.trans (bV.mono hbY.size)
  have RGV := HRG1.out.later bV
  have RTV : Row V (y1.heap.size + 1) 132 #[.map (some y1.heap.size)] := by
    rw [← hV]
    have h := Row.new (y1.alloc (.map #[] 0)) 132 #[.map (some y1.heap.size)]
    simp only [World.size_alloc] at h
    exact h
  have MV : MapS V y1.heap.size 0 [] := by
    rw [← hV]
    exact (MapS.made y1).later ((Below.refl _ _).alloc (Nat.le_refl _) _)
  have HINV := Lib.hid (show InvH #[.int .i64 g.v, .slice pa np A.pc, .slice wa nw A.wc, .slice A.na nn A.nc, .slice A.oa no A.oc, .bool hv, .slice A.va nv A.vc, .slice A.ua nu A.uc] w (y1.heap.size + 1) y1.heap.size 0 ((g.ps.take 0).map PoD.nm) V from ⟨RGV, RTV, MV, hbV⟩)
  have HBM := Lib.hid (show w.heap.size ≤ y1.heap.size from hbY.size)
  have v1 := (RGV.cell 1)
  have v2 := (RGV.cell 2)
  simp only [List.getElem?_toArray, List.getElem?_cons_zero, List.getElem?_cons_succ] at v1 v2
  clear RTV MV bV hbV RGV hbY hy1
  have hmm := @run_makeMap Tryz.prog
  go_wp2_with fail
  refine (demand_yes _ _).mono ?_
  rintro e w' ⟨rfl, rfl⟩
  go_wp2_with fail
  (try rw [hV])
  clear hV hmm k1 k2 v1 v2
  go_loopw [30] (fun i wr => ∃ k : Nat, i = .int .i64 (k : Int) ∧ k ≤ np ∧ InvH #[.int .i64 g.v, .slice pa np A.pc, .slice wa nw A.wc, .slice A.na nn A.nc, .slice A.oa no A.oc, .bool hv, .slice A.va nv A.vc, .slice A.ua nu A.uc] w (y1.heap.size + 1) y1.heap.size k ((g.ps.take k).map PoD.nm) wr ∧ Hid (∀ j, j < k → portC g.ps j = 0)) (fun i _ => np - (intOf i).toNat)
  case atStart => exact ⟨0, rfl, Nat.zero_le _, HINV.out, Lib.hid (fun j hj => by omega)⟩
  case round =>
    rename World => wr
    obtain ⟨k, rfl, hk, hinv, hzero⟩ := hrel
    have HINX0 := Lib.hid hinv
    have hcg := hinv.1.cell 1
    simp only [List.getElem?_toArray, List.getElem?_cons_zero, List.getElem?_cons_succ] at hcg
    have hbE := hinv.2.2.2
    have hszE := hbE.size
    clear hinv
    by_cases hlt : k < np
    · have hltI : (k : Int) < (np : Int) := by omega
      have hk3 : (k : Int) ≤ 200 := by have h1 := HL1.out; have h2 := HLIM2.out; have h3 := HL3.out; omega
      obtain ⟨b1, o1, x, hpa2, hx, a1, c1, n0w, n1w, hA, hn⟩ := HH.out.ps.at (i := k) (by rw [HNP.out]; exact hlt)
      have n0 := oldCell n0w hbE
      have n1 := oldCell n1w hbE
      clear n0w n1w
      rw [HPA.out] at hpa2
      subst hpa2
      have hlm := HL.out.pn x (List.mem_of_getElem? hx)
      have HSM := Lib.hid hlm.1
      obtain ⟨lx, hlx⟩ : ∃ c, x.s.length = c := ⟨_, rfl⟩
      obtain ⟨e1, he1⟩ : ∃ c, mayC x.s = c := ⟨_, rfl⟩
      obtain ⟨b, hb⟩ : ∃ b, plainB (nmL x.nm) = b := ⟨_, rfl⟩
      obtain ⟨c, hc⟩ : ∃ c, cotB (nmL x.nm) = c := ⟨_, rfl⟩
      have hgx : g.ps.getD k noPo = x := by rw [List.getD_eq_getElem?_getD, hx]; rfl
      have HPC := Lib.hid (show portC g.ps k = if ((b || c) && !inB ((g.ps.take k).map PoD.nm) x.nm) = true then e1 else 15 by
        unfold portC
        rw [hgx, hb, hc, he1, hadP_in])
      have HCT := Lib.hid hc
      have HPL := Lib.hid hb
      have HDX := Lib.hid (show ∀ cc, portC g.ps k = cc → ¬ cc = 0 → ∀ X, Below w.heap.size w X → HeadG g w (.panicked (diesV cc)) X from fun cc h1 h0 X hX => HeadG.die (headC_port (by rw [HLIM.out, HNP.out]; exact HL1.out) (by rw [HNW.out]; exact HL3.out) hzero.out (by rw [HNP.out]; exact hlt) h1 h0) h0 hX)
      have HXX := Lib.hid hx
      rw [hlx] at n1
      obtain ⟨X1, hX1⟩ : ∃ X, wr.alloc (.cells #[.string x.nm, .slice a1 lx c1] 74) = X := ⟨_, rfl⟩
      have RN : Row X1 wr.heap.size 74 #[.string x.nm, .slice a1 lx c1] := by rw [← hX1]; exact Row.new _ _ _
      have hbX1 : Below wr.heap.size wr X1 := by rw [← hX1]; exact (Below.refl _ _).alloc (Nat.le_refl _) _
      have HBX := Lib.hid hbX1
      have HRX := Lib.hid RN
      have HINX := Lib.hid (HINX0.out.later hbX1)
      have HGB := Lib.hid (show ∀ X, Below X1.heap.size X1 X → Glb X from fun X h => (HGW.out.later (hbE.trans ((hbX1.trans (h.mono hbX1.size)).mono hszE))))
      have MK := Lib.hid (show ∀ X, Below X1.heap.size X1 X → (fun X => X.cell? ⟨wr.heap.size, 0, none⟩ = some (.string x.nm)) X from fun X h => ((HRX.out.later h).cell 0).trans rfl)
      clear hx hb hgx hbX1 RN hlm hc
      have HMAY := Lib.hid (show ∀ X, Below X1.heap.size X1 X → True from fun _ _ => trivial)
      have HARG := Lib.hid (And.intro hA hn)
      have HLX := Lib.hid hlx
      have HE1 := Lib.hid he1
      have HXL := Lib.hid (HL.out.pn x (List.mem_of_getElem? HXX.out)).2
      clear hA hn hlx he1
      go_upto_region 10 with fail
      (try rw [hX1])
      clear hX1 n0 n1 
      by_cases hok : ((b || c) && !inB ((g.ps.take k).map PoD.nm) x.nm) = true
      case neg =>
        have HD := Lib.hid (HDX.out 15 (by rw [HPC.out, if_neg hok]) (by decide))
        have HDD := Lib.hid (show ∀ X, Below X1.heap.size X1 X → HeadG g w (.panicked (diesV 15)) X from fun X h => HD.out X (hbE.trans ((HBX.out.trans (h.mono HBX.out.size)).mono hszE)))
        clear HD
        have HD := HDD
        clear HDD
        have HNO := Lib.hid (show (b || c) = false ∨ inB ((g.ps.take k).map PoD.nm) x.nm = true by
          cases h1 : (b || c)
          · exact .inl rfl
          · right
            rw [h1] at hok
            simpa using hok)
        clear hok
        cases b with
        | true =>
          simp only [Bool.true_or] at HNO
          have C0 : Below X1.heap.size X1 X1.drew := (Below.refl _ _).drew
          refine wp_region_held_drew (S := fun X => X.cell? ⟨wr.heap.size, 0, none⟩ = some (.string x.nm)) (by kernel_rfl) (MK.out _ C0) (fun hHeld => ?_)
          obtain ⟨z0, hdrptn⟩ : ∃ Y, X1.drew = Y := ⟨_, rfl⟩
          rw [hdrptn] at C0 hHeld ⊢
          clear hdrptn
          refine todo [0, 1, 2, 3, 4] ?_
          iterate 5
           refine todoH (v := ?_) rfl (by kernel_rfl) (fun _ _ _ h => h) (by assumption) (Or.inl ⟨by rfl, ?_⟩) ?_
           rotate_left
           · intro w hSw; (try dsimp only at hSw); go_simp; (try with_reducible rfl)
           try simp only [Act.put, List.getElem_toArray, List.getElem_cons_succ, List.getElem_cons_zero, List.setIfInBounds_toArray, List.set_cons_zero, List.set_cons_succ]
          refine todone ?_
          refine wpAnyH_ready (rs := [5]) (by kernel_rfl) (by simp) ?_
          refine AllReadyH.cons rfl (fun K hK => ?sptn_5) AllReadyH.nil
          go_simp
          refine (nameG_any x.nm z0 HSM.out).mono ?_
          rintro e z1 ⟨rfl, hy⟩
          have C1 : Below X1.heap.size X1 z1 := C0.trans (hy.mono C0.size)
          have Dptn1 := hy
          clear hy
          rw [HPL.out]
          go_simp
          refine hK.out _ _ (MK.out _ C1) (fun hHeld2 => ?mptn_5)
          clear hK K hHeld
          have hHeld := hHeld2
          clear hHeld2
          try simp only [Act.put, List.getElem_toArray, List.getElem_cons_succ, List.getElem_cons_zero, List.setIfInBounds_toArray, List.set_cons_zero, List.set_cons_succ]
          refine todo [6, 7, 8] ?_
          iterate 3
           first
           | (refine todoH (v := ?_) rfl (by kernel_rfl) (fun _ _ _ h => h) (by assumption) (Or.inl ⟨by rfl, ?_⟩) ?_
              rotate_left
              · intro w hSw; (try dsimp only at hSw); go_simp; (try with_reducible rfl)
              try simp only [Act.put, List.getElem_toArray, List.getElem_cons_succ, List.getElem_cons_zero, List.setIfInBounds_toArray, List.set_cons_zero, List.set_cons_succ])
           | (refine todoH (v := undef) rfl (by kernel_rfl) (fun _ _ _ h => h) (by assumption) (Or.inr ⟨by rfl, rfl⟩) ?_
              try simp only [Act.put, List.getElem_toArray, List.getElem_cons_succ, List.getElem_cons_zero, List.setIfInBounds_toArray, List.set_cons_zero, List.set_cons_succ])
          refine todone ?_
          refine wpAnyH_ready (rs := [9]) (by kernel_rfl) (by simp) ?_
          refine AllReadyH.cons rfl (fun K hK => ?sptn_9) AllReadyH.nil
          go_simp
          refine hK.out _ _ (MK.out _ C1) (fun hHeld2 => ?mptn_9)
          clear hK K hHeld
          have hHeld := hHeld2
          clear hHeld2
          try simp only [Act.put, List.getElem_toArray, List.getElem_cons_succ, List.getElem_cons_zero, List.setIfInBounds_toArray, List.set_cons_zero, List.set_cons_succ]
          refine todo [10] ?_
          iterate 1
           refine todoH (v := ?_) rfl (by kernel_rfl) (fun _ _ _ h => h) (by assumption) (Or.inl ⟨by rfl, ?_⟩) ?_
           rotate_left
           · intro w hSw; (try dsimp only at hSw); go_simp; (try with_reducible rfl)
           try simp only [Act.put, List.getElem_toArray, List.getElem_cons_succ, List.getElem_cons_zero, List.setIfInBounds_toArray, List.set_cons_zero, List.set_cons_succ]
          refine todone ?_
          refine wpAnyH_ready (rs := [11]) (by kernel_rfl) (by simp) ?_
          refine AllReadyH.cons rfl (fun K hK => ?so_ptn) AllReadyH.nil
          go_simp
          refine (take_no (n := k) x.nm (HINX.out.later C1).2.1 (HINX.out.later C1).2.2.1 (by have := HSM.out; unfold maxLen; omega) HNO.out).mono ?_
          rintro e zz ⟨rfl, rfl⟩
          (try rw [Exit.noGoto_panic])
          exact ⟨rfl, HD.out _ C1⟩
        | false =>
          simp only [Bool.false_or] at HNO
          have C0 : Below X1.heap.size X1 X1.drew := (Below.refl _ _).drew
          refine wp_region_held_drew (S := fun X => X.cell? ⟨wr.heap.size, 0, none⟩ = some (.string x.nm)) (by kernel_rfl) (MK.out _ C0) (fun hHeld => ?_)
          obtain ⟨z0, hdrpfn⟩ : ∃ Y, X1.drew = Y := ⟨_, rfl⟩
          rw [hdrpfn] at C0 hHeld ⊢
          clear hdrpfn
          refine todo [0, 1, 2, 3, 4] ?_
          iterate 5
           refine todoH (v := ?_) rfl (by kernel_rfl) (fun _ _ _ h => h) (by assumption) (Or.inl ⟨by rfl, ?_⟩) ?_
           rotate_left
           · intro w hSw; (try dsimp only at hSw); go_simp; (try with_reducible rfl)
           try simp only [Act.put, List.getElem_toArray, List.getElem_cons_succ, List.getElem_cons_zero, List.setIfInBounds_toArray, List.set_cons_zero, List.set_cons_succ]
          refine todone ?_
          refine wpAnyH_ready (rs := [5]) (by kernel_rfl) (by simp) ?_
          refine AllReadyH.cons rfl (fun K hK => ?spfn_5) AllReadyH.nil
          go_simp
          refine (nameG_any x.nm z0 HSM.out).mono ?_
          rintro e z1 ⟨rfl, hy⟩
          have C1 : Below X1.heap.size X1 z1 := C0.trans (hy.mono C0.size)
          have Dpfn1 := hy
          clear hy
          rw [HPL.out]
          go_simp
          refine hK.out _ _ (MK.out _ C1) (fun hHeld2 => ?mpfn_5)
          clear hK K hHeld
          have hHeld := hHeld2
          clear hHeld2
          try simp only [Act.put, List.getElem_toArray, List.getElem_cons_succ, List.getElem_cons_zero, List.setIfInBounds_toArray, List.set_cons_zero, List.set_cons_succ]
          refine todo [6, 7, 8] ?_
          iterate 3
           refine todoH (v := ?_) rfl (by kernel_rfl) (fun _ _ _ h => h) (by assumption) (Or.inl ⟨by rfl, ?_⟩) ?_
           rotate_left
           · intro w hSw; (try dsimp only at hSw); go_simp; (try with_reducible rfl)
           try simp only [Act.put, List.getElem_toArray, List.getElem_cons_succ, List.getElem_cons_zero, List.setIfInBounds_toArray, List.set_cons_zero, List.set_cons_succ]
          refine todone ?_
          refine wpAnyH_ready (rs := [9]) (by kernel_rfl) (by simp) ?_
          refine AllReadyH.cons rfl (fun K hK => ?spfn_9) AllReadyH.nil
          go_simp
          refine (cotG_any x.nm z1 HSM.out (HGB.out z1 C1)).mono ?_
          rintro e z2 ⟨rfl, hy⟩
          have C2 : Below X1.heap.size X1 z2 := C1.trans (hy.mono C1.size)
          have Dpfn2 := hy
          clear hy
          rw [HCT.out]
          go_simp
          refine hK.out _ _ (MK.out _ C2) (fun hHeld2 => ?mpfn_9)
          clear hK K hHeld
          have hHeld := hHeld2
          clear hHeld2
          try simp only [Act.put, List.getElem_toArray, List.getElem_cons_succ, List.getElem_cons_zero, List.setIfInBounds_toArray, List.set_cons_zero, List.set_cons_succ]
          refine todo [10] ?_
          iterate 1
           refine todoH (v := ?_) rfl (by kernel_rfl) (fun _ _ _ h => h) (by assumption) (Or.inl ⟨by rfl, ?_⟩) ?_
           rotate_left
           · intro w hSw; (try dsimp only at hSw); go_simp; (try with_reducible rfl)
           try simp only [Act.put, List.getElem_toArray, List.getElem_cons_succ, List.getElem_cons_zero, List.setIfInBounds_toArray, List.set_cons_zero, List.set_cons_succ]
          refine todone ?_
          refine wpAnyH_ready (rs := [11]) (by kernel_rfl) (by simp) ?_
          refine AllReadyH.cons rfl (fun K hK => ?so_pfn) AllReadyH.nil
          go_simp
          refine (take_no (n := k) x.nm (HINX.out.later C2).2.1 (HINX.out.later C2).2.2.1 (by have := HSM.out; unfold maxLen; omega) HNO.out).mono ?_
          rintro e zz ⟨rfl, rfl⟩
          (try rw [Exit.noGoto_panic])
          exact ⟨rfl, HD.out _ C2⟩
      case pos =>
      have HNO := Lib.hid (show inB ((g.ps.take k).map PoD.nm) x.nm = false by
        have h := (Bool.and_eq_true _ _ ▸ hok).2
        simpa using h)
      have hok1 := (Bool.and_eq_true _ _ ▸ hok).1
      have HOK := Lib.hid hok
      clear hok
      go_cut [45] (fun s wx => InvH #[.int .i64 g.v, .slice (some ⟨b1, o1, none⟩) np A.pc, .slice wa nw A.wc, .slice A.na nn A.nc, .slice A.oa no A.oc, .bool hv, .slice A.va nv A.vc, .slice A.ua nu A.uc] w (y1.heap.size + 1) y1.heap.size (k + 1) ((g.ps.take k).map PoD.nm ++ [x.nm]) wx ∧ Row wx wr.heap.size 74 #[.string x.nm, .slice a1 lx c1])
      case first =>
        cases b with
        | true =>
          clear hok1
          have C0 : Below X1.heap.size X1 X1.drew := (Below.refl _ _).drew
          refine wp_region_held_drew (S := fun X => X.cell? ⟨wr.heap.size, 0, none⟩ = some (.string x.nm)) (by kernel_rfl) (MK.out _ C0) (fun hHeld => ?_)
          obtain ⟨z0, hdrpty⟩ : ∃ Y, X1.drew = Y := ⟨_, rfl⟩
          rw [hdrpty] at C0 hHeld ⊢
          clear hdrpty
          refine todo [0, 1, 2, 3, 4] ?_
          iterate 5
           refine todoH (v := ?_) rfl (by kernel_rfl) (fun _ _ _ h => h) (by assumption) (Or.inl ⟨by rfl, ?_⟩) ?_
           rotate_left
           · intro w hSw; (try dsimp only at hSw); go_simp; (try with_reducible rfl)
           try simp only [Act.put, List.getElem_toArray, List.getElem_cons_succ, List.getElem_cons_zero, List.setIfInBounds_toArray, List.set_cons_zero, List.set_cons_succ]
          refine todone ?_
          refine wpAnyH_ready (rs := [5]) (by kernel_rfl) (by simp) ?_
          refine AllReadyH.cons rfl (fun K hK => ?spty_5) AllReadyH.nil
          go_simp
          refine (nameG_any x.nm z0 HSM.out).mono ?_
          rintro e z1 ⟨rfl, hy⟩
          have C1 : Below X1.heap.size X1 z1 := C0.trans (hy.mono C0.size)
          have Dpty1 := hy
          clear hy
          rw [HPL.out]
          go_simp
          refine hK.out _ _ (MK.out _ C1) (fun hHeld2 => ?mpty_5)
          clear hK K hHeld
          have hHeld := hHeld2
          clear hHeld2
          try simp only [Act.put, List.getElem_toArray, List.getElem_cons_succ, List.getElem_cons_zero, List.setIfInBounds_toArray, List.set_cons_zero, List.set_cons_succ]
          refine todo [6, 7, 8] ?_
          iterate 3
           first
           | (refine todoH (v := ?_) rfl (by kernel_rfl) (fun _ _ _ h => h) (by assumption) (Or.inl ⟨by rfl, ?_⟩) ?_
              rotate_left
              · intro w hSw; (try dsimp only at hSw); go_simp; (try with_reducible rfl)
              try simp only [Act.put, List.getElem_toArray, List.getElem_cons_succ, List.getElem_cons_zero, List.setIfInBounds_toArray, List.set_cons_zero, List.set_cons_succ])
           | (refine todoH (v := undef) rfl (by kernel_rfl) (fun _ _ _ h => h) (by assumption) (Or.inr ⟨by rfl, rfl⟩) ?_
              try simp only [Act.put, List.getElem_toArray, List.getElem_cons_succ, List.getElem_cons_zero, List.setIfInBounds_toArray, List.set_cons_zero, List.set_cons_succ])
          refine todone ?_
          refine wpAnyH_ready (rs := [9]) (by kernel_rfl) (by simp) ?_
          refine AllReadyH.cons rfl (fun K hK => ?spty_9) AllReadyH.nil
          go_simp
          refine hK.out _ _ (MK.out _ C1) (fun hHeld2 => ?mpty_9)
          clear hK K hHeld
          have hHeld := hHeld2
          clear hHeld2
          try simp only [Act.put, List.getElem_toArray, List.getElem_cons_succ, List.getElem_cons_zero, List.setIfInBounds_toArray, List.set_cons_zero, List.set_cons_succ]
          refine todo [10] ?_
          iterate 1
           refine todoH (v := ?_) rfl (by kernel_rfl) (fun _ _ _ h => h) (by assumption) (Or.inl ⟨by rfl, ?_⟩) ?_
           rotate_left
           · intro w hSw; (try dsimp only at hSw); go_simp; (try with_reducible rfl)
           try simp only [Act.put, List.getElem_toArray, List.getElem_cons_succ, List.getElem_cons_zero, List.setIfInBounds_toArray, List.set_cons_zero, List.set_cons_succ]
          refine todone ?_
          refine wpAnyH_ready (rs := [11]) (by kernel_rfl) (by simp) ?_
          refine AllReadyH.cons rfl (fun K hK => ?so_pty) AllReadyH.nil
          go_simp
          refine (take_yes (n := k) x.nm (HINX.out.later C1).2.1 (HINX.out.later C1).2.2.1 (by have := HSM.out; unfold maxLen; omega) (by have h1 := HL1.out; have h2 := HLIM2.out; unfold maxLen; omega) HNO.out).mono ?_
          rintro e z2 ⟨rfl, hM, hg⟩
          have HI := Lib.hid ((HINX.out.later C1).put hM hg HBM.out)
          have HN1 := Lib.hid ((HRX.out.later C1).grownM hg ((HINX.out.later C1).2.2.1))
          clear hM hg
          go_simp
          have hkk : z2.cell? ⟨wr.heap.size, 0, none⟩ = some (.string x.nm) := (HN1.out.cell 0).trans rfl
          refine hK.out _ _ hkk (fun hHeld2 => ?mo_pty)
          clear hK K hHeld hkk hHeld2
          try simp only [Act.put, List.getElem_toArray, List.getElem_cons_succ, List.getElem_cons_zero, List.setIfInBounds_toArray, List.set_cons_zero, List.set_cons_succ]
          refine wpAnyH_done (by kernel_rfl) ?_ _
          (try dsimp only [Straight])
          (try go_wp2_with fail)
          go_meet
          exact ⟨HI.out, HN1.out⟩
        | false =>
          obtain rfl : c = true := by simpa using hok1
          clear hok1
          have C0 : Below X1.heap.size X1 X1.drew := (Below.refl _ _).drew
          refine wp_region_held_drew (S := fun X => X.cell? ⟨wr.heap.size, 0, none⟩ = some (.string x.nm)) (by kernel_rfl) (MK.out _ C0) (fun hHeld => ?_)
          obtain ⟨z0, hdrpfy⟩ : ∃ Y, X1.drew = Y := ⟨_, rfl⟩
          rw [hdrpfy] at C0 hHeld ⊢
          clear hdrpfy
          refine todo [0, 1, 2, 3, 4] ?_
          iterate 5
           refine todoH (v := ?_) rfl (by kernel_rfl) (fun _ _ _ h => h) (by assumption) (Or.inl ⟨by rfl, ?_⟩) ?_
           rotate_left
           · intro w hSw; (try dsimp only at hSw); go_simp; (try with_reducible rfl)
           try simp only [Act.put, List.getElem_toArray, List.getElem_cons_succ, List.getElem_cons_zero, List.setIfInBounds_toArray, List.set_cons_zero, List.set_cons_succ]
          refine todone ?_
          refine wpAnyH_ready (rs := [5]) (by kernel_rfl) (by simp) ?_
          refine AllReadyH.cons rfl (fun K hK => ?spfy_5) AllReadyH.nil
          go_simp
          refine (nameG_any x.nm z0 HSM.out).mono ?_
          rintro e z1 ⟨rfl, hy⟩
          have C1 : Below X1.heap.size X1 z1 := C0.trans (hy.mono C0.size)
          have Dpfy1 := hy
          clear hy
          rw [HPL.out]
          go_simp
          refine hK.out _ _ (MK.out _ C1) (fun hHeld2 => ?mpfy_5)
          clear hK K hHeld
          have hHeld := hHeld2
          clear hHeld2
          try simp only [Act.put, List.getElem_toArray, List.getElem_cons_succ, List.getElem_cons_zero, List.setIfInBounds_toArray, List.set_cons_zero, List.set_cons_succ]
          refine todo [6, 7, 8] ?_
          iterate 3
           refine todoH (v := ?_) rfl (by kernel_rfl) (fun _ _ _ h => h) (by assumption) (Or.inl ⟨by rfl, ?_⟩) ?_
           rotate_left
           · intro w hSw; (try dsimp only at hSw); go_simp; (try with_reducible rfl)
           try simp only [Act.put, List.getElem_toArray, List.getElem_cons_succ, List.getElem_cons_zero, List.setIfInBounds_toArray, List.set_cons_zero, List.set_cons_succ]
          refine todone ?_
          refine wpAnyH_ready (rs := [9]) (by kernel_rfl) (by simp) ?_
          refine AllReadyH.cons rfl (fun K hK => ?spfy_9) AllReadyH.nil
          go_simp
          refine (cotG_any x.nm z1 HSM.out (HGB.out z1 C1)).mono ?_
          rintro e z2 ⟨rfl, hy⟩
          have C2 : Below X1.heap.size X1 z2 := C1.trans (hy.mono C1.size)
          have Dpfy2 := hy
          clear hy
          rw [HCT.out]
          go_simp
          refine hK.out _ _ (MK.out _ C2) (fun hHeld2 => ?mpfy_9)
          clear hK K hHeld
          have hHeld := hHeld2
          clear hHeld2
          try simp only [Act.put, List.getElem_toArray, List.getElem_cons_succ, List.getElem_cons_zero, List.setIfInBounds_toArray, List.set_cons_zero, List.set_cons_succ]
          refine todo [10] ?_
          iterate 1
           refine todoH (v := ?_) rfl (by kernel_rfl) (fun _ _ _ h => h) (by assumption) (Or.inl ⟨by rfl, ?_⟩) ?_
           rotate_left
           · intro w hSw; (try dsimp only at hSw); go_simp; (try with_reducible rfl)
           try simp only [Act.put, List.getElem_toArray, List.getElem_cons_succ, List.getElem_cons_zero, List.setIfInBounds_toArray, List.set_cons_zero, List.set_cons_succ]
          refine todone ?_
          refine wpAnyH_ready (rs := [11]) (by kernel_rfl) (by simp) ?_
          refine AllReadyH.cons rfl (fun K hK => ?so_pfy) AllReadyH.nil
          go_simp
          refine (take_yes (n := k) x.nm (HINX.out.later C2).2.1 (HINX.out.later C2).2.2.1 (by have := HSM.out; unfold maxLen; omega) (by have h1 := HL1.out; have h2 := HLIM2.out; unfold maxLen; omega) HNO.out).mono ?_
          rintro e z3 ⟨rfl, hM, hg⟩
          have HI := Lib.hid ((HINX.out.later C2).put hM hg HBM.out)
          have HN1 := Lib.hid ((HRX.out.later C2).grownM hg ((HINX.out.later C2).2.2.1))
          clear hM hg
          go_simp
          have hkk : z3.cell? ⟨wr.heap.size, 0, none⟩ = some (.string x.nm) := (HN1.out.cell 0).trans rfl
          refine hK.out _ _ hkk (fun hHeld2 => ?mo_pfy)
          clear hK K hHeld hkk hHeld2
          try simp only [Act.put, List.getElem_toArray, List.getElem_cons_succ, List.getElem_cons_zero, List.setIfInBounds_toArray, List.set_cons_zero, List.set_cons_succ]
          refine wpAnyH_done (by kernel_rfl) ?_ _
          (try dsimp only [Straight])
          (try go_wp2_with fail)
          go_meet
          exact ⟨HI.out, HN1.out⟩
      obtain ⟨hI, hN⟩ := hcut
      rename World => wc
      have HIc := Lib.hid hI
      have HNc := Lib.hid hN
      have HBc := Lib.hid hI.2.2.2
      have w1 := (hN.cell 1).trans rfl
      clear hI hN
      have hms := mayS_any (HARG.out.1.later HBc.out) HXL.out
      rw [HLX.out, HE1.out] at hms
      have HMS := Lib.hid hms
      clear hms hok1
      go_wp2_with fail
      refine HMS.out.mono ?_
      rintro e y3 ⟨rfl, hy3⟩
      have HI3 := Lib.hid (HIc.out.later hy3)
      clear hy3 w1
      by_cases h1 : e1 = 0
      case neg =>
        have hd := HDX.out e1 (by rw [HPC.out, if_pos HOK.out]) h1 y3 HI3.out.2.2.2
        have HD := Lib.hid hd
        have h1b := h1
        clear hd h1
        go_wp2_with fail
        refine (demandOK_no h1b _).mono ?_
        rintro e w' ⟨rfl, rfl⟩
        (try rw [Exit.noGoto_panic])
        exact ⟨rfl, HD.out⟩
      case pos =>
      subst h1
      go_wp2_with fail
      refine (demandOK_yes _).mono ?_
      rintro e w' ⟨rfl, rfl⟩
      rename World => y3
      go_wp2_with fail
      go_roundw
      case rel =>
        refine ⟨k + 1, by go_num, by omega, ?_, Lib.hid (fun j hj => ?_)⟩
        · rw [take_nextN HXX.out, List.map_append]
          exact HI3.out
        · by_cases hjk : j < k
          · exact hzero.out j hjk
          · obtain rfl : j = k := by omega
            rw [HPC.out, if_pos HOK.out]
      case measure => simp [intOf]; omega
    · obtain rfl : np = k := by omega
      have hltI : ¬ (np : Int) < (np : Int) := by omega
      have HPZ := Lib.hid (show ∀ j, j < g.ps.length → portC g.ps j = 0 from fun j hj => hzero.out j (by rw [← HNP.out]; exact hj))
      have HI0 := HINX0.out
      rw [List.take_of_length_le (by rw [HNP.out]; exact Nat.le_refl _)] at HI0
      have HINV2 := Lib.hid (show InvH #[.int .i64 g.v, .slice pa np A.pc, .slice wa nw A.wc, .slice A.na nn A.nc, .slice A.oa no A.oc, .bool hv, .slice A.va nv A.vc, .slice A.ua nu A.uc] w (y1.heap.size + 1) y1.heap.size (np + 0) (g.ps.map PoD.nm ++ (g.ws.take 0).map WeD.nm) wr by
        rw [List.take_zero, List.map_nil, List.append_nil]
        exact HI0)
      have v2 := HI0.1.cell 2
      simp only [List.getElem?_toArray, List.getElem?_cons_zero, List.getElem?_cons_succ] at v2
      clear HI0 hcg HINX0 hzero HINV
      go_wp2_with fail
      go_loopw [54] (fun i wr => ∃ k : Nat, i = .int .i64 (k : Int) ∧ k ≤ nw ∧ InvH #[.int .i64 g.v, .slice pa np A.pc, .slice wa nw A.wc, .slice A.na nn A.nc, .slice A.oa no A.oc, .bool hv, .slice A.va nv A.vc, .slice A.ua nu A.uc] w (y1.heap.size + 1) y1.heap.size (np + k) (g.ps.map PoD.nm ++ (g.ws.take k).map WeD.nm) wr ∧ Hid (∀ j, j < k → wgtC g.ps g.ws j = 0)) (fun i _ => nw - (intOf i).toNat)
      case atStart => exact ⟨0, rfl, Nat.zero_le _, HINV2.out, Lib.hid (fun j hj => by omega)⟩
      case round =>
        rename World => wr
        obtain ⟨k, rfl, hk, hinv, hzero⟩ := hrel
        have HINX0 := Lib.hid hinv
        have hcg := hinv.1.cell 2
        simp only [List.getElem?_toArray, List.getElem?_cons_zero, List.getElem?_cons_succ] at hcg
        have hbE := hinv.2.2.2
        have hszE := hbE.size
        clear hinv
        by_cases hlt : k < nw
        · have hltI : (k : Int) < (nw : Int) := by omega
          have hk3 : (k : Int) ≤ 200 := by have h1 := HL1.out; have h2 := HLIM2.out; have h3 := HL3.out; omega
          obtain ⟨b1, o1, x, hwa2, hx, a1, c1, a2, c2, n0w, n1w, n2w, hT⟩ := HH.out.ws.at (i := k) (by rw [HNW.out]; exact hlt)
          have n0 := oldCell n0w hbE
          have n1 := oldCell n1w hbE
          have n2 := oldCell n2w hbE
          clear n0w n1w n2w
          rw [HWA.out] at hwa2
          subst hwa2
          have hlm := HL.out.wn x (List.mem_of_getElem? hx)
          have HSM := Lib.hid hlm.1
          obtain ⟨lx, hlx⟩ : ∃ c, x.s.length = c := ⟨_, rfl⟩
          obtain ⟨ly, hly⟩ : ∃ c, x.q.length = c := ⟨_, rfl⟩
          obtain ⟨e1, he1⟩ : ∃ c, mayT x.s x.q = c := ⟨_, rfl⟩
          obtain ⟨lg, hlg⟩ : ∃ c, longB x.q = c := ⟨_, rfl⟩
          obtain ⟨b, hb⟩ : ∃ b, plainB (nmL x.nm) = b := ⟨_, rfl⟩
          have hgx : g.ws.getD k noWe = x := by rw [List.getD_eq_getElem?_getD, hx]; rfl
          have HPC := Lib.hid (show wgtC g.ps g.ws k = if (b && !inB (g.ps.map PoD.nm ++ (g.ws.take k).map WeD.nm) x.nm) = true then (if e1 ≠ 0 then e1 else if lg = true then 14 else 0) else 15 by
            unfold wgtC
            rw [hgx, hb, he1, hlg, hadP_in, hadW_in, inB_app, List.take_of_length_le (Nat.le_refl _)]
            simp only [Bool.not_or, Bool.and_assoc])
          have HPL := Lib.hid hb
          have HDX := Lib.hid (show ∀ cc, wgtC g.ps g.ws k = cc → ¬ cc = 0 → ∀ X, Below w.heap.size w X → HeadG g w (.panicked (diesV cc)) X from fun cc h1 h0 X hX => HeadG.die (headC_wgt (by rw [HLIM.out, HNP.out]; exact HL1.out) (by rw [HNW.out]; exact HL3.out) HPZ.out hzero.out (by rw [HNW.out]; exact hlt) h1 h0) h0 hX)
          have HXX := Lib.hid hx
          rw [hlx] at n1
          rw [hly] at n2
          obtain ⟨X1, hX1⟩ : ∃ X, wr.alloc (.cells #[.string x.nm, .slice a1 lx c1, .slice a2 ly c2] 67) = X := ⟨_, rfl⟩
          have RN : Row X1 wr.heap.size 67 #[.string x.nm, .slice a1 lx c1, .slice a2 ly c2] := by rw [← hX1]; exact Row.new _ _ _
          have hbX1 : Below wr.heap.size wr X1 := by rw [← hX1]; exact (Below.refl _ _).alloc (Nat.le_refl _) _
          have HBX := Lib.hid hbX1
          have HRX := Lib.hid RN
          have HINX := Lib.hid (HINX0.out.later hbX1)
          have HGB := Lib.hid (show ∀ X, Below X1.heap.size X1 X → Glb X from fun X h => (HGW.out.later (hbE.trans ((hbX1.trans (h.mono hbX1.size)).mono hszE))))
          have MK := Lib.hid (show ∀ X, Below X1.heap.size X1 X → (fun X => X.cell? ⟨wr.heap.size, 0, none⟩ = some (.string x.nm)) X from fun X h => ((HRX.out.later h).cell 0).trans rfl)
          clear hx hb hgx hbX1 RN hlm
          have HARG := Lib.hid hT
          have HLX := Lib.hid hlx
          have HLY := Lib.hid hly
          have HE1 := Lib.hid he1
          have HLG := Lib.hid hlg
          have HXL := Lib.hid (HL.out.wn x (List.mem_of_getElem? HXX.out)).2
          clear hT hlx hly he1 hlg
          go_upto_region 16 with fail
          (try rw [hX1])
          clear hX1 n0 n1 n2
          by_cases hok : (b && !inB (g.ps.map PoD.nm ++ (g.ws.take k).map WeD.nm) x.nm) = true
          case neg =>
            have HD := Lib.hid (HDX.out 15 (by rw [HPC.out, if_neg hok]) (by decide))
            have HDD := Lib.hid (show ∀ X, Below X1.heap.size X1 X → HeadG g w (.panicked (diesV 15)) X from fun X h => HD.out X (hbE.trans ((HBX.out.trans (h.mono HBX.out.size)).mono hszE)))
            clear HD
            have HD := HDD
            clear HDD
            have HNO := Lib.hid (show b = false ∨ inB (g.ps.map PoD.nm ++ (g.ws.take k).map WeD.nm) x.nm = true by
              cases h1 : b
              · exact .inl rfl
              · right
                rw [h1] at hok
                simpa using hok)
            clear hok
            have C0 : Below X1.heap.size X1 X1.drew := (Below.refl _ _).drew
            refine wp_region_held_drew (S := fun X => X.cell? ⟨wr.heap.size, 0, none⟩ = some (.string x.nm)) (by kernel_rfl) (MK.out _ C0) (fun hHeld => ?_)
            obtain ⟨z0, hdrwtn⟩ : ∃ Y, X1.drew = Y := ⟨_, rfl⟩
            rw [hdrwtn] at C0 hHeld ⊢
            clear hdrwtn
            refine todo [0, 1, 2, 3, 4] ?_
            iterate 5
             refine todoH (v := ?_) rfl (by kernel_rfl) (fun _ _ _ h => h) (by assumption) (Or.inl ⟨by rfl, ?_⟩) ?_
             rotate_left
             · intro w hSw; (try dsimp only at hSw); go_simp; (try with_reducible rfl)
             try simp only [Act.put, List.getElem_toArray, List.getElem_cons_succ, List.getElem_cons_zero, List.setIfInBounds_toArray, List.set_cons_zero, List.set_cons_succ]
            refine todone ?_
            refine wpAnyH_ready (rs := [5]) (by kernel_rfl) (by simp) ?_
            refine AllReadyH.cons rfl (fun K hK => ?swtn_5) AllReadyH.nil
            go_simp
            refine (nameG_any x.nm z0 HSM.out).mono ?_
            rintro e z1 ⟨rfl, hy⟩
            have C1 : Below X1.heap.size X1 z1 := C0.trans (hy.mono C0.size)
            have Dwtn1 := hy
            clear hy
            rw [HPL.out]
            go_simp
            refine hK.out _ _ (MK.out _ C1) (fun hHeld2 => ?mwtn_5)
            clear hK K hHeld
            have hHeld := hHeld2
            clear hHeld2
            try simp only [Act.put, List.getElem_toArray, List.getElem_cons_succ, List.getElem_cons_zero, List.setIfInBounds_toArray, List.set_cons_zero, List.set_cons_succ]
            refine wpAnyH_ready (rs := [6]) (by kernel_rfl) (by simp) ?_
            refine AllReadyH.cons rfl (fun K hK => ?so_wtn) AllReadyH.nil
            go_simp
            refine (take_no (n := (np + k)) x.nm (HINX.out.later C1).2.1 (HINX.out.later C1).2.2.1 (by have := HSM.out; unfold maxLen; omega) HNO.out).mono ?_
            rintro e zz ⟨rfl, rfl⟩
            (try rw [Exit.noGoto_panic])
            exact ⟨rfl, HD.out _ C1⟩
          case pos =>
          have HNO := Lib.hid (show inB (g.ps.map PoD.nm ++ (g.ws.take k).map WeD.nm) x.nm = false by
            have h := (Bool.and_eq_true _ _ ▸ hok).2
            simpa using h)
          have hok1 := (Bool.and_eq_true _ _ ▸ hok).1
          have HOK := Lib.hid hok
          clear hok
          go_cut [64] (fun s wx => InvH #[.int .i64 g.v, .slice pa np A.pc, .slice (some ⟨b1, o1, none⟩) nw A.wc, .slice A.na nn A.nc, .slice A.oa no A.oc, .bool hv, .slice A.va nv A.vc, .slice A.ua nu A.uc] w (y1.heap.size + 1) y1.heap.size (np + k + 1) (g.ps.map PoD.nm ++ (g.ws.take k).map WeD.nm ++ [x.nm]) wx ∧ Row wx wr.heap.size 67 #[.string x.nm, .slice a1 lx c1, .slice a2 ly c2])
          case first =>
            obtain rfl : b = true := hok1
            have C0 : Below X1.heap.size X1 X1.drew := (Below.refl _ _).drew
            refine wp_region_held_drew (S := fun X => X.cell? ⟨wr.heap.size, 0, none⟩ = some (.string x.nm)) (by kernel_rfl) (MK.out _ C0) (fun hHeld => ?_)
            obtain ⟨z0, hdrwty⟩ : ∃ Y, X1.drew = Y := ⟨_, rfl⟩
            rw [hdrwty] at C0 hHeld ⊢
            clear hdrwty
            refine todo [0, 1, 2, 3, 4] ?_
            iterate 5
             refine todoH (v := ?_) rfl (by kernel_rfl) (fun _ _ _ h => h) (by assumption) (Or.inl ⟨by rfl, ?_⟩) ?_
             rotate_left
             · intro w hSw; (try dsimp only at hSw); go_simp; (try with_reducible rfl)
             try simp only [Act.put, List.getElem_toArray, List.getElem_cons_succ, List.getElem_cons_zero, List.setIfInBounds_toArray, List.set_cons_zero, List.set_cons_succ]
            refine todone ?_
            refine wpAnyH_ready (rs := [5]) (by kernel_rfl) (by simp) ?_
            refine AllReadyH.cons rfl (fun K hK => ?swty_5) AllReadyH.nil
            go_simp
            refine (nameG_any x.nm z0 HSM.out).mono ?_
            rintro e z1 ⟨rfl, hy⟩
            have C1 : Below X1.heap.size X1 z1 := C0.trans (hy.mono C0.size)
            have Dwty1 := hy
            clear hy
            rw [HPL.out]
            go_simp
            refine hK.out _ _ (MK.out _ C1) (fun hHeld2 => ?mwty_5)
            clear hK K hHeld
            have hHeld := hHeld2
            clear hHeld2
            try simp only [Act.put, List.getElem_toArray, List.getElem_cons_succ, List.getElem_cons_zero, List.setIfInBounds_toArray, List.set_cons_zero, List.set_cons_succ]
            refine wpAnyH_ready (rs := [6]) (by kernel_rfl) (by simp) ?_
            refine AllReadyH.cons rfl (fun K hK => ?so_wty) AllReadyH.nil
            go_simp
            refine (take_yes (n := (np + k)) x.nm (HINX.out.later C1).2.1 (HINX.out.later C1).2.2.1 (by have := HSM.out; unfold maxLen; omega) (by have h1 := HL1.out; have h2 := HLIM2.out; unfold maxLen; omega) HNO.out).mono ?_
            rintro e z2 ⟨rfl, hM, hg⟩
            have HI := Lib.hid ((HINX.out.later C1).put hM hg HBM.out)
            have HN1 := Lib.hid ((HRX.out.later C1).grownM hg ((HINX.out.later C1).2.2.1))
            clear hM hg
            go_simp
            have hkk : z2.cell? ⟨wr.heap.size, 0, none⟩ = some (.string x.nm) := (HN1.out.cell 0).trans rfl
            refine hK.out _ _ hkk (fun hHeld2 => ?mo_wty)
            clear hK K hHeld hkk hHeld2
            try simp only [Act.put, List.getElem_toArray, List.getElem_cons_succ, List.getElem_cons_zero, List.setIfInBounds_toArray, List.set_cons_zero, List.set_cons_succ]
            refine wpAnyH_done (by kernel_rfl) ?_ _
            (try dsimp only [Straight])
            (try go_wp2_with fail)
            go_meet
            exact ⟨HI.out, HN1.out⟩
          obtain ⟨hI, hN⟩ := hcut
          rename World => wc
          have HIc := Lib.hid hI
          have HNc := Lib.hid hN
          have HBc := Lib.hid hI.2.2.2
          have w1 := (hN.cell 1).trans rfl
          have w2 := (hN.cell 2).trans rfl
          clear hI hN
          have hms := mayT7_any (n := 1048576) (HARG.out.later HBc.out) HXL.out.1 HXL.out.2.1 HXL.out.2.2 (by omega)
          rw [HLX.out, HLY.out, HE1.out] at hms
          have HMS := Lib.hid hms
          clear hms hok1
          go_wp2_with fail
          refine HMS.out.mono ?_
          rintro e y3 ⟨rfl, hy3⟩
          have HI3 := Lib.hid (HIc.out.later hy3)
          have HN3 := Lib.hid (HNc.out.later hy3)
          clear hy3 w1 w2
          by_cases h1 : e1 = 0
          case neg =>
            have hd := HDX.out e1 (by rw [HPC.out, if_pos HOK.out, if_pos h1]) h1 y3 HI3.out.2.2.2
            have HD := Lib.hid hd
            have h1b := h1
            clear hd h1
            go_wp2_with fail
            refine (demandOK_no h1b _).mono ?_
            rintro e w' ⟨rfl, rfl⟩
            (try rw [Exit.noGoto_panic])
            exact ⟨rfl, HD.out⟩
          case pos =>
          subst h1
          have w2 := (HN3.out.cell 2).trans rfl
          have hlo := longs_any (w := y3) (HARG.out.later HI3.out.2.2.2).el (by have := HXL.out.2.1; omega) HXL.out.2.2
          rw [HLY.out, HLG.out] at hlo
          have HLO := Lib.hid hlo
          clear hlo
          go_wp2_with fail
          refine (demandOK_yes _).mono ?_
          rintro e w' ⟨rfl, rfl⟩
          rename World => y3
          go_wp2_with fail
          refine HLO.out.mono ?_
          rintro e y4 ⟨rfl, hy4⟩
          have HI4 := Lib.hid (HI3.out.later hy4)
          clear hy4 w2
          cases lg with
          | true =>
            have hd := HDX.out 14 (by rw [HPC.out, if_pos HOK.out]; rfl) (by decide) y4 HI4.out.2.2.2
            have HD := Lib.hid hd
            clear hd
            go_wp2_with fail
            refine (demand_no _ _).mono ?_
            rintro e w' ⟨rfl, rfl⟩
            (try rw [Exit.noGoto_panic])
            exact ⟨rfl, HD.out⟩
          | false =>
            go_wp2_with fail
            refine (demand_yes _ _).mono ?_
            rintro e w' ⟨rfl, rfl⟩
            go_wp2_with fail
            go_roundw
            case rel =>
              refine ⟨k + 1, by go_num, by omega, ?_, Lib.hid (fun j hj => ?_)⟩
              · rw [take_nextN HXX.out, List.map_append, ← List.append_assoc, ← Nat.add_assoc]
                exact HI4.out
              · by_cases hjk : j < k
                · exact hzero.out j hjk
                · obtain rfl : j = k := by omega
                  rw [HPC.out, if_pos HOK.out]
                  rfl
            case measure => simp [intOf]; omega
        · obtain rfl : k = nw := by omega
          have hltI : ¬ (k : Int) < (k : Int) := by omega
          have HZ := Lib.hid (headC_ok (by rw [HLIM.out, HNP.out]; exact HL1.out) (by rw [HNW.out]; exact HL3.out) HPZ.out (fun j hj => hzero.out j (by rw [← HNW.out]; exact hj)))
          clear hcg
          go_wp2_with fail
          go_end0
          exact ⟨by rw [HZ.out]; exact EndG.mk, hbE⟩
end
end Go.Proofs.YtjgiacghlkkjfaaGreatDoor
