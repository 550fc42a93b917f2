/-
  Part 17 of 29: contracts and what they rest on (ICode4).
-/
import Derived.Test.YtjgiacghlkkjfaaGreatDoorF1
import Derived.Test.YtjgiacghlkkjfaaGreatDoorF2
import Derived.Test.YtjgiacghlkkjfaaGreatDoorF3
import Derived.Test.YtjgiacghlkkjfaaGreatDoorF4
import Derived.Test.YtjgiacghlkkjfaaGreatDoorF5
import Derived.Test.YtjgiacghlkkjfaaGreatDoorF6
import Derived.Test.YtjgiacghlkkjfaaGreatDoorF8
import Derived.Test.YtjgiacghlkkjfaaGreatDoorF9
import Derived.Test.YtjgiacghlkkjfaaGreatDoorF10
import Derived.Test.YtjgiacghlkkjfaaGreatDoorF11
import Derived.Test.YtjgiacghlkkjfaaGreatDoorF14
import Derived.WalkKit
import Derived.Test.YtjgiacghlkkjfaaGreatDoorRows
import Derived.OrdersHeld
import Derived.Deep.RegionHeld
import Derived.BigQuiet
import Derived.Deep.QuietTactic
import Derived.Lib.Hide
import Derived.Lib.Small
import Derived.Lib.Walk
import Derived.Lib.BitFns
import Derived.Maps.AppendAt
import Derived.RangeFuncNested
import Derived.RangeFuncBound
import Derived.RangeFuncCalls
import Derived.RangeFuncLeaves
import Derived.Shelf.Abstract
import Derived.OwnWalkIn
import Derived.TacticsInMore
import Derived.LoopNIn
import Derived.LoopIn
import Derived.RangeFuncBox
import Derived.Deep.RegionHeld3
import Derived.OrdersIn
import Derived.StillTailTactics
import Derived.RangeFuncFrom
import Derived.Laws.EntriesVeiled
import Derived.ProofKit
import Derived.OpenShut
import Derived.JoinedCond
import Derived.Carry
import Derived.Laws.AppendOwnNone
import Derived.Lib.ItoaNum
import Derived.Deep.RegionLaw
import Derived.WalkMore
import Derived.Lib.SmallJoins
import Derived.IntWalk
import Derived.Deep.DeepCutAuto
import Derived.Laws.OwnMore
import Derived.ArgAppend
import Derived.Deep.Slices
import Derived.Laws.CopyOwn
import Derived.Lib.SliceRun
import Derived.SizedLaws
import Derived.Great.BuildSlice
namespace Go.Proofs.YtjgiacghlkkjfaaGreatDoor
set_option maxRecDepth 100000
section
open Go.RowKit Go.Shelf
attribute [local go_sem] Oper.semAt_some
set_option linter.unusedVariables false
set_option linter.unusedSimpArgs false
theorem within_of {sx xs : List Int} {m : Nat} (h : ∀ i, i < sx.length → 2 * i + 1 < xs.length → i < m) (hall : ∀ i, i < m → ¬ sx.getD i 0 < sndP xs i) : withinB sx xs = true := decide_eq_true fun i hi h2 => by
  have := hall i (h i hi h2)
  omega
theorem within_not {sx xs : List Int} {i : Nat} (h1 : i < sx.length) (h2 : 2 * i + 1 < xs.length) (h : sx.getD i 0 < sndP xs i) : withinB sx xs = false := decide_eq_false fun hh => by
  have := hh i h1 h2
  omega
set_option maxRecDepth 100000 in
set_option maxHeartbeats 8000000 in
theorem endsWithin_any {o : Int} {xs : List Int} {ls : List (List Int)} {a2 al : Option Addr} {c2 cl : Nat} {w : World} (A : ArgS w (.slice a2 xs.length c2) xs a2 c2) (na : a2 = none → c2 = 0) (hx : xs.length ≤ 1000) (L : RowL w (.slice al ls.length cl) ls al cl) (ok : ∀ x ∈ ls, OkS x) (hl : ls.length ≤ 1000) (h0 : 0 < ls.length) : Calls Tryz.prog 186 #[.agg #[.int .i64 o, .slice a2 xs.length c2, .slice al ls.length cl]] w fun e w' => e = .returned (.bool (withinB (shpI ls 0) xs)) ∧ Below w.heap.size w w' := by
  have HA := Lib.hid A
  have HL := Lib.hid L
  have HOK := Lib.hid ok
  obtain ⟨M, hm⟩ : ∃ m, xs.length = m := ⟨_, rfl⟩
  obtain ⟨k, hk⟩ : ∃ k, ls.length = k := ⟨_, rfl⟩
  have HM := Lib.hid hm
  have HK := Lib.hid hk
  obtain ⟨sx, hsx⟩ : ∃ s, shpI ls 0 = s := ⟨_, rfl⟩
  have HSX := Lib.hid hsx
  have okx := ok _ (shp_in (i := 0) h0)
  obtain ⟨b, o0, ax, cx, rfl, hbl, hcx, hAx, hnx⟩ := L.at (i := 0) h0
  rw [hsx] at okx hcx hAx
  rw [Nat.add_zero] at hcx
  have hrk := okx.rank
  obtain ⟨S, hS⟩ : ∃ s, sx.length = s := ⟨_, rfl⟩
  have HS := Lib.hid hS
  rw [hS] at hrk
  obtain ⟨G, hG⟩ : ∃ G, w.heap.size = G := ⟨_, rfl⟩
  rw [hk] at h0 hl
  obtain ⟨c, hc⟩ : ∃ c, withinB sx xs = c := ⟨_, rfl⟩
  have HC := Lib.hid hc
  rw [hsx, hc, hm, hk]
  obtain ⟨m, hmm⟩ : ∃ m, min S (M / 2) = m := ⟨_, rfl⟩
  have hm1 : m ≤ S := by omega
  have hm2 : 2 * m ≤ M := by omega
  have hm3 : m < S → M ≤ 2 * m + 1 := by omega
  have hm4 : ∀ i, i < S → 2 * i + 1 < M → i < m := by omega
  obtain ⟨W, hW⟩ : ∃ W, (w.alloc (.cells #[.int .i64 o, .slice a2 M c2, .slice (some ⟨b, o0, none⟩) k cl] 189)).alloc (.cells #[.bool false] 4) = W := ⟨_, rfl⟩
  have RS : Row W G 189 #[.int .i64 o, .slice a2 M c2, .slice (some ⟨b, o0, none⟩) k cl] := by rw [← hW, ← hG]; exact (Row.new _ _ _).alloc _
  have R0 : Row W (G + 1) 4 #[.bool false] := by rw [← hW, ← hG]; have h := Row.new (w.alloc (.cells #[.int .i64 o, .slice a2 M c2, .slice (some ⟨b, o0, none⟩) k cl] 189)) 4 #[.bool false]; simp only [World.size_alloc] at h; exact h
  have hBW : Below w.heap.size w W := by rw [← hW]; exact ((Below.refl _ _).alloc (Nat.le_refl _) _).alloc (by simp) _
  have hsW : W.heap.size = G + 1 + 1 := by rw [← hW, ← hG]; simp
  have HBA : Hid (xs ≠ [] → ∀ x, a2 = some x → x.block < G) := Lib.hid (fun h1 x h2 => hG ▸ A.lim.lt h1 x h2)
  have HBX : Hid (sx ≠ [] → ∀ x, ax = some x → x.block < G) := Lib.hid (fun h1 x h2 => hG ▸ hAx.lim.lt h1 x h2)
  obtain ⟨k0, k1, k2, _, _, _⟩ := RS.three
  have f0 := R0.free 0
  have d0 := R0.cell 0
  rw [hG]
  have HX := Lib.hid hx
  have HCX := Lib.hid hcx
  have HAX := Lib.hid hAx
  clear A L ok hm hk hsx hS hc hmm hcx hAx hx
  obtain ⟨n', hn'⟩ : ∃ n' : Nat, Hid (3 ≤ n') := ⟨3, Nat.le_refl 3⟩
  refine (callsIn_wide (n := n')).1 ?_
  refine callsIn_of_wp_marks Tryz.func186 rfl trivial ?_ rfl
  simp only [Tryz.ntmps186, List.size_toArray, List.length_cons, List.length_nil, Nat.reduceAdd, Nat.reduceSub, Array.replicate_succ, Array.replicate_zero, List.push_toArray, List.append_toArray, List.nil_append, List.cons_append]
  gi_wp2_with fail
  (try rw [hW])
  refine wideCallS ((pairsI_any _ _ _ _ _ _ _ _).mono ?_)
  rintro e w' ⟨rfl, rfl⟩
  gi_wp2_with fail
  obtain ⟨V, hV⟩ : ∃ V, W.alloc (.cells #[.int .i64 o, .slice a2 M c2, .slice (some ⟨b, o0, none⟩) k cl] 189) = V := ⟨_, rfl⟩
  have sV : V.heap.size = G + 1 + 1 + 1 := by rw [← hV, World.size_alloc, hsW]
  have b4 : Below W.heap.size W V := by rw [← hV]; exact (Below.refl _ _).alloc (Nat.le_refl _) _
  have d4 : Row V (G + 1 + 1) 189 #[.int .i64 o, .slice a2 M c2, .slice (some ⟨b, o0, none⟩) k cl] := by rw [← hV, ← hsW]; exact Row.new _ _ _
  obtain ⟨j0, j1, j2, _, _, _⟩ := d4.three
  have qs0 := RS.later b4
  have q0 := R0.later b4
  have hbV : Below G w V := by rw [← hG]; exact hBW.trans (b4.mono hBW.size)
  have hlA : LimS V a2 xs := HA.out.lim.later (hG.symm ▸ hbV)
  have hlX : LimS V ax sx := HAX.out.lim.later (hG.symm ▸ hbV)
  have hcV : V.cell? ⟨b, o0, none⟩ = some (.slice ax sx.length cx) := ((hG.symm ▸ hbV : Below w.heap.size w V).cell (p := ⟨b, o0, none⟩) hbl).trans HCX.out
  (try rw [hsW])
  (try rw [hV])
  have h3 : 3 ≤ n' := hn'
  clear hV hW R0 RS f0 d0 k0 k1 k2
  refine wpIn_rangeFunc_ownH (F := Fence.wide) (n := n') rfl (by omega) (gf := 258) (lb := #[.pointer (some ⟨G + 1 + 1, 0, none⟩)]) rfl trivial (enters_of Tryz.func258 (by kernel_rfl) rfl)
    (pairsI_stops (n' - 1) (G + 1 + 1) G m k (xs := xs) (sx := sx) (a2 := a2) (ax := ax) (c2 := c2) (cl := cl) (cx := cx) (b := b) (o0 := o0) HX.out (by rw [HS.out]; omega) (by omega) (by rw [HS.out]; exact hm1) (by rw [HM.out]; exact hm2) (by rw [HM.out, HS.out]; exact hm3) HBA.out HBX.out V (by omega) (by rw [HM.out]; exact j1) j2 hcV hlA hlX) KpS.trans (KpS.b (by omega) (by omega)) (Below.refl _ _) (fun _ => rfl)
    (fun (pre : List (Fin m)) X => Row X (G + 1) 4 #[.bool false] ∧ (∀ x ∈ pre, ¬ sx.getD x.val 0 < sndP xs x.val) ∧ Below G w X ∧ G + 1 + 1 + 1 ≤ X.heap.size)
    (fun c pre X => c = .ret ∧ Row X (G + 1) 4 #[.bool false] ∧ (∃ x ∈ pre, sx.getD x.val 0 < sndP xs x.val) ∧ Below G w X)
    (fun pre X Y row ⟨e1, e3, e4, e5⟩ hg hr => have kk := KeepC.grown hg (fun r e => (hr r e).2); ⟨e1.keepC kk, e3, e4.grown hg (by have := e4.size; omega) (fun k e => by have := (hr k e).1; omega), Nat.le_trans e5 hg.size⟩)
    (fun c pre X Y row ⟨e0, e1, e2, e4⟩ hg hr => have kk := KeepC.grown hg (fun r e => (hr r e).2); ⟨e0, e1.keepC kk, e2, e4.grown hg (by have := e4.size; omega) (fun k e => by have := (hr k e).1; omega)⟩)
    ⟨q0, (fun x h => absurd h List.not_mem_nil), hbV, by omega⟩
    (fun (x : Fin m) a' X => ∃ p, G + 1 + 1 + 1 ≤ p ∧ Row X p 224 #[.int .i64 (fstP xs x.val), .int .i64 (sndP xs x.val)] ∧
      a' = { tmps := #[.agg #[.int .i64 o, .slice a2 M c2, .slice (some ⟨b, o0, none⟩) k cl], .pointer (some ⟨G, 0, none⟩), .pointer (some ⟨G + 1, 0, none⟩), .int .i64 (sx.getD x.val 0), .pointer (some ⟨p, 0, none⟩), .agg #[.int .i64 o, .slice a2 M c2, .slice (some ⟨b, o0, none⟩) k cl], .func (.func 258) #[] #[.pointer (some ⟨G + 1 + 1, 0, none⟩)], .int .i64 (sx.getD x.val 0), .agg #[.int .i64 (fstP xs x.val), .int .i64 (sndP xs x.val)], undef, undef, undef, undef], defers := [] })
    (fun x a' _ X Y row ⟨p, h1, h2, h3⟩ hg hr => ⟨p, h1, h2.keepC (KeepC.grown hg (fun r e => (hr r e).2)), h3⟩)
    ?assign ?body ?done ?stop
  case assign =>
    rintro l pre ⟨j, hj⟩ X K ⟨e1, e3, e4, hsI⟩ hK
    obtain ⟨d, hd⟩ : ∃ d, sx.getD j 0 = d := ⟨_, rfl⟩
    obtain ⟨z0, hz0⟩ : ∃ z0, fstP xs j = z0 := ⟨_, rfl⟩
    obtain ⟨z1, hz1⟩ : ∃ z1, sndP xs j = z1 := ⟨_, rfl⟩
    have hbX : Below X.heap.size X (X.alloc (.cells #[.int .i64 z0, .int .i64 z1] 224)) := (Below.refl _ _).alloc (Nat.le_refl _) _
    have kk := KeepC.below hbX
    have HK2 := Lib.hid hK
    have HD := Lib.hid hd
    have HZ0 := Lib.hid hz0
    have HZ1 := Lib.hid hz1
    simp only [pairI]
    rw [hd, hz0, hz1]
    clear hK hd hz0 hz1
    gi_wp2
    refine HK2.out _ _ ⟨by simp, fun q o _ ho _ => (Below.heap_alloc _ _ _ (lt_of_block ho)).trans ho⟩ ⟨hbX.mono (by omega), Below.heap_alloc _ _ _ (by omega)⟩ ⟨e1.keepC kk, e3, e4.trans (hbX.mono (by have := e4.size; omega)), by simp; omega⟩ ⟨X.heap.size, hsI, ?_, ?_⟩
    · simp only [HZ0.out, HZ1.out]; exact Row.new _ _ _
    · simp only [HD.out, HZ0.out, HZ1.out]
  case body =>
    rintro l pre ⟨j, hj⟩ a' X hl' hrec ⟨e1, e3, e4, hsI⟩ ⟨p, hp, hR, rfl⟩ hlt
    simp only at hR ⊢
    obtain ⟨d, hd⟩ : ∃ d, sx.getD j 0 = d := ⟨_, rfl⟩
    obtain ⟨z0, hz0⟩ : ∃ z0, fstP xs j = z0 := ⟨_, rfl⟩
    obtain ⟨z1, hz1⟩ : ∃ z1, sndP xs j = z1 := ⟨_, rfl⟩
    rw [hz0, hz1] at hR
    rw [hd, hz0, hz1]
    have cp0 := hR.cell 0
    have cp1 := hR.cell 1
    have fe := e1.free 0
    have ce := e1.cell 0
    have E1 := Lib.hid e1
    have E3 := Lib.hid e3
    have HD := Lib.hid hd
    have HZ1 := Lib.hid hz1
    clear hd hz0 hz1 e1 e3 hR
    by_cases hgt : d < z1
    · have R9 : Row (X.setCell ⟨G + 1, 0, none⟩ (.bool false)) (G + 1) 4 #[.bool false] := E1.out.set 0 _
      have fin : KeepsFrom (G + 1 + 1 + 1) X (X.setCell ⟨G + 1, 0, none⟩ (.bool false)) ∧ Code.ret = Code.ret ∧ Row (X.setCell ⟨G + 1, 0, none⟩ (.bool false)) (G + 1) 4 #[.bool false] ∧ (∃ x ∈ pre ++ [(⟨j, hj⟩ : Fin m)], sx.getD x.val 0 < sndP xs x.val) ∧ Below G w (X.setCell ⟨G + 1, 0, none⟩ (.bool false)) :=
        ⟨keepsFrom_set (keepsFrom_below (Below.refl _ _)) _ _, rfl, R9, ⟨_, List.mem_append_right _ (List.mem_singleton.2 rfl), by rw [HD.out, HZ1.out]; exact hgt⟩, setBelow e4 (by omega) _ _⟩
      have FIN := Lib.hid fin
      clear R9 fin
      gi_wp2
      exact ⟨FIN.out.1, rfl, FIN.out.2.2⟩
    · have hnot : ∀ x ∈ pre ++ [(⟨j, hj⟩ : Fin m)], ¬ sx.getD x.val 0 < sndP xs x.val := fun x hx => by
        rcases List.mem_append.1 hx with hx | hx
        · exact E3.out x hx
        · rw [List.mem_singleton.1 hx, HD.out, HZ1.out]
          exact hgt
      have HNOT := Lib.hid hnot
      clear hnot
      gi_wp2
      exact ⟨keepsFrom_below (Below.refl _ _), KpS.refl _ _ _, E1.out, HNOT.out, e4, hsI⟩
  case done =>
    rintro D ks X hD hup ⟨e1, e3, e4, hsI⟩ hK
    have hgood : ∀ i, i < m → ¬ sx.getD i 0 < sndP xs i := fun i hi => by
      have h5 : i ∈ ks.map Fin.val := by rw [show ks.map Fin.val = List.range m from hup]; exact List.mem_range.2 hi
      obtain ⟨z, hz, hv⟩ := List.mem_map.1 h5
      rw [← hv]
      exact e3 z hz
    obtain rfl : c = true := by rw [← HC.out]; exact within_of (by rw [HS.out, HM.out]; exact hm4) hgood
    have E1 := Lib.hid e1
    have f1 := e1.free 0
    have c1 := e1.cell 0
    clear e1 e3 hgood
    gi_wp2
    have hK' := (KeepsOthers.setCell X ⟨G + 1, 0, none⟩ (.bool true)).same D _ hK rfl
    refine ⟨by simp, .inl ⟨_, _, rfl, run_takeDeferred hK', ?_⟩⟩
    have hc5 := cell_kept ((E1.out.set 0 (.bool true)).cell 0) (grownBy_putObj' _ D (.deferred none)) (fun r e => by cases e; exact ⟨_, hK', rfl⟩)
    simp at hc5
    refine ⟨.bool true, by simp [results, Tryz.f186, go_sem, hc5], rfl, ?_⟩
    exact (setBelow e4 (by omega) _ _).trans (belowK_b (n₀ := G) (w := w) (by omega) _ D _ _ (by omega) hK' rfl rfl)
  case stop =>
    rintro D c2' pre X hD ⟨j, hj, hup⟩ ⟨rfl, h1, ⟨x, hx', hbad⟩, h3'⟩ hK
    obtain rfl : c = false := by rw [← HC.out]; exact within_not (i := x.val) (by rw [HS.out]; have := x.isLt; omega) (by rw [HM.out]; have := x.isLt; omega) hbad
    gi_wp2
    refine ⟨by simp, .inl ⟨_, _, rfl, run_takeDeferred hK, ?_⟩⟩
    have hc5 := cell_kept (h1.cell 0) (grownBy_putObj' _ D (.deferred none)) (fun r e => by cases e; exact ⟨_, hK, rfl⟩)
    simp at hc5
    refine ⟨.bool false, by simp [results, Tryz.f186, go_sem, hc5], rfl, ?_⟩
    exact h3'.trans (belowK_b (n₀ := G) (w := w) (by omega) _ D _ _ (by omega) hK rfl rfl)
set_option maxRecDepth 100000 in
set_option maxHeartbeats 4000000 in
theorem resS_any (d p q : Int) (w : World) : Calls Tryz.prog 190 #[.int .i64 d, .agg #[.int .i64 p, .int .i64 q]] w fun e w' => e = .returned (.int .i64 (IntKind.i64.wrap (q - p))) ∧ Below w.heap.size w w' := by
  obtain ⟨W, hW⟩ : ∃ W, w.alloc (.cells #[.int .i64 p, .int .i64 q] 224) = W := ⟨_, rfl⟩
  have R0 : Row W w.heap.size 224 #[.int .i64 p, .int .i64 q] := by rw [← hW]; exact Row.new _ _ _
  have hbW : Below w.heap.size w W := by rw [← hW]; exact (Below.refl _ _).alloc (Nat.le_refl _) _
  obtain ⟨k0, k1, _, _⟩ := R0.two
  obtain ⟨v, hv⟩ : ∃ v, IntKind.i64.wrap (q - p) = v := ⟨_, rfl⟩
  rw [hv]
  go_enter Tryz.func190, Tryz.ntmps190
  (try rw [hW])
  go_wp2_with fail
  go_ret
  exact ⟨rfl, hbW⟩
set_option maxRecDepth 100000 in
set_option maxHeartbeats 4000000 in
theorem resP_any (d p q : Int) (w : World) : Calls Tryz.prog 191 #[.int .i64 d, .agg #[.int .i64 p, .int .i64 q]] w fun e w' => e = .returned (.int .i64 (IntKind.i64.wrap (IntKind.i64.wrap (d + p) + q))) ∧ Below w.heap.size w w' := by
  obtain ⟨W, hW⟩ : ∃ W, w.alloc (.cells #[.int .i64 p, .int .i64 q] 224) = W := ⟨_, rfl⟩
  have R0 : Row W w.heap.size 224 #[.int .i64 p, .int .i64 q] := by rw [← hW]; exact Row.new _ _ _
  have hbW : Below w.heap.size w W := by rw [← hW]; exact (Below.refl _ _).alloc (Nat.le_refl _) _
  obtain ⟨k0, k1, _, _⟩ := R0.two
  obtain ⟨u, hu⟩ : ∃ u, IntKind.i64.wrap (d + p) = u := ⟨_, rfl⟩
  rw [hu]
  obtain ⟨v, hv⟩ : ∃ v, IntKind.i64.wrap (u + q) = v := ⟨_, rfl⟩
  rw [hv]
  go_enter Tryz.func191, Tryz.ntmps191
  (try rw [hW])
  go_wp2_with fail
  go_ret
  exact ⟨rfl, hbW⟩
theorem sizedFar {B g : Nat} {w : World} {v u : Value} {T : TypeId} {zs : List Int} {cs : Array Value} (h : NumS B w v zs) (R : Row w g T cs) (hT : T ≠ 3) : NumS B (w.setCell ⟨g, 0, none⟩ u) v zs := by
  obtain ⟨h1, h2⟩ := h
  refine ⟨h1, ?_⟩
  rcases h2 with h2 | ⟨g', cap, cur, rfl, hb, hh, hrest⟩
  · exact .inl h2
  · refine .inr ⟨g', cap, cur, rfl, hb, ?_, hrest⟩
    refine (Below.heap_setCell _ _ _ _ (by
      show g' ≠ g
      rintro rfl
      have := (R : w.heap[g']? = _).symm.trans hh
      simp at this
      exact hT this.2)).trans hh
set_option maxRecDepth 100000 in
set_option maxHeartbeats 8000000 in
theorem sizedS_any {o : Int} {xs : List Int} {ls : List (List Int)} {a2 al : Option Addr} {c2 cl : Nat} {w : World} (A : ArgS w (.slice a2 xs.length c2) xs a2 c2) (na : a2 = none → c2 = 0) (hx : xs.length ≤ 1000) (L : RowL w (.slice al ls.length cl) ls al cl) (ok : ∀ x ∈ ls, OkS x) (hl : ls.length ≤ 1000) (h0 : 0 < ls.length) (hlen : xs.length = 2 * (shpI ls 0).length) (hraw : ∀ i, i < (shpI ls 0).length → IntKind.i64.wrap (sndP xs i - fstP xs i) = sndP xs i - fstP xs i) :
    Calls Tryz.prog 189 #[.agg #[.int .i64 o, .slice a2 xs.length c2, .slice al ls.length cl], .func (.func 190) #[] #[]] w fun e w' => ∃ r, e = .returned r ∧ ResS w.heap.size w' r ((List.range (shpI ls 0).length).map fun i : Nat => sndP xs i - fstP xs i) ∧ Below w.heap.size w w' := by
  have HA := Lib.hid A
  have HL := Lib.hid L
  have HOK := Lib.hid ok
  obtain ⟨M, hm⟩ : ∃ m, xs.length = m := ⟨_, rfl⟩
  obtain ⟨k, hk⟩ : ∃ k, ls.length = k := ⟨_, rfl⟩
  have HM := Lib.hid hm
  have HK := Lib.hid hk
  obtain ⟨sx, hsx⟩ : ∃ s, shpI ls 0 = s := ⟨_, rfl⟩
  have HSX := Lib.hid hsx
  have okx := ok _ (shp_in (i := 0) h0)
  obtain ⟨b, o0, ax, cx, rfl, hbl, hcx, hAx, hnx⟩ := L.at (i := 0) h0
  rw [hsx] at okx hcx hAx
  rw [Nat.add_zero] at hcx
  have hrk := okx.rank
  obtain ⟨S, hS⟩ : ∃ s, sx.length = s := ⟨_, rfl⟩
  have HS := Lib.hid hS
  rw [hS] at hrk
  obtain ⟨G, hG⟩ : ∃ G, w.heap.size = G := ⟨_, rfl⟩
  rw [hk] at h0 hl
  obtain ⟨iS, hiS, hzA, hzB, hzC⟩ := info_parts infoS
  rw [hsx, hS] at hlen hraw
  rw [hsx, hS, hm, hk]
  rw [hm] at hlen
  have HRAW := Lib.hid hraw
  obtain ⟨W, hW⟩ : ∃ W, ((w.alloc (.cells #[.int .i64 o, .slice a2 M c2, .slice (some ⟨b, o0, none⟩) k cl] 189)).alloc (.cells #[.func (.func 190) #[] #[]] 225)).alloc (.cells #[.slice none 0 0] 43) = W := ⟨_, rfl⟩
  have RS : Row W G 189 #[.int .i64 o, .slice a2 M c2, .slice (some ⟨b, o0, none⟩) k cl] := by rw [← hW, ← hG]; exact ((Row.new _ _ _).alloc _).alloc _
  have R0 : Row W (G + 1) 225 #[.func (.func 190) #[] #[]] := by rw [← hW, ← hG]; have h := Row.new (w.alloc (.cells #[.int .i64 o, .slice a2 M c2, .slice (some ⟨b, o0, none⟩) k cl] 189)) 225 #[.func (.func 190) #[] #[]]; simp only [World.size_alloc] at h; exact h.alloc _
  have R1 : Row W (G + 1 + 1) 43 #[.slice none 0 0] := by rw [← hW, ← hG]; have h := Row.new ((w.alloc (.cells #[.int .i64 o, .slice a2 M c2, .slice (some ⟨b, o0, none⟩) k cl] 189)).alloc (.cells #[.func (.func 190) #[] #[]] 225)) 43 #[.slice none 0 0]; simp only [World.size_alloc] at h; exact h
  have hBW : Below w.heap.size w W := by rw [← hW]; exact (((Below.refl _ _).alloc (Nat.le_refl _) _).alloc (by simp) _).alloc (by simp; omega) _
  have hsW : W.heap.size = G + 1 + 1 + 1 := by rw [← hW, ← hG]; simp
  have HBA : Hid (xs ≠ [] → ∀ x, a2 = some x → x.block < G) := Lib.hid (fun h1 x h2 => hG ▸ A.lim.lt h1 x h2)
  have HBX : Hid (sx ≠ [] → ∀ x, ax = some x → x.block < G) := Lib.hid (fun h1 x h2 => hG ▸ hAx.lim.lt h1 x h2)
  obtain ⟨k0, k1, k2, _, _, _⟩ := RS.three
  rw [hG]
  have HX := Lib.hid hx
  have HCX := Lib.hid hcx
  have HAX := Lib.hid hAx
  have HLEN := Lib.hid hlen
  have hM1 : M ≤ 1000 := by rw [← hm]; exact hx
  clear A L ok hm hk hsx hS hcx hAx hx hlen hraw
  obtain ⟨n', hn'⟩ : ∃ n' : Nat, Hid (3 ≤ n') := ⟨3, Nat.le_refl 3⟩
  refine (callsIn_wide (n := n')).1 ?_
  refine callsIn_of_wp_marks Tryz.func189 rfl trivial ?_ rfl
  simp only [Tryz.ntmps189, List.size_toArray, List.length_cons, List.length_nil, Nat.reduceAdd, Nat.reduceSub, Array.replicate_succ, Array.replicate_zero, List.push_toArray, List.append_toArray, List.nil_append, List.cons_append]
  gi_wp2_with fail
  (try rw [hW])
  refine wideCallS ((pairsI_any _ _ _ _ _ _ _ _).mono ?_)
  rintro e w' ⟨rfl, rfl⟩
  gi_wp2_with fail
  obtain ⟨V, hV⟩ : ∃ V, W.alloc (.cells #[.int .i64 o, .slice a2 M c2, .slice (some ⟨b, o0, none⟩) k cl] 189) = V := ⟨_, rfl⟩
  have sV : V.heap.size = G + 1 + 1 + 1 + 1 := by rw [← hV, World.size_alloc, hsW]
  have b4 : Below W.heap.size W V := by rw [← hV]; exact (Below.refl _ _).alloc (Nat.le_refl _) _
  have d4 : Row V (G + 1 + 1 + 1) 189 #[.int .i64 o, .slice a2 M c2, .slice (some ⟨b, o0, none⟩) k cl] := by rw [← hV, ← hsW]; exact Row.new _ _ _
  obtain ⟨j0, j1, j2, _, _, _⟩ := d4.three
  have q0 := R0.later b4
  have q1 := R1.later b4
  have hbV : Below G w V := by rw [← hG]; exact hBW.trans (b4.mono hBW.size)
  have hlA : LimS V a2 xs := HA.out.lim.later (hG.symm ▸ hbV)
  have hlX : LimS V ax sx := HAX.out.lim.later (hG.symm ▸ hbV)
  have hcV : V.cell? ⟨b, o0, none⟩ = some (.slice ax sx.length cx) := ((hG.symm ▸ hbV : Below w.heap.size w V).cell (p := ⟨b, o0, none⟩) hbl).trans HCX.out
  (try rw [hsW])
  (try rw [hV])
  have h3 : 3 ≤ n' := hn'
  clear hV hW R0 RS R1 k0 k1 k2
  refine wpIn_rangeFunc_ownH (F := Fence.wide) (n := n') rfl (by omega) (gf := 258) (lb := #[.pointer (some ⟨G + 1 + 1 + 1, 0, none⟩)]) rfl trivial (enters_of Tryz.func258 (by kernel_rfl) rfl)
    (pairsI_stops (n' - 1) (G + 1 + 1 + 1) G S k (xs := xs) (sx := sx) (a2 := a2) (ax := ax) (c2 := c2) (cl := cl) (cx := cx) (b := b) (o0 := o0) HX.out (by rw [HS.out]; omega) (by omega) (by rw [HS.out]; omega) (by rw [HM.out]; have := HLEN.out; omega) (by rw [HM.out, HS.out]; omega) HBA.out HBX.out V (by omega) (by rw [HM.out]; exact j1) j2 hcV hlA hlX) KpS.trans (KpS.b (by omega) (by omega)) (Below.refl _ _) (fun _ => rfl)
    (fun (pre : List (Fin S)) X => (∃ sv, Row X (G + 1 + 1) 43 #[sv] ∧ NumS (G + 1 + 1 + 1 + 1) X sv (pre.map fun x : Fin S => IntKind.i64.wrap (sndP xs x.val - fstP xs x.val))) ∧ Row X (G + 1) 225 #[.func (.func 190) #[] #[]] ∧ Hid (pre.length ≤ S) ∧ Below G w X ∧ G + 1 + 1 + 1 + 1 ≤ X.heap.size)
    (fun c pre X => False)
    (fun pre X Y row ⟨⟨sv, e1, e2⟩, e3, e6, e4, e5⟩ hg hr => have kk := KeepC.grown hg (fun r e => (hr r e).2); ⟨⟨sv, e1.keepC kk, keepC_row kk e2⟩, e3.keepC kk, e6, e4.grown hg (by have := e4.size; omega) (fun k e => by have := (hr k e).1; omega), Nat.le_trans e5 hg.size⟩)
    (fun _ _ _ _ _ hs _ _ => hs)
    ⟨⟨_, q1, World.ownsRow_nil _ _ _ _⟩, q0, Lib.hid (Nat.zero_le _), hbV, by omega⟩
    (fun (x : Fin S) a' X => ∃ p, G + 1 + 1 + 1 + 1 ≤ p ∧ Row X p 224 #[.int .i64 (fstP xs x.val), .int .i64 (sndP xs x.val)] ∧
      a' = { tmps := #[.agg #[.int .i64 o, .slice a2 M c2, .slice (some ⟨b, o0, none⟩) k cl], .func (.func 190) #[] #[], .pointer (some ⟨G, 0, none⟩), .pointer (some ⟨G + 1, 0, none⟩), .slice none 0 0, .pointer (some ⟨G + 1 + 1, 0, none⟩), .int .i64 (sx.getD x.val 0), .pointer (some ⟨p, 0, none⟩), .agg #[.int .i64 o, .slice a2 M c2, .slice (some ⟨b, o0, none⟩) k cl], .func (.func 258) #[] #[.pointer (some ⟨G + 1 + 1 + 1, 0, none⟩)], .int .i64 (sx.getD x.val 0), .agg #[.int .i64 (fstP xs x.val), .int .i64 (sndP xs x.val)], undef, undef, undef, undef, undef, undef, undef, undef], defers := [] })
    (fun x a' _ X Y row ⟨p, h1, h2, h3⟩ hg hr => ⟨p, h1, h2.keepC (KeepC.grown hg (fun r e => (hr r e).2)), h3⟩)
    ?assign ?body ?done ?stop
  case assign =>
    rintro l pre ⟨j, hj⟩ X K ⟨⟨sv, e1, e2⟩, e3, e6, e4, hsI⟩ hK
    obtain ⟨d, hd⟩ : ∃ d, sx.getD j 0 = d := ⟨_, rfl⟩
    obtain ⟨z0, hz0⟩ : ∃ z0, fstP xs j = z0 := ⟨_, rfl⟩
    obtain ⟨z1, hz1⟩ : ∃ z1, sndP xs j = z1 := ⟨_, rfl⟩
    have hbX : Below X.heap.size X (X.alloc (.cells #[.int .i64 z0, .int .i64 z1] 224)) := (Below.refl _ _).alloc (Nat.le_refl _) _
    have kk := KeepC.below hbX
    have HK2 := Lib.hid hK
    have HD := Lib.hid hd
    have HZ0 := Lib.hid hz0
    have HZ1 := Lib.hid hz1
    simp only [pairI]
    rw [hd, hz0, hz1]
    clear hK hd hz0 hz1
    gi_wp2
    refine HK2.out _ _ ⟨by simp, fun q o _ ho _ => (Below.heap_alloc _ _ _ (lt_of_block ho)).trans ho⟩ ⟨hbX.mono (by omega), Below.heap_alloc _ _ _ (by omega)⟩ ⟨⟨sv, e1.keepC kk, keepC_row kk e2⟩, e3.keepC kk, e6, e4.trans (hbX.mono (by have := e4.size; omega)), by simp; omega⟩ ⟨X.heap.size, hsI, ?_, ?_⟩
    · simp only [HZ0.out, HZ1.out]; exact Row.new _ _ _
    · simp only [HD.out, HZ0.out, HZ1.out]
  case body =>
    rintro l pre ⟨j, hj⟩ a' X hl' hrec ⟨⟨sv, e1, e2⟩, e3, e6, e4, hsI⟩ ⟨p, hp, hR, rfl⟩ hlt
    simp only at hR ⊢
    obtain ⟨zs, hzs⟩ : ∃ zs, (pre.map fun x : Fin S => IntKind.i64.wrap (sndP xs x.val - fstP xs x.val)) = zs := ⟨_, rfl⟩
    have hzl : zs.length ≤ 4 := by rw [← hzs, List.length_map]; have := e6.out; omega
    rw [hzs] at e2
    have hzn : ((pre ++ [(⟨j, hj⟩ : Fin S)]).map fun x : Fin S => IntKind.i64.wrap (sndP xs x.val - fstP xs x.val)) = zs ++ [IntKind.i64.wrap (sndP xs j - fstP xs j)] := by rw [List.map_append, hzs]; rfl
    obtain ⟨d, hd⟩ : ∃ d, sx.getD j 0 = d := ⟨_, rfl⟩
    obtain ⟨z0, hz0⟩ : ∃ z0, fstP xs j = z0 := ⟨_, rfl⟩
    obtain ⟨z1, hz1⟩ : ∃ z1, sndP xs j = z1 := ⟨_, rfl⟩
    rw [hz0, hz1] at hR
    (try rw [hd] at hzn)
    (try rw [hz0] at hzn)
    (try rw [hz1] at hzn)
    rw [hd, hz0, hz1]
    obtain ⟨v, hv⟩ : ∃ v, IntKind.i64.wrap (z1 - z0) = v := ⟨_, rfl⟩
    rw [hv] at hzn
    have hcn := fun Y => resS_any d z0 z1 Y
    rw [hv] at hcn
    have HCN := Lib.hid hcn
    have HZN := Lib.hid hzn
    obtain ⟨r, hrv, hbr, hap, hrc, _⟩ := ownV_hits e2 hsI
    have ng1 := hap _ _ _ e1 (by decide)
    have ng2 := hap _ _ _ e3 (by decide)
    have ng3 := hap _ _ _ hR (by decide)
    have mkS : ∀ Y, Kept r X Y → (fun Y => Y.cell? ⟨G + 1 + 1, 0, none⟩ = some sv ∧ Y.cell? ⟨G + 1, 0, none⟩ = some (.func (.func 190) #[] #[]) ∧ Y.cell? ⟨p, 0, none⟩ = some (.int .i64 z0) ∧ Y.cell? ⟨p, 1, none⟩ = some (.int .i64 z1)) Y := fun Y hY => by
      obtain ⟨y0, y1, _, _⟩ := (hR.kept hY ng3).two
      exact ⟨(e1.kept hY ng1).cell 0, (e3.kept hY ng2).cell 0, y0, y1⟩
    have hk0 : Kept r X X.drew := (Kept.refl r X).drew
    have b0 : Below X.heap.size X X.drew := (Below.refl _ X).drew
    have HE1 := Lib.hid e1
    have HE2 := Lib.hid e2
    have HE3 := Lib.hid e3
    have HE6 := Lib.hid e6
    have hsX := e4.size
    clear hd hz0 hz1 hzs hzn hv hcn e1 e3 hR e6 e2 ng2 ng3
    refine wpIn_block ?_
    refine region_roundL (fun Y => Y.cell? ⟨G + 1 + 1, 0, none⟩ = some sv ∧ Y.cell? ⟨G + 1, 0, none⟩ = some (.func (.func 190) #[] #[]) ∧ Y.cell? ⟨p, 0, none⟩ = some (.int .i64 z0) ∧ Y.cell? ⟨p, 1, none⟩ = some (.int .i64 z1)) 7 (by kernel_rfl) (by kernel_rfl) (by rintro ⟨a', w', h⟩; exact h) (mkS _ hk0) (fun hHeld => ?_)
    refine todo [0, 1, 2, 3] ?_
    iterate 4
     refine todoL (v := ?_) rfl (by kernel_rfl) (fun _ _ _ h => h) (by assumption) (Or.inl ⟨by rfl, ?_⟩) ?_
     rotate_left
     · intro w hSw; (try dsimp only at hSw); go_simp; (try with_reducible rfl)
     try simp only [Act.put, List.getElem_toArray, List.getElem_cons_succ, List.getElem_cons_zero, List.setIfInBounds_toArray, List.set_cons_zero, List.set_cons_succ]
    refine todone ?_
    refine wpAnyL_one (i := 4) (by kernel_rfl) rfl (fun K hK => ?sbs_4)
    go_simp
    refine (HCN.out _).mono ?_
    rintro e w5 ⟨rfl, hy⟩
    have b5 : Below X.heap.size X w5 := b0.trans (hy.mono b0.size)
    have hk5 : Kept r X w5 := (Kept.refl r X).below b5
    clear hy
    go_simp
    refine hK.out _ _ (fun _ => mkS _ hk5) (fun hHeld2 => ?mbs_4)
    clear hK K hHeld
    have hHeld := hHeld2 (by decide)
    clear hHeld2
    try simp only [Act.put, List.getElem_toArray, List.getElem_cons_succ, List.getElem_cons_zero, List.setIfInBounds_toArray, List.set_cons_zero, List.set_cons_succ]
    refine wpAnyL_one (i := 5) (by kernel_rfl) rfl (fun K hK => ?sbs_5)
    go_simp
    refine hK.out _ _ (fun _ => mkS _ (hk5.alloc _)) (fun hHeld2 => ?mbs_5)
    clear hK K hHeld
    have hHeld := hHeld2 (by decide)
    clear hHeld2
    try simp only [Act.put, List.getElem_toArray, List.getElem_cons_succ, List.getElem_cons_zero, List.setIfInBounds_toArray, List.set_cons_zero, List.set_cons_succ]
    refine wpAnyL_one (i := 6) (by kernel_rfl) rfl (fun K hK => ?sbs_6)
    have hn5 : NumS (G + 1 + 1 + 1 + 1) w5 sv zs := NumS.later HE2.out b5
    have hsz5 := b5.size
    refine step_append_ownT rfl _ _ 43 rfl (G + 1 + 1 + 1 + 1) 3 iS (.int .i64 0) 1 8 Tryz.underlying43 hiS hzA hzB hzC rfl (by decide) _ zs.length (zs.map (Value.int .i64)) rfl (hn5.later ((Below.refl _ _).alloc (Nat.le_refl _) _)) ⟨w5.heap.size, 0, none⟩ 1 1 [.int .i64 v] rfl rfl (fun j u hj => ?celsz) (by simp [Value.oneCell']) (by unfold maxLen; omega) (by omega) (by simp; omega) ?_
    case celsz =>
      have R := Row.new w5 3 #[.int .i64 v]
      match j, hj with
      | 0, hj => simp at hj; subst hj; exact R.cell 0
      | j + 1, hj => simp at hj
    intro v' w6 hown' hgrow _
    obtain ⟨av, cv, rfl⟩ := ownT_slice hown'
    have hk6 : Kept r X w6 := (hk5.alloc _).grown hgrow hrv
    refine hK.out _ _ (fun _ => mkS _ hk6) (fun hHeld2 => ?mbs_6)
    clear hK K hHeld
    have hHeld := hHeld2 (by decide)
    clear hHeld2
    try simp only [Act.put, List.getElem_toArray, List.getElem_cons_succ, List.getElem_cons_zero, List.setIfInBounds_toArray, List.set_cons_zero, List.set_cons_succ]
    have RG6 := HE1.out.kept hk6 ng1
    have f21 := RG6.free 0
    have d21 := RG6.cell 0
    refine wpAnyL_one (i := 7) (by kernel_rfl) rfl (fun K hK => ?sbs_7)
    go_simp
    refine hK.out _ _ (fun h => absurd rfl h) (fun _ => ?mbs_7)
    clear hK K
    try simp only [Act.put, List.getElem_toArray, List.getElem_cons_succ, List.getElem_cons_zero, List.setIfInBounds_toArray, List.set_cons_zero, List.set_cons_succ]
    refine wpAnyL_done (by kernel_rfl) ?_ _
    have hN6 : NumS (G + 1 + 1 + 1 + 1) w6 (.slice av (zs.length + 1) cv) (zs ++ [v]) := by
      unfold NumS
      rw [List.length_append, List.map_append]
      exact hown'
    have bGX : Below G w w6 := hk6.under e4 (by omega) (by omega)
    refine ⟨keepsFrom_set (keepsFrom_kept hk6 hrc) _ _, ⟨setBelow ((hk6.under (Below.refl G X) (by omega) (by omega))) (by omega) _ _, (Below.heap_setCell _ _ _ _ (by show G + 1 + 1 + 1 ≠ G + 1 + 1; omega)).trans (hk6.block _ (by omega) (by omega))⟩, ⟨.slice av (zs.length + 1) cv, RG6.set 0 _, ?_⟩, ?_, Lib.hid ?_, setBelow bGX (by omega) _ _, Nat.le_trans hsI (Nat.le_trans hk6.size (by rw [setSize]; exact Nat.le_refl _))⟩
    · rw [HZN.out]
      exact sizedFar hN6 RG6 (by decide)
    · exact (HE3.out.kept hk6 (fun e => by have := HE3.out.lt; omega)).far (by show G + 1 ≠ G + 1 + 1; omega) _
    · rw [List.length_append]; simp; omega
  case done =>
    rintro D ks X hD hup ⟨⟨sv, e1, e2⟩, e3, e6, e4, hsI⟩ hK
    have hvals : (ks.map fun x : Fin S => IntKind.i64.wrap (sndP xs x.val - fstP xs x.val)) = (List.range S).map fun i : Nat => sndP xs i - fstP xs i := by
      rw [show (ks.map fun x : Fin S => IntKind.i64.wrap (sndP xs x.val - fstP xs x.val)) = (ks.map Fin.val).map (fun i : Nat => IntKind.i64.wrap (sndP xs i - fstP xs i)) by rw [List.map_map]; rfl, show ks.map Fin.val = List.range S from hup]
      exact List.map_congr_left fun i hi => HRAW.out i (List.mem_range.1 hi)
    have hwv : Wid (ks.map fun x : Fin S => IntKind.i64.wrap (sndP xs x.val - fstP xs x.val)) := fun y hy => by
      obtain ⟨x, _, rfl⟩ := List.mem_map.1 hy
      exact wrap_range _
    rw [hvals] at e2 hwv
    have c1 := e1.cell 0
    have HE2 := Lib.hid e2
    clear e1 e2 e3 e6 hvals
    gi_wp2
    refine ⟨by simp, .inl ⟨_, _, rfl, run_takeDeferred hK, ?_⟩⟩
    have kk := KeepC.grown (grownBy_putObj' X D (.deferred none)) (fun r e => by cases e; exact ⟨_, hK, rfl⟩)
    refine ⟨sv, by simp [results, Tryz.f189, go_sem], _, rfl, ⟨NumS.mono (keepC_row kk HE2.out) (by omega), hwv⟩, ?_⟩
    exact e4.trans (belowK_b (n₀ := G) (w := w) (by omega) _ D _ _ (by omega) hK rfl rfl)
  case stop =>
    rintro D c pre X _ _ h _
    exact h.elim
set_option maxRecDepth 100000 in
set_option maxHeartbeats 8000000 in
theorem sizedP_any {o : Int} {xs : List Int} {ls : List (List Int)} {a2 al : Option Addr} {c2 cl : Nat} {w : World} (A : ArgS w (.slice a2 xs.length c2) xs a2 c2) (na : a2 = none → c2 = 0) (hx : xs.length ≤ 1000) (L : RowL w (.slice al ls.length cl) ls al cl) (ok : ∀ x ∈ ls, OkS x) (hl : ls.length ≤ 1000) (h0 : 0 < ls.length) (hlen : xs.length = 2 * (shpI ls 0).length) (hraw : ∀ i, i < (shpI ls 0).length → IntKind.i64.wrap (IntKind.i64.wrap ((shpI ls 0).getD i 0 + fstP xs i) + sndP xs i) = (shpI ls 0).getD i 0 + fstP xs i + sndP xs i) :
    Calls Tryz.prog 189 #[.agg #[.int .i64 o, .slice a2 xs.length c2, .slice al ls.length cl], .func (.func 191) #[] #[]] w fun e w' => ∃ r, e = .returned r ∧ ResS w.heap.size w' r ((List.range (shpI ls 0).length).map fun i : Nat => (shpI ls 0).getD i 0 + fstP xs i + sndP xs i) ∧ Below w.heap.size w w' := by
  have HA := Lib.hid A
  have HL := Lib.hid L
  have HOK := Lib.hid ok
  obtain ⟨M, hm⟩ : ∃ m, xs.length = m := ⟨_, rfl⟩
  obtain ⟨k, hk⟩ : ∃ k, ls.length = k := ⟨_, rfl⟩
  have HM := Lib.hid hm
  have HK := Lib.hid hk
  obtain ⟨sx, hsx⟩ : ∃ s, shpI ls 0 = s := ⟨_, rfl⟩
  have HSX := Lib.hid hsx
  have okx := ok _ (shp_in (i := 0) h0)
  obtain ⟨b, o0, ax, cx, rfl, hbl, hcx, hAx, hnx⟩ := L.at (i := 0) h0
  rw [hsx] at okx hcx hAx
  rw [Nat.add_zero] at hcx
  have hrk := okx.rank
  obtain ⟨S, hS⟩ : ∃ s, sx.length = s := ⟨_, rfl⟩
  have HS := Lib.hid hS
  rw [hS] at hrk
  obtain ⟨G, hG⟩ : ∃ G, w.heap.size = G := ⟨_, rfl⟩
  rw [hk] at h0 hl
  obtain ⟨iS, hiS, hzA, hzB, hzC⟩ := info_parts infoS
  rw [hsx, hS] at hlen hraw
  rw [hsx, hS, hm, hk]
  rw [hm] at hlen
  have HRAW := Lib.hid hraw
  obtain ⟨W, hW⟩ : ∃ W, ((w.alloc (.cells #[.int .i64 o, .slice a2 M c2, .slice (some ⟨b, o0, none⟩) k cl] 189)).alloc (.cells #[.func (.func 191) #[] #[]] 225)).alloc (.cells #[.slice none 0 0] 43) = W := ⟨_, rfl⟩
  have RS : Row W G 189 #[.int .i64 o, .slice a2 M c2, .slice (some ⟨b, o0, none⟩) k cl] := by rw [← hW, ← hG]; exact ((Row.new _ _ _).alloc _).alloc _
  have R0 : Row W (G + 1) 225 #[.func (.func 191) #[] #[]] := by rw [← hW, ← hG]; have h := Row.new (w.alloc (.cells #[.int .i64 o, .slice a2 M c2, .slice (some ⟨b, o0, none⟩) k cl] 189)) 225 #[.func (.func 191) #[] #[]]; simp only [World.size_alloc] at h; exact h.alloc _
  have R1 : Row W (G + 1 + 1) 43 #[.slice none 0 0] := by rw [← hW, ← hG]; have h := Row.new ((w.alloc (.cells #[.int .i64 o, .slice a2 M c2, .slice (some ⟨b, o0, none⟩) k cl] 189)).alloc (.cells #[.func (.func 191) #[] #[]] 225)) 43 #[.slice none 0 0]; simp only [World.size_alloc] at h; exact h
  have hBW : Below w.heap.size w W := by rw [← hW]; exact (((Below.refl _ _).alloc (Nat.le_refl _) _).alloc (by simp) _).alloc (by simp; omega) _
  have hsW : W.heap.size = G + 1 + 1 + 1 := by rw [← hW, ← hG]; simp
  have HBA : Hid (xs ≠ [] → ∀ x, a2 = some x → x.block < G) := Lib.hid (fun h1 x h2 => hG ▸ A.lim.lt h1 x h2)
  have HBX : Hid (sx ≠ [] → ∀ x, ax = some x → x.block < G) := Lib.hid (fun h1 x h2 => hG ▸ hAx.lim.lt h1 x h2)
  obtain ⟨k0, k1, k2, _, _, _⟩ := RS.three
  rw [hG]
  have HX := Lib.hid hx
  have HCX := Lib.hid hcx
  have HAX := Lib.hid hAx
  have HLEN := Lib.hid hlen
  have hM1 : M ≤ 1000 := by rw [← hm]; exact hx
  clear A L ok hm hk hsx hS hcx hAx hx hlen hraw
  obtain ⟨n', hn'⟩ : ∃ n' : Nat, Hid (3 ≤ n') := ⟨3, Nat.le_refl 3⟩
  refine (callsIn_wide (n := n')).1 ?_
  refine callsIn_of_wp_marks Tryz.func189 rfl trivial ?_ rfl
  simp only [Tryz.ntmps189, List.size_toArray, List.length_cons, List.length_nil, Nat.reduceAdd, Nat.reduceSub, Array.replicate_succ, Array.replicate_zero, List.push_toArray, List.append_toArray, List.nil_append, List.cons_append]
  gi_wp2_with fail
  (try rw [hW])
  refine wideCallS ((pairsI_any _ _ _ _ _ _ _ _).mono ?_)
  rintro e w' ⟨rfl, rfl⟩
  gi_wp2_with fail
  obtain ⟨V, hV⟩ : ∃ V, W.alloc (.cells #[.int .i64 o, .slice a2 M c2, .slice (some ⟨b, o0, none⟩) k cl] 189) = V := ⟨_, rfl⟩
  have sV : V.heap.size = G + 1 + 1 + 1 + 1 := by rw [← hV, World.size_alloc, hsW]
  have b4 : Below W.heap.size W V := by rw [← hV]; exact (Below.refl _ _).alloc (Nat.le_refl _) _
  have d4 : Row V (G + 1 + 1 + 1) 189 #[.int .i64 o, .slice a2 M c2, .slice (some ⟨b, o0, none⟩) k cl] := by rw [← hV, ← hsW]; exact Row.new _ _ _
  obtain ⟨j0, j1, j2, _, _, _⟩ := d4.three
  have q0 := R0.later b4
  have q1 := R1.later b4
  have hbV : Below G w V := by rw [← hG]; exact hBW.trans (b4.mono hBW.size)
  have hlA : LimS V a2 xs := HA.out.lim.later (hG.symm ▸ hbV)
  have hlX : LimS V ax sx := HAX.out.lim.later (hG.symm ▸ hbV)
  have hcV : V.cell? ⟨b, o0, none⟩ = some (.slice ax sx.length cx) := ((hG.symm ▸ hbV : Below w.heap.size w V).cell (p := ⟨b, o0, none⟩) hbl).trans HCX.out
  (try rw [hsW])
  (try rw [hV])
  have h3 : 3 ≤ n' := hn'
  clear hV hW R0 RS R1 k0 k1 k2
  refine wpIn_rangeFunc_ownH (F := Fence.wide) (n := n') rfl (by omega) (gf := 258) (lb := #[.pointer (some ⟨G + 1 + 1 + 1, 0, none⟩)]) rfl trivial (enters_of Tryz.func258 (by kernel_rfl) rfl)
    (pairsI_stops (n' - 1) (G + 1 + 1 + 1) G S k (xs := xs) (sx := sx) (a2 := a2) (ax := ax) (c2 := c2) (cl := cl) (cx := cx) (b := b) (o0 := o0) HX.out (by rw [HS.out]; omega) (by omega) (by rw [HS.out]; omega) (by rw [HM.out]; have := HLEN.out; omega) (by rw [HM.out, HS.out]; omega) HBA.out HBX.out V (by omega) (by rw [HM.out]; exact j1) j2 hcV hlA hlX) KpS.trans (KpS.b (by omega) (by omega)) (Below.refl _ _) (fun _ => rfl)
    (fun (pre : List (Fin S)) X => (∃ sv, Row X (G + 1 + 1) 43 #[sv] ∧ NumS (G + 1 + 1 + 1 + 1) X sv (pre.map fun x : Fin S => IntKind.i64.wrap (IntKind.i64.wrap (sx.getD x.val 0 + fstP xs x.val) + sndP xs x.val))) ∧ Row X (G + 1) 225 #[.func (.func 191) #[] #[]] ∧ Hid (pre.length ≤ S) ∧ Below G w X ∧ G + 1 + 1 + 1 + 1 ≤ X.heap.size)
    (fun c pre X => False)
    (fun pre X Y row ⟨⟨sv, e1, e2⟩, e3, e6, e4, e5⟩ hg hr => have kk := KeepC.grown hg (fun r e => (hr r e).2); ⟨⟨sv, e1.keepC kk, keepC_row kk e2⟩, e3.keepC kk, e6, e4.grown hg (by have := e4.size; omega) (fun k e => by have := (hr k e).1; omega), Nat.le_trans e5 hg.size⟩)
    (fun _ _ _ _ _ hs _ _ => hs)
    ⟨⟨_, q1, World.ownsRow_nil _ _ _ _⟩, q0, Lib.hid (Nat.zero_le _), hbV, by omega⟩
    (fun (x : Fin S) a' X => ∃ p, G + 1 + 1 + 1 + 1 ≤ p ∧ Row X p 224 #[.int .i64 (fstP xs x.val), .int .i64 (sndP xs x.val)] ∧
      a' = { tmps := #[.agg #[.int .i64 o, .slice a2 M c2, .slice (some ⟨b, o0, none⟩) k cl], .func (.func 191) #[] #[], .pointer (some ⟨G, 0, none⟩), .pointer (some ⟨G + 1, 0, none⟩), .slice none 0 0, .pointer (some ⟨G + 1 + 1, 0, none⟩), .int .i64 (sx.getD x.val 0), .pointer (some ⟨p, 0, none⟩), .agg #[.int .i64 o, .slice a2 M c2, .slice (some ⟨b, o0, none⟩) k cl], .func (.func 258) #[] #[.pointer (some ⟨G + 1 + 1 + 1, 0, none⟩)], .int .i64 (sx.getD x.val 0), .agg #[.int .i64 (fstP xs x.val), .int .i64 (sndP xs x.val)], undef, undef, undef, undef, undef, undef, undef, undef], defers := [] })
    (fun x a' _ X Y row ⟨p, h1, h2, h3⟩ hg hr => ⟨p, h1, h2.keepC (KeepC.grown hg (fun r e => (hr r e).2)), h3⟩)
    ?assign ?body ?done ?stop
  case assign =>
    rintro l pre ⟨j, hj⟩ X K ⟨⟨sv, e1, e2⟩, e3, e6, e4, hsI⟩ hK
    obtain ⟨d, hd⟩ : ∃ d, sx.getD j 0 = d := ⟨_, rfl⟩
    obtain ⟨z0, hz0⟩ : ∃ z0, fstP xs j = z0 := ⟨_, rfl⟩
    obtain ⟨z1, hz1⟩ : ∃ z1, sndP xs j = z1 := ⟨_, rfl⟩
    have hbX : Below X.heap.size X (X.alloc (.cells #[.int .i64 z0, .int .i64 z1] 224)) := (Below.refl _ _).alloc (Nat.le_refl _) _
    have kk := KeepC.below hbX
    have HK2 := Lib.hid hK
    have HD := Lib.hid hd
    have HZ0 := Lib.hid hz0
    have HZ1 := Lib.hid hz1
    simp only [pairI]
    rw [hd, hz0, hz1]
    clear hK hd hz0 hz1
    gi_wp2
    refine HK2.out _ _ ⟨by simp, fun q o _ ho _ => (Below.heap_alloc _ _ _ (lt_of_block ho)).trans ho⟩ ⟨hbX.mono (by omega), Below.heap_alloc _ _ _ (by omega)⟩ ⟨⟨sv, e1.keepC kk, keepC_row kk e2⟩, e3.keepC kk, e6, e4.trans (hbX.mono (by have := e4.size; omega)), by simp; omega⟩ ⟨X.heap.size, hsI, ?_, ?_⟩
    · simp only [HZ0.out, HZ1.out]; exact Row.new _ _ _
    · simp only [HD.out, HZ0.out, HZ1.out]
  case body =>
    rintro l pre ⟨j, hj⟩ a' X hl' hrec ⟨⟨sv, e1, e2⟩, e3, e6, e4, hsI⟩ ⟨p, hp, hR, rfl⟩ hlt
    simp only at hR ⊢
    obtain ⟨zs, hzs⟩ : ∃ zs, (pre.map fun x : Fin S => IntKind.i64.wrap (IntKind.i64.wrap (sx.getD x.val 0 + fstP xs x.val) + sndP xs x.val)) = zs := ⟨_, rfl⟩
    have hzl : zs.length ≤ 4 := by rw [← hzs, List.length_map]; have := e6.out; omega
    rw [hzs] at e2
    have hzn : ((pre ++ [(⟨j, hj⟩ : Fin S)]).map fun x : Fin S => IntKind.i64.wrap (IntKind.i64.wrap (sx.getD x.val 0 + fstP xs x.val) + sndP xs x.val)) = zs ++ [IntKind.i64.wrap (IntKind.i64.wrap (sx.getD j 0 + fstP xs j) + sndP xs j)] := by rw [List.map_append, hzs]; rfl
    obtain ⟨d, hd⟩ : ∃ d, sx.getD j 0 = d := ⟨_, rfl⟩
    obtain ⟨z0, hz0⟩ : ∃ z0, fstP xs j = z0 := ⟨_, rfl⟩
    obtain ⟨z1, hz1⟩ : ∃ z1, sndP xs j = z1 := ⟨_, rfl⟩
    rw [hz0, hz1] at hR
    (try rw [hd] at hzn)
    (try rw [hz0] at hzn)
    (try rw [hz1] at hzn)
    rw [hd, hz0, hz1]
    obtain ⟨v, hv⟩ : ∃ v, IntKind.i64.wrap (IntKind.i64.wrap (d + z0) + z1) = v := ⟨_, rfl⟩
    rw [hv] at hzn
    have hcn := fun Y => resP_any d z0 z1 Y
    rw [hv] at hcn
    have HCN := Lib.hid hcn
    have HZN := Lib.hid hzn
    obtain ⟨r, hrv, hbr, hap, hrc, _⟩ := ownV_hits e2 hsI
    have ng1 := hap _ _ _ e1 (by decide)
    have ng2 := hap _ _ _ e3 (by decide)
    have ng3 := hap _ _ _ hR (by decide)
    have mkS : ∀ Y, Kept r X Y → (fun Y => Y.cell? ⟨G + 1 + 1, 0, none⟩ = some sv ∧ Y.cell? ⟨G + 1, 0, none⟩ = some (.func (.func 191) #[] #[]) ∧ Y.cell? ⟨p, 0, none⟩ = some (.int .i64 z0) ∧ Y.cell? ⟨p, 1, none⟩ = some (.int .i64 z1)) Y := fun Y hY => by
      obtain ⟨y0, y1, _, _⟩ := (hR.kept hY ng3).two
      exact ⟨(e1.kept hY ng1).cell 0, (e3.kept hY ng2).cell 0, y0, y1⟩
    have hk0 : Kept r X X.drew := (Kept.refl r X).drew
    have b0 : Below X.heap.size X X.drew := (Below.refl _ X).drew
    have HE1 := Lib.hid e1
    have HE2 := Lib.hid e2
    have HE3 := Lib.hid e3
    have HE6 := Lib.hid e6
    have hsX := e4.size
    clear hd hz0 hz1 hzs hzn hv hcn e1 e3 hR e6 e2 ng2 ng3
    refine wpIn_block ?_
    refine region_roundL (fun Y => Y.cell? ⟨G + 1 + 1, 0, none⟩ = some sv ∧ Y.cell? ⟨G + 1, 0, none⟩ = some (.func (.func 191) #[] #[]) ∧ Y.cell? ⟨p, 0, none⟩ = some (.int .i64 z0) ∧ Y.cell? ⟨p, 1, none⟩ = some (.int .i64 z1)) 7 (by kernel_rfl) (by kernel_rfl) (by rintro ⟨a', w', h⟩; exact h) (mkS _ hk0) (fun hHeld => ?_)
    refine todo [0, 1, 2, 3] ?_
    iterate 4
     refine todoL (v := ?_) rfl (by kernel_rfl) (fun _ _ _ h => h) (by assumption) (Or.inl ⟨by rfl, ?_⟩) ?_
     rotate_left
     · intro w hSw; (try dsimp only at hSw); go_simp; (try with_reducible rfl)
     try simp only [Act.put, List.getElem_toArray, List.getElem_cons_succ, List.getElem_cons_zero, List.setIfInBounds_toArray, List.set_cons_zero, List.set_cons_succ]
    refine todone ?_
    refine wpAnyL_one (i := 4) (by kernel_rfl) rfl (fun K hK => ?sbs_4)
    go_simp
    refine (HCN.out _).mono ?_
    rintro e w5 ⟨rfl, hy⟩
    have b5 : Below X.heap.size X w5 := b0.trans (hy.mono b0.size)
    have hk5 : Kept r X w5 := (Kept.refl r X).below b5
    clear hy
    go_simp
    refine hK.out _ _ (fun _ => mkS _ hk5) (fun hHeld2 => ?mbs_4)
    clear hK K hHeld
    have hHeld := hHeld2 (by decide)
    clear hHeld2
    try simp only [Act.put, List.getElem_toArray, List.getElem_cons_succ, List.getElem_cons_zero, List.setIfInBounds_toArray, List.set_cons_zero, List.set_cons_succ]
    refine wpAnyL_one (i := 5) (by kernel_rfl) rfl (fun K hK => ?sbs_5)
    go_simp
    refine hK.out _ _ (fun _ => mkS _ (hk5.alloc _)) (fun hHeld2 => ?mbs_5)
    clear hK K hHeld
    have hHeld := hHeld2 (by decide)
    clear hHeld2
    try simp only [Act.put, List.getElem_toArray, List.getElem_cons_succ, List.getElem_cons_zero, List.setIfInBounds_toArray, List.set_cons_zero, List.set_cons_succ]
    refine wpAnyL_one (i := 6) (by kernel_rfl) rfl (fun K hK => ?sbs_6)
    have hn5 : NumS (G + 1 + 1 + 1 + 1) w5 sv zs := NumS.later HE2.out b5
    have hsz5 := b5.size
    refine step_append_ownT rfl _ _ 43 rfl (G + 1 + 1 + 1 + 1) 3 iS (.int .i64 0) 1 8 Tryz.underlying43 hiS hzA hzB hzC rfl (by decide) _ zs.length (zs.map (Value.int .i64)) rfl (hn5.later ((Below.refl _ _).alloc (Nat.le_refl _) _)) ⟨w5.heap.size, 0, none⟩ 1 1 [.int .i64 v] rfl rfl (fun j u hj => ?celsz) (by simp [Value.oneCell']) (by unfold maxLen; omega) (by omega) (by simp; omega) ?_
    case celsz =>
      have R := Row.new w5 3 #[.int .i64 v]
      match j, hj with
      | 0, hj => simp at hj; subst hj; exact R.cell 0
      | j + 1, hj => simp at hj
    intro v' w6 hown' hgrow _
    obtain ⟨av, cv, rfl⟩ := ownT_slice hown'
    have hk6 : Kept r X w6 := (hk5.alloc _).grown hgrow hrv
    refine hK.out _ _ (fun _ => mkS _ hk6) (fun hHeld2 => ?mbs_6)
    clear hK K hHeld
    have hHeld := hHeld2 (by decide)
    clear hHeld2
    try simp only [Act.put, List.getElem_toArray, List.getElem_cons_succ, List.getElem_cons_zero, List.setIfInBounds_toArray, List.set_cons_zero, List.set_cons_succ]
    have RG6 := HE1.out.kept hk6 ng1
    have f21 := RG6.free 0
    have d21 := RG6.cell 0
    refine wpAnyL_one (i := 7) (by kernel_rfl) rfl (fun K hK => ?sbs_7)
    go_simp
    refine hK.out _ _ (fun h => absurd rfl h) (fun _ => ?mbs_7)
    clear hK K
    try simp only [Act.put, List.getElem_toArray, List.getElem_cons_succ, List.getElem_cons_zero, List.setIfInBounds_toArray, List.set_cons_zero, List.set_cons_succ]
    refine wpAnyL_done (by kernel_rfl) ?_ _
    have hN6 : NumS (G + 1 + 1 + 1 + 1) w6 (.slice av (zs.length + 1) cv) (zs ++ [v]) := by
      unfold NumS
      rw [List.length_append, List.map_append]
      exact hown'
    have bGX : Below G w w6 := hk6.under e4 (by omega) (by omega)
    refine ⟨keepsFrom_set (keepsFrom_kept hk6 hrc) _ _, ⟨setBelow ((hk6.under (Below.refl G X) (by omega) (by omega))) (by omega) _ _, (Below.heap_setCell _ _ _ _ (by show G + 1 + 1 + 1 ≠ G + 1 + 1; omega)).trans (hk6.block _ (by omega) (by omega))⟩, ⟨.slice av (zs.length + 1) cv, RG6.set 0 _, ?_⟩, ?_, Lib.hid ?_, setBelow bGX (by omega) _ _, Nat.le_trans hsI (Nat.le_trans hk6.size (by rw [setSize]; exact Nat.le_refl _))⟩
    · rw [HZN.out]
      exact sizedFar hN6 RG6 (by decide)
    · exact (HE3.out.kept hk6 (fun e => by have := HE3.out.lt; omega)).far (by show G + 1 ≠ G + 1 + 1; omega) _
    · rw [List.length_append]; simp; omega
  case done =>
    rintro D ks X hD hup ⟨⟨sv, e1, e2⟩, e3, e6, e4, hsI⟩ hK
    have hvals : (ks.map fun x : Fin S => IntKind.i64.wrap (IntKind.i64.wrap (sx.getD x.val 0 + fstP xs x.val) + sndP xs x.val)) = (List.range S).map fun i : Nat => sx.getD i 0 + fstP xs i + sndP xs i := by
      rw [show (ks.map fun x : Fin S => IntKind.i64.wrap (IntKind.i64.wrap (sx.getD x.val 0 + fstP xs x.val) + sndP xs x.val)) = (ks.map Fin.val).map (fun i : Nat => IntKind.i64.wrap (IntKind.i64.wrap (sx.getD i 0 + fstP xs i) + sndP xs i)) by rw [List.map_map]; rfl, show ks.map Fin.val = List.range S from hup]
      exact List.map_congr_left fun i hi => HRAW.out i (List.mem_range.1 hi)
    have hwv : Wid (ks.map fun x : Fin S => IntKind.i64.wrap (IntKind.i64.wrap (sx.getD x.val 0 + fstP xs x.val) + sndP xs x.val)) := fun y hy => by
      obtain ⟨x, _, rfl⟩ := List.mem_map.1 hy
      exact wrap_range _
    rw [hvals] at e2 hwv
    have c1 := e1.cell 0
    have HE2 := Lib.hid e2
    clear e1 e2 e3 e6 hvals
    gi_wp2
    refine ⟨by simp, .inl ⟨_, _, rfl, run_takeDeferred hK, ?_⟩⟩
    have kk := KeepC.grown (grownBy_putObj' X D (.deferred none)) (fun r e => by cases e; exact ⟨_, hK, rfl⟩)
    refine ⟨sv, by simp [results, Tryz.f189, go_sem], _, rfl, ⟨NumS.mono (keepC_row kk HE2.out) (by omega), hwv⟩, ?_⟩
    exact e4.trans (belowK_b (n₀ := G) (w := w) (by omega) _ D _ _ (by omega) hK rfl rfl)
  case stop =>
    rintro D c pre X _ _ h _
    exact h.elim
end
end Go.Proofs.YtjgiacghlkkjfaaGreatDoor
