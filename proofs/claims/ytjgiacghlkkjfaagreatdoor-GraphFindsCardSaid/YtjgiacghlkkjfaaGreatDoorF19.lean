/-
  Part 19 of 29: contracts and what they rest on (OCode7, OCode8, OCode9).
-/
import Derived.Test.YtjgiacghlkkjfaaGreatDoorF1
import Derived.Test.YtjgiacghlkkjfaaGreatDoorF2
import Derived.Test.YtjgiacghlkkjfaaGreatDoorF3
import Derived.Test.YtjgiacghlkkjfaaGreatDoorF4
import Derived.Test.YtjgiacghlkkjfaaGreatDoorF5
import Derived.Test.YtjgiacghlkkjfaaGreatDoorF7
import Derived.Test.YtjgiacghlkkjfaaGreatDoorF8
import Derived.Test.YtjgiacghlkkjfaaGreatDoorF9
import Derived.Test.YtjgiacghlkkjfaaGreatDoorF10
import Derived.Test.YtjgiacghlkkjfaaGreatDoorF13
import Derived.Test.YtjgiacghlkkjfaaGreatDoorF14
import Derived.Test.YtjgiacghlkkjfaaGreatDoorF16
import Derived.WalkKit
import Derived.Test.YtjgiacghlkkjfaaGreatDoorRows
import Derived.OrdersHeld
import Derived.Deep.RegionHeld
import Derived.BigQuiet
import Derived.Deep.QuietTactic
import Derived.Lib.Hide
import Derived.Lib.Small
import Derived.Lib.Walk
import Derived.Lib.BitFns
import Derived.Maps.AppendAt
import Derived.RangeFuncNested
import Derived.RangeFuncBound
import Derived.RangeFuncCalls
import Derived.RangeFuncLeaves
import Derived.Shelf.Abstract
import Derived.OwnWalkIn
import Derived.TacticsInMore
import Derived.LoopNIn
import Derived.LoopIn
import Derived.RangeFuncBox
import Derived.Deep.RegionHeld3
import Derived.OrdersIn
import Derived.StillTailTactics
import Derived.RangeFuncFrom
import Derived.Laws.EntriesVeiled
import Derived.ProofKit
import Derived.OpenShut
import Derived.JoinedCond
import Derived.Carry
import Derived.Laws.AppendOwnNone
import Derived.Lib.ItoaNum
import Derived.Deep.RegionLaw
import Derived.WalkMore
import Derived.Lib.SmallJoins
import Derived.IntWalk
import Derived.Deep.DeepCutAuto
import Derived.Laws.OwnMore
import Derived.ArgAppend
import Derived.Deep.Slices
import Derived.Laws.CopyOwn
import Derived.Lib.SliceRun
import Derived.SizedLaws
import Derived.Great.BuildSlice
namespace Go.Proofs.YtjgiacghlkkjfaaGreatDoor
set_option maxRecDepth 100000
section
open Go.RowKit
set_option linter.unusedVariables false
set_option linter.unusedSimpArgs false
/-- the row of an operation, in memory -/
def RowIs (B : Nat) (w : World) (o : Int) (r : Array Value) : Prop := ∃ (n0 : Int) (F M : Value), r = #[.int .i64 n0, .string (rowO o).name, .int .i64 (rowO o).vl, .int .i64 (rowO o).vh, .int .i64 (rowO o).al, .int .i64 (rowO o).ah, F, .int .i64 (rowO o).lo, M] ∧ F.oneCell' = true ∧ M.oneCell' = true ∧ (inO o = true → n0 = o ∧ FitV B w F (fitO o) ∧ (1 ≤ (rowO o).lo → MeanV B w M (meantO o)))
theorem RowIs.later {B : Nat} {w w' : World} {o : Int} {r : Array Value} (h : RowIs B w o r) (hb : From B w w') : RowIs B w' o r := by
  obtain ⟨n0, F, M, h1, h2, h3, h4⟩ := h
  exact ⟨n0, F, M, h1, h2, h3, fun h => ⟨(h4 h).1, (h4 h).2.1.later hb, fun hl => ((h4 h).2.2 hl).later hb⟩⟩
theorem RowIs.mono {B B' : Nat} {w : World} {o : Int} {r : Array Value} (h : RowIs B w o r) (hb : B' ≤ B) : RowIs B' w o r := by
  obtain ⟨n0, F, M, h1, h2, h3, h4⟩ := h
  exact ⟨n0, F, M, h1, h2, h3, fun h => ⟨(h4 h).1, (h4 h).2.1.mono hb, fun hl => ((h4 h).2.2 hl).mono hb⟩⟩
theorem Found.row {B : Nat} {w : World} {o : Int} {r : Array Value} {ok : Bool} (h : Found B w (fun k => decide ((k : Int) + 1 = o)) r ok) : ok = inO o ∧ RowIs B w o r := by
  rcases h with ⟨h0, k, F, M, h1, h2, h3, hM, h4, h5⟩ | ⟨h0, h1, h2⟩
  · have h6 := of_decide_eq_true h2
    subst h6
    obtain ⟨i1, _⟩ := rowO_nat h1
    exact ⟨by rw [h0, i1], _, F, M, h3, h4.one, hM, fun _ => ⟨rfl, h4, h5⟩⟩
  · have hno : inO o = false := by
      cases hi : inO o with
      | false => rfl
      | true =>
        obtain ⟨k, hk, rfl⟩ := inO_nat hi
        have := h1 k hk
        simp at this
    refine ⟨by rw [h0, hno], 0, .nilFunc, .nilFunc, ?_, rfl, rfl, fun h => by rw [hno] at h; cases h⟩
    rw [h2, rowO_out hno]
    rfl
theorem rowIs_one {n0 : Int} {nm : ByteArray} {vl vh al ah lo : Int} {F M : Value} (hF : F.oneCell' = true) (hM : M.oneCell' = true) : (#[.int .i64 n0, .string nm, .int .i64 vl, .int .i64 vh, .int .i64 al, .int .i64 ah, F, .int .i64 lo, M] : Array Value).all (·.oneCell') = true := by
  have e1 : ∀ n : Int, (Value.int .i64 n).oneCell' = true := fun _ => rfl
  have e2 : ∀ s : ByteArray, (Value.string s).oneCell' = true := fun _ => rfl
  simp [hF, hM, e1, e2]
set_option maxRecDepth 100000 in
set_option maxHeartbeats 4000000 in
theorem rowOf1_any {w : World} {k g : Nat} {G M : Value} {o : Int} (R : Row w g 44 #[.int .i64 o]) :
    Calls Tryz.prog 222 #[.agg (rowC k G M), .pointer (some ⟨g, 0, none⟩)] w fun e w' => e = .returned (.bool (decide ((k : Int) + 1 = o))) ∧ Below w.heap.size w w' := by
  obtain ⟨n0, s1, n2, n3, n4, n5, n7, hn, hv⟩ : ∃ (n0 : Int) (s1 : ByteArray) (n2 n3 n4 n5 n7 : Int), (k : Int) + 1 = n0 ∧ rowC k G M = #[.int .i64 n0, .string s1, .int .i64 n2, .int .i64 n3, .int .i64 n4, .int .i64 n5, G, .int .i64 n7, M] := ⟨_, _, _, _, _, _, _, rfl, rfl⟩
  rw [hn, hv]
  obtain ⟨W, hW⟩ : ∃ W, w.alloc (.cells #[.int .i64 n0, .string s1, .int .i64 n2, .int .i64 n3, .int .i64 n4, .int .i64 n5, G, .int .i64 n7, M] 181) = W := ⟨_, rfl⟩
  have R0 : Row W w.heap.size 181 #[.int .i64 n0, .string s1, .int .i64 n2, .int .i64 n3, .int .i64 n4, .int .i64 n5, G, .int .i64 n7, M] := by rw [← hW]; exact Row.new _ _ _
  have hb : Below w.heap.size w W := by rw [← hW]; exact (Below.refl _ _).alloc (Nat.le_refl _) _
  have c0 := R0.cell 0
  have d0 := (R.later hb).cell 0
  clear hn hv R R0
  go_enter Tryz.func222, Tryz.ntmps222
  (try rw [hW])
  go_wp2_with fail
  go_ret
  refine ⟨?_, hb⟩
  first | rfl | (congr 1)
set_option maxRecDepth 100000 in
set_option maxHeartbeats 4000000 in
theorem rowOf_any (o : Int) (w : World) : Calls Tryz.prog 177 #[.int .i64 o] w fun e w' => ∃ r, e = .returned (.tuple #[.agg r, .bool (inO o)]) ∧ RowIs w.heap.size w' o r ∧ Below w.heap.size w w' := by
  obtain ⟨okb, hok⟩ : ∃ b, inO o = b := ⟨_, rfl⟩
  rw [hok]
  have HOK := Lib.hid hok
  clear hok
  obtain ⟨W, hW⟩ : ∃ W, ((w.alloc (.cells #[.int .i64 o] 44)).alloc (.cells #[.int .i64 0, .string ⟨#[]⟩, .int .i64 0, .int .i64 0, .int .i64 0, .int .i64 0, .nilFunc, .int .i64 0, .nilFunc] 181)) = W := ⟨_, rfl⟩
  have R0 : Row W w.heap.size 44 #[.int .i64 o] := by rw [← hW]; exact (Row.new _ _ _).alloc _
  have R1 : Row W (w.heap.size + 1) 181 #[.int .i64 0, .string ⟨#[]⟩, .int .i64 0, .int .i64 0, .int .i64 0, .int .i64 0, .nilFunc, .int .i64 0, .nilFunc] := by rw [← hW]; have h := Row.new (w.alloc (.cells #[.int .i64 o] 44)) 181 #[.int .i64 0, .string ⟨#[]⟩, .int .i64 0, .int .i64 0, .int .i64 0, .int .i64 0, .nilFunc, .int .i64 0, .nilFunc]; (try simp only [World.size_alloc] at h); exact h
  have hbW : Below w.heap.size w W := by rw [← hW]; exact ((Below.refl _ _).alloc (by (try simp) <;> omega) _).alloc (by (try simp) <;> omega) _
  have hsW : W.heap.size = w.heap.size + 1 + 1 := by rw [← hW]; simp
  have HSW := Lib.hid hsW
  clear hsW
  go_enter Tryz.func177, Tryz.ntmps177
  (try rw [hW])
  go_wp2_with fail
  (try rw [hW])
  clear hW
  refine (find_any (F := 222) (cap := #[.pointer (some ⟨w.heap.size, 0, none⟩)]) (p := fun k => decide ((k : Int) + 1 = o)) (fun args w => enters_of Tryz.func222 (by kernel_rfl) rfl args w) (fun X k G M hk hX => rowOf1_any (R0.later hX))).mono ?_
  rintro e y1 ⟨r, ok, rfl, hf, hy⟩
  obtain ⟨hok2, hr⟩ := hf.row
  rw [HOK.out] at hok2
  subst hok2
  obtain ⟨n0, F, M, rfl, hF, hM, hin⟩ := id hr
  have b1 : Below w.heap.size w y1 := hbW.trans (hy.mono hbW.size)
  have R2 := R1.later hy
  have HR := Lib.hid hr
  have HONE := Lib.hid (rowIs_one (n0 := n0) (nm := (rowO o).name) (vl := (rowO o).vl) (vh := (rowO o).vh) (al := (rowO o).al) (ah := (rowO o).ah) (lo := (rowO o).lo) hF hM)
  obtain ⟨nm, hnm⟩ : ∃ s, (rowO o).name = s := ⟨_, rfl⟩
  obtain ⟨vl, hvl⟩ : ∃ s, (rowO o).vl = s := ⟨_, rfl⟩
  obtain ⟨vh, hvh⟩ : ∃ s, (rowO o).vh = s := ⟨_, rfl⟩
  obtain ⟨al, hal⟩ : ∃ s, (rowO o).al = s := ⟨_, rfl⟩
  obtain ⟨ah, hah⟩ : ∃ s, (rowO o).ah = s := ⟨_, rfl⟩
  obtain ⟨lo, hlo⟩ : ∃ s, (rowO o).lo = s := ⟨_, rfl⟩
  have HNM := Lib.hid hnm
  have HVL := Lib.hid hvl
  have HVH := Lib.hid hvh
  have HAL := Lib.hid hal
  have HAH := Lib.hid hah
  have HLO := Lib.hid hlo
  rw [hnm, hvl, hvh, hal, hah, hlo] at hr ⊢
  have HONE2 := HONE.out
  rw [hnm, hvl, hvh, hal, hah, hlo] at HONE2
  have HO2 := Lib.hid HONE2
  have HRR := HR.out
  rw [hnm, hvl, hvh, hal, hah, hlo] at HRR
  have HR2 := Lib.hid HRR
  have P3 := R2.setRow (cs := #[.int .i64 n0, .string nm, .int .i64 vl, .int .i64 vh, .int .i64 al, .int .i64 ah, F, .int .i64 lo, M])
  have z0 := P3.cell 0
  have z1 := P3.cell 1
  have z2 := P3.cell 2
  have z3 := P3.cell 3
  have z4 := P3.cell 4
  have z5 := P3.cell 5
  have z6 := P3.cell 6
  have z7 := P3.cell 7
  have z8 := P3.cell 8
  have HE := Lib.hid (below_setRow (cs := #[.int .i64 n0, .string nm, .int .i64 vl, .int .i64 vh, .int .i64 al, .int .i64 ah, F, .int .i64 lo, M]) b1 (show w.heap.size ≤ w.heap.size + 1 by omega))
  have hFr : From W.heap.size y1 (y1.setRow (w.heap.size + 1) #[.int .i64 n0, .string nm, .int .i64 vl, .int .i64 vh, .int .i64 al, .int .i64 ah, F, .int .i64 lo, M]) := (From.of (Below.refl _ _)).setRow (by rw [HSW.out]; omega)
  have HFR := Lib.hid hFr
  clear hf hr hin hFr P3 HONE2 HRR hnm hvl hvh hal hah hlo hy
  go_wp2_with (refine wpList_store_row rfl 181 _ _ rfl (w.heap.size + 1) #[.int .i64 n0, .string nm, .int .i64 vl, .int .i64 vh, .int .i64 al, .int .i64 ah, F, .int .i64 lo, M] (by rfl) (by rfl) 181 #[.int .i64 0, .string ⟨#[]⟩, .int .i64 0, .int .i64 0, .int .i64 0, .int .i64 0, .nilFunc, .int .i64 0, .nilFunc] R2 (by kernel_rfl) rfl HO2.out ?_)
  exact bodyPost_ret (v := .tuple #[.agg #[.int .i64 n0, .string nm, .int .i64 vl, .int .i64 vh, .int .i64 al, .int .i64 ah, F, .int .i64 lo, M], .bool ok]) (by simp [results, Tryz.results177, go_sem, z0, z1, z2, z3, z4, z5, z6, z7, z8]) rfl ⟨_, rfl, (HR2.out.later HFR.out).mono (by rw [HSW.out]; omega), HE.out⟩
end
section
open Go.RowKit
set_option linter.unusedVariables false
set_option linter.unusedSimpArgs false
set_option maxRecDepth 100000 in
set_option maxHeartbeats 4000000 in
theorem leaves_any {n0 : Int} {nm : ByteArray} {vl vh al ah lo : Int} {F M : Value} {a : Option Addr} {n ca : Nat} (v : Int) (w : World) : Calls Tryz.prog 180 #[.agg #[.int .i64 n0, .string nm, .int .i64 vl, .int .i64 vh, .int .i64 al, .int .i64 ah, F, .int .i64 lo, M], .int .i64 v, .slice a n ca] w fun e w' => e = .returned (.bool (decide (n = 0 ∧ v ≤ lo))) ∧ Below w.heap.size w w' := by
  obtain ⟨c, hc⟩ : ∃ c, decide (n = 0 ∧ v ≤ lo) = c := ⟨_, rfl⟩
  rw [hc]
  obtain ⟨W, hW⟩ : ∃ W, w.alloc (.cells #[.int .i64 n0, .string nm, .int .i64 vl, .int .i64 vh, .int .i64 al, .int .i64 ah, F, .int .i64 lo, M] 181) = W := ⟨_, rfl⟩
  have R0 : Row W w.heap.size 181 #[.int .i64 n0, .string nm, .int .i64 vl, .int .i64 vh, .int .i64 al, .int .i64 ah, F, .int .i64 lo, M] := by rw [← hW]; exact Row.new _ _ _
  have hb : Below w.heap.size w W := by rw [← hW]; exact (Below.refl _ _).alloc (Nat.le_refl _) _
  have c5 := R0.cell 7
  clear R0
  by_cases h0 : n = 0
  · subst h0
    by_cases h1 : v ≤ lo
    · obtain rfl : c = true := by rw [← hc]; exact decide_eq_true ⟨rfl, h1⟩
      clear hc
      go_enter Tryz.func180, Tryz.ntmps180
      (try rw [hW])
      go_wp2_with fail
      go_ret
      exact ⟨rfl, hb⟩
    · obtain rfl : c = false := by rw [← hc]; exact decide_eq_false (fun h => h1 h.2)
      clear hc
      go_enter Tryz.func180, Tryz.ntmps180
      (try rw [hW])
      go_wp2_with fail
      go_ret
      exact ⟨rfl, hb⟩
  · have h0I : ((n : Int) == 0) = false := by simp; omega
    obtain rfl : c = false := by rw [← hc]; exact decide_eq_false (fun h => h0 h.1)
    clear hc
    go_enter Tryz.func180, Tryz.ntmps180
    (try rw [hW])
    go_wp2_with fail
    go_ret
    exact ⟨rfl, hb⟩
set_option maxRecDepth 100000 in
set_option maxHeartbeats 4000000 in
theorem takes1_any {w : World} {g : Nat} (x : Int) (R : Row w g 177 #[.int .i64 (-2147483647), .int .i64 2147483647]) : Calls Tryz.prog 223 #[.int .i64 x, .pointer (some ⟨g, 0, none⟩)] w fun e w' => e = .returned (.bool (!(decide (-2147483647 ≤ x ∧ x ≤ 2147483647)))) ∧ Below w.heap.size w w' := by
  obtain ⟨c0, c1, _, _⟩ := R.two
  go_enter Tryz.func223, Tryz.ntmps223
  go_wp2_with fail
  refine (has_any _ _ x _).mono ?_
  rintro e y1 ⟨rfl, hy⟩
  obtain ⟨t, ht⟩ : ∃ t, hasB (-2147483647) 2147483647 x = t := ⟨_, rfl⟩
  have ht2 : decide (-2147483647 ≤ x ∧ x ≤ 2147483647) = t := ht
  rw [ht]
  go_wp2_with fail
  go_ret
  refine ⟨?_, hy⟩
  rw [ht2]
  try rfl
set_option maxRecDepth 100000 in
set_option maxHeartbeats 4000000 in
theorem indexI_any {F : Nat} {cap : Array Value} {q : Int → Bool} {u : Value} {xs : List Int} {a : Option Addr} {ca : Nat} {w : World} (A : ArgS w u xs a ca) (hx : xs.length ≤ 17592186044416) (heF : ∀ args w, (callFunc F args).run Tryz.prog w = .ok (.enter F args) w)
    (hdo : ∀ W x, Below w.heap.size w W → Calls Tryz.prog F (#[.int .i64 x] ++ cap) W fun e w' => e = .returned (.bool (q x)) ∧ Below W.heap.size W w') :
    Calls Tryz.prog 257 #[u, .func (.func F) #[] cap] w fun e w' => ∃ i : Int, e = .returned (.int .i64 i) ∧ decide (i ≥ 0) = xs.any q ∧ Below w.heap.size w w' := by
  have HA := Lib.hid A
  have HDO := Lib.hid hdo
  obtain rfl := A.is
  obtain ⟨L, hL⟩ : ∃ L, xs.length = L := ⟨_, rfl⟩
  have HL := Lib.hid hL
  rw [hL] at hx ⊢
  clear A hdo hL
  go_enter Tryz.func257, Tryz.ntmps257
  go_wp2_with fail
  go_loopw [5, 8] (fun _ i wr => ∃ k : Nat, i = .int .i64 (k : Int) ∧ k ≤ L ∧ (∀ j, j < k → q (xs.getD j 0) = false) ∧ Below w.heap.size w wr) (fun _ i _ => L - (intOf i).toNat)
  case atStart => exact ⟨0, rfl, by omega, fun j hj => by omega, Below.refl _ _⟩
  case round =>
    obtain ⟨k, rfl, hk, hall, hb⟩ := hrel
    have HALL := Lib.hid hall
    clear hall
    by_cases hlt : k < L
    · have hltI : (k : Int) < (L : Int) := by omega
      obtain ⟨b1, o1, rfl, c1⟩ := (HA.out.later hb).at (i := k) (by rw [HL.out]; exact hlt)
      have hmem : xs.getD k 0 ∈ xs := by
        rw [List.getD_eq_getElem?_getD, List.getElem?_eq_getElem (by rw [HL.out]; exact hlt)]
        exact List.getElem_mem _
      obtain ⟨x, hxe⟩ : ∃ x, xs.getD k 0 = x := ⟨_, rfl⟩
      rw [hxe] at c1 hmem
      have HME := Lib.hid hmem
      have HXE := Lib.hid hxe
      have hcall := HDO.out wr x hb
      obtain ⟨t, ht⟩ : ∃ t, q x = t := ⟨_, rfl⟩
      rw [ht] at hcall
      have HTT := Lib.hid ht
      clear ht hxe hmem
      go_wp2_with fail
      refine hcall.mono ?_
      rintro e y1 ⟨rfl, hy⟩
      cases t with
      | true =>
        go_wp2_with fail
        go_ret
        refine ⟨_, rfl, ?_, hb.trans (hy.mono hb.size)⟩
        rw [List.any_eq_true.2 ⟨x, HME.out, HTT.out⟩]
        exact decide_eq_true (by omega)
      | false =>
        go_wp2_with fail
        go_roundw
        case rel =>
          refine ⟨k + 1, by go_num, by omega, fun j hj => ?_, hb.trans (hy.mono hb.size)⟩
          by_cases hjk : j < k
          · exact HALL.out j hjk
          · obtain rfl : j = k := by omega
            rw [HXE.out]
            exact HTT.out
        case measure => simp [intOf]; omega
    · obtain rfl : k = L := by omega
      have hltI : ¬ (k : Int) < (k : Int) := by omega
      go_wp2_with fail
      go_ret
      refine ⟨_, rfl, ?_, hb⟩
      have hany : xs.any q = false := by
        rw [List.any_eq_false]
        intro x hxm
        obtain ⟨j, hj, he⟩ := List.mem_iff_getElem.1 hxm
        have h := HALL.out j (by rw [← HL.out]; exact hj)
        rw [List.getD_eq_getElem?_getD, List.getElem?_eq_getElem hj] at h
        rw [← he]
        simpa using h
      rw [hany]
      rfl
set_option maxRecDepth 100000 in
set_option maxHeartbeats 4000000 in
theorem containsI_any {F : Nat} {cap : Array Value} {q : Int → Bool} {u : Value} {xs : List Int} {a : Option Addr} {ca : Nat} {w : World} (A : ArgS w u xs a ca) (hx : xs.length ≤ 17592186044416) (heF : ∀ args w, (callFunc F args).run Tryz.prog w = .ok (.enter F args) w)
    (hdo : ∀ W x, Below w.heap.size w W → Calls Tryz.prog F (#[.int .i64 x] ++ cap) W fun e w' => e = .returned (.bool (q x)) ∧ Below W.heap.size W w') :
    Calls Tryz.prog 224 #[u, .func (.func F) #[] cap] w fun e w' => e = .returned (.bool (xs.any q)) ∧ Below w.heap.size w w' := by
  have hi := indexI_any A hx heF hdo
  obtain rfl := A.is
  obtain ⟨t, ht⟩ : ∃ t, xs.any q = t := ⟨_, rfl⟩
  rw [ht] at hi ⊢
  go_enter Tryz.func224, Tryz.ntmps224
  go_wp2_with fail
  refine hi.mono ?_
  rintro e y1 ⟨i, rfl, hd, hy⟩
  subst hd
  go_wp2_with fail
  go_ret
  exact ⟨rfl, hy⟩
set_option maxRecDepth 100000 in
set_option maxHeartbeats 4000000 in
theorem takes_any {B : Nat} {P : List Int → Bool} {n0 : Int} {nm : ByteArray} {vl vh al ah lo : Int} {F M : Value} {u : Value} {xs : List Int} {a : Option Addr} {ca : Nat} {w : World} (A : ArgS w u xs a ca) (na : a = none → ca = 0) (hx : xs.length ≤ 17592186044416) (hF : FitV B w F P) (hB : B ≤ w.heap.size) :
    Calls Tryz.prog 181 #[.agg #[.int .i64 n0, .string nm, .int .i64 vl, .int .i64 vh, .int .i64 al, .int .i64 ah, F, .int .i64 lo, M], u] w fun e w' => e = .returned (.bool (bndB xs && P xs)) ∧ Below w.heap.size w w' := by
  have HA := Lib.hid A
  have HFF := Lib.hid hF
  obtain ⟨F1, cap1, rfl, heF, hcF⟩ := id hF
  have HCF := Lib.hid hcF
  obtain rfl := A.is
  obtain ⟨t, ht⟩ : ∃ t, xs.any (fun x => !(decide (-2147483647 ≤ x ∧ x ≤ 2147483647))) = t := ⟨_, rfl⟩
  have htb : bndB xs = !t := by
    rw [← ht]
    unfold bndB
    rw [List.all_eq_not_any_not]
  have hbd : t = false → ∀ x ∈ xs, -2147483647 ≤ x ∧ x ≤ 2147483647 := fun h x hxm => by
    rw [h] at htb
    exact of_decide_eq_true (List.all_eq_true.1 htb x hxm)
  have HT := Lib.hid ht
  have HBD := Lib.hid hbd
  rw [htb]
  obtain ⟨W, hW⟩ : ∃ W, ((w.alloc (.cells #[.int .i64 n0, .string nm, .int .i64 vl, .int .i64 vh, .int .i64 al, .int .i64 ah, .func (.func F1) #[] cap1, .int .i64 lo, M] 181)).alloc (.cells #[.int .i64 (-2147483647), .int .i64 2147483647] 177)) = W := ⟨_, rfl⟩
  have R0 : Row W w.heap.size 181 #[.int .i64 n0, .string nm, .int .i64 vl, .int .i64 vh, .int .i64 al, .int .i64 ah, .func (.func F1) #[] cap1, .int .i64 lo, M] := by rw [← hW]; exact (Row.new _ _ _).alloc _
  have R1 : Row W (w.heap.size + 1) 177 #[.int .i64 (-2147483647), .int .i64 2147483647] := by rw [← hW]; have h := Row.new (w.alloc (.cells #[.int .i64 n0, .string nm, .int .i64 vl, .int .i64 vh, .int .i64 al, .int .i64 ah, .func (.func F1) #[] cap1, .int .i64 lo, M] 181)) 177 #[.int .i64 (-2147483647), .int .i64 2147483647]; (try simp only [World.size_alloc] at h); exact h
  have hbW : Below w.heap.size w W := by rw [← hW]; exact ((Below.refl _ _).alloc (by (try simp) <;> omega) _).alloc (by (try simp) <;> omega) _
  have hcon := containsI_any (w := W) (F := 223) (cap := #[.pointer (some ⟨w.heap.size + 1, 0, none⟩)]) (q := fun x => !(decide (-2147483647 ≤ x ∧ x ≤ 2147483647))) (HA.out.later hbW) hx (fun args w => enters_of Tryz.func223 (by kernel_rfl) rfl args w) (fun X x hX => takes1_any x (R1.later hX))
  rw [ht] at hcon
  have HCON := Lib.hid hcon
  clear hcF ht htb hbd hF A R1 hcon
  go_enter Tryz.func181, Tryz.ntmps181
  (try rw [hW])
  go_wp2_with fail
  (try rw [hW])
  clear hW
  refine (HCON.out).mono ?_
  rintro e y1 ⟨rfl, hy⟩
  have b1 : Below w.heap.size w y1 := hbW.trans (hy.mono hbW.size)
  have c6 := (R0.later hy).cell 6
  cases t with
  | true =>
    go_wp2_with fail
    go_ret
    exact ⟨rfl, b1⟩
  | false =>
    go_wp2_with fail
    refine (HCF.out y1 _ xs a ca (From.of b1) (HA.out.later b1) na hx (HBD.out (by first | rfl | trivial))).mono ?_
    rintro e y2 ⟨rfl, hy2⟩
    go_wp2_with fail
    go_ret
    refine ⟨?_, b1.trans (hy2.mono b1.size)⟩
    simp
end
section
open Go.RowKit
set_option linter.unusedVariables false
set_option linter.unusedSimpArgs false
set_option maxRecDepth 100000 in
set_option maxHeartbeats 4000000 in
theorem cloneI_any {u : Value} {xs : List Int} {ad : Option Addr} {cap : Nat} {w : World} (A : ArgS w u xs ad cap) (hn : ad = none → cap = 0) (hx : xs.length ≤ 17592186044416) :
    Calls Tryz.prog 95 #[u] w fun e w' => ∃ r, e = .returned r ∧ ResS w.heap.size w' r xs ∧ Below w.heap.size w w' := by
  obtain ⟨i0, hi, hz0, hz1, hz2⟩ := info_parts infoS
  have q22 : ∀ (w : World) (a : Option Addr) (n c n' c' : Nat), (binOp .eql 25 (.slice a n c) (.slice none n' c')).run Tryz.prog w = .ok (.bool a.isNone) w := fun w a n c n' c' => Lib.run_eql_slice_nil w _ _ a n c n' c' Tryz.underlying25
  have HW := Lib.hid A.wf
  obtain ⟨rfl, lx, hle, wx⟩ := A
  clear wx
  cases ad with
  | none =>
    have hc := hn rfl
    subst hc
    obtain rfl : xs = [] := List.eq_nil_of_length_eq_zero (by omega)
    clear lx hle hn hx
    go_enter Tryz.func95, Tryz.ntmps95
    go_wp2
    go_ret
    exact ⟨_, rfl, ResS.nil _ _, Below.refl _ _⟩
  | some a =>
    have HC := Lib.hid (cells_argS (cap := cap) (lx.later ((Below.refl w.heap.size w).alloc (Nat.le_refl _) (.cells #[] 3))))
    clear lx hn
    go_enter Tryz.func95, Tryz.ntmps95
    go_wp2_with (at_builtin; refine wpList_append_own _ rfl _ _ 25 rfl w.heap.size 3 i0 (.int .i64 0) 1 8 Tryz.underlying25 hi hz0 hz1 hz2 rfl (by decide) _ _ _ rfl (World.ownsRow_made w #[] 0 (Nat.le_refl _) (Nat.zero_le _) rfl) a xs.length cap (xs.map (Value.int .i64)) rfl ?qc1 HC.out (ints_oneCell _ _) ?qc4 ?qc5 ?qc6 ?_)
    case qc1 => simp
    case qc4 => unfold maxLen; omega
    case qc5 => omega
    case qc6 => simp
    intro v' w1 hown hgrow hnil
    go_wp2
    go_ret
    refine ⟨v', rfl, ⟨?_, HW.out⟩, ?_⟩
    · unfold NumS; simpa using hown
    · exact ((Below.refl _ w).alloc (Nat.le_refl _) _).grown hgrow (by simp) (by intro k hk; simp [Value.ownBlock] at hk; omega)
set_option maxRecDepth 100000 in
set_option maxHeartbeats 4000000 in
theorem firstRank_any {u : Value} {xs : List Int} {a : Option Addr} {ca : Nat} {w : World} (A : ArgS w u xs a ca) (hx : xs.length ≤ 17592186044416) : Calls Tryz.prog 182 #[u] w fun e w' => e = .returned (.int .i64 (rkI (xs.getD 0 0))) ∧ Below w.heap.size w w' := by
  have HA := Lib.hid A
  obtain rfl := A.is
  obtain ⟨c, hc⟩ : ∃ c, rkI (xs.getD 0 0) = c := ⟨_, rfl⟩
  rw [hc]
  have HC := Lib.hid hc
  obtain ⟨L, hL⟩ : ∃ L, xs.length = L := ⟨_, rfl⟩
  have HL := Lib.hid hL
  rw [hL] at hx ⊢
  obtain ⟨W, hW⟩ : ∃ W, w.alloc (.cells #[.int .i64 0, .int .i64 4] 177) = W := ⟨_, rfl⟩
  have R0 : Row W w.heap.size 177 #[.int .i64 0, .int .i64 4] := by rw [← hW]; exact Row.new _ _ _
  have hbW : Below w.heap.size w W := by rw [← hW]; exact (Below.refl _ _).alloc (Nat.le_refl _) _
  clear A hc hL
  by_cases h0 : L = 0
  · subst h0
    obtain rfl : c = 0 := by
      rw [← HC.out, List.eq_nil_of_length_eq_zero HL.out]
      rfl
    have B0 : Below w.heap.size w W.drew := hbW.drew
    go_enter Tryz.func182, Tryz.ntmps182
    (try rw [hW])
    go_wp2_with fail
    (try rw [hW])
    clear hW
    refine wp_region_held_drew (S := fun _ => True) (by kernel_rfl) trivial (fun hHeld => ?_)
    refine todo [0, 1, 2, 3, 4, 5, 6, 7, 8, 9, 10] ?_
    iterate 11
     first
     | (refine todoH (v := ?_) rfl (by kernel_rfl) (fun _ _ _ h => h) (by assumption) (Or.inl ⟨by rfl, ?_⟩) ?_
        rotate_left
        · intro w hSw; (try dsimp only at hSw); go_simp; (try with_reducible rfl)
        try simp only [Act.put, List.getElem_toArray, List.getElem_cons_succ, List.getElem_cons_zero, List.setIfInBounds_toArray, List.set_cons_zero, List.set_cons_succ])
     | (refine todoH (v := undef) rfl (by kernel_rfl) (fun _ _ _ h => h) (by assumption) (Or.inr ⟨by rfl, rfl⟩) ?_
        try simp only [Act.put, List.getElem_toArray, List.getElem_cons_succ, List.getElem_cons_zero, List.setIfInBounds_toArray, List.set_cons_zero, List.set_cons_succ])
    refine todone ?_
    refine wpAnyH_done (by kernel_rfl) ?_ _
    (try dsimp only [Straight])
    go_wp2_with fail
    go_ret
    exact ⟨rfl, B0⟩
  · have h0I : ((L : Int) == 0) = false := by simp; omega
    have hL0 : (0 : Int) < (L : Int) := by omega
    have hLn : 0 < L := by omega
    obtain ⟨b, o, rfl, hcell0⟩ := (HA.out.later hbW).at (i := 0) (by rw [HL.out]; omega)
    obtain ⟨x, hxe⟩ : ∃ x, xs.getD 0 0 = x := ⟨_, rfl⟩
    rw [hxe] at hcell0
    rw [Nat.add_zero] at hcell0
    have HXE := Lib.hid hxe
    have l1 := World.block_lt_of_cell? _ _ hcell0
    have MK := Lib.hid (show ∀ X, Below W.heap.size W X → X.cell? ⟨w.heap.size, 0, none⟩ = some (.int .i64 0) ∧ X.cell? ⟨w.heap.size, 1, none⟩ = some (.int .i64 4) ∧ X.cell? ⟨b, o, none⟩ = some (.int .i64 x) from fun X h => by
      obtain ⟨g0, g1, _⟩ := (R0.later h).two
      exact ⟨g0, g1, (h.cell l1).trans hcell0⟩)
    have B0 : Below W.heap.size W W.drew := (Below.refl _ _).drew
    obtain ⟨t, ht⟩ : ∃ t, hasB 0 4 x = t := ⟨_, rfl⟩
    have HT := Lib.hid ht
    clear hxe hcell0 l1 R0 ht
    go_enter Tryz.func182, Tryz.ntmps182
    (try rw [hW])
    go_wp2_with fail
    (try rw [hW])
    clear hW
    refine wp_region_held_drew (S := fun X => X.cell? ⟨w.heap.size, 0, none⟩ = some (.int .i64 0) ∧ X.cell? ⟨w.heap.size, 1, none⟩ = some (.int .i64 4) ∧ X.cell? ⟨b, o, none⟩ = some (.int .i64 x)) (by kernel_rfl) (MK.out _ B0) (fun hHeld => ?_)
    obtain ⟨y0, hdrh⟩ : ∃ Y, W.drew = Y := ⟨_, rfl⟩
    rw [hdrh] at B0 hHeld ⊢
    clear hdrh
    refine todo [0, 1, 2, 3, 4, 5, 6, 7] ?_
    iterate 8
     first
     | (refine todoH (v := ?_) rfl (by kernel_rfl) (fun _ _ _ h => h) (by assumption) (Or.inl ⟨by rfl, ?_⟩) ?_
        rotate_left
        · intro w hSw; (try dsimp only at hSw); go_simp; (try with_reducible rfl)
        try simp only [Act.put, List.getElem_toArray, List.getElem_cons_succ, List.getElem_cons_zero, List.setIfInBounds_toArray, List.set_cons_zero, List.set_cons_succ])
     | (refine todoH (v := undef) rfl (by kernel_rfl) (fun _ _ _ h => h) (by assumption) (Or.inr ⟨by rfl, rfl⟩) ?_
        try simp only [Act.put, List.getElem_toArray, List.getElem_cons_succ, List.getElem_cons_zero, List.setIfInBounds_toArray, List.set_cons_zero, List.set_cons_succ])
    refine todone ?_
    refine wpAnyH_ready (rs := [8]) (by kernel_rfl) (by simp) ?_
    refine AllReadyH.cons rfl (fun K hK => ?sh_8) AllReadyH.nil
    go_simp
    refine (has_any 0 4 x _).mono ?_
    rintro e y1 ⟨rfl, hy⟩
    have B1 : Below W.heap.size W y1 := B0.trans (hy.mono B0.size)
    have Dh1 := hy
    clear hy
    rw [HT.out]
    go_simp
    refine hK.out _ _ (MK.out _ B1) (fun hHeld2 => ?mh_8)
    clear hK K hHeld
    have hHeld := hHeld2
    clear hHeld2
    try simp only [Act.put, List.getElem_toArray, List.getElem_cons_succ, List.getElem_cons_zero, List.setIfInBounds_toArray, List.set_cons_zero, List.set_cons_succ]
    refine todo [9, 10] ?_
    iterate 2
     first
     | (refine todoH (v := ?_) rfl (by kernel_rfl) (fun _ _ _ h => h) (by assumption) (Or.inl ⟨by rfl, ?_⟩) ?_
        rotate_left
        · intro w hSw; (try dsimp only at hSw); go_simp; (try with_reducible rfl)
        try simp only [Act.put, List.getElem_toArray, List.getElem_cons_succ, List.getElem_cons_zero, List.setIfInBounds_toArray, List.set_cons_zero, List.set_cons_succ])
     | (refine todoH (v := undef) rfl (by kernel_rfl) (fun _ _ _ h => h) (by assumption) (Or.inr ⟨by rfl, rfl⟩) ?_
        try simp only [Act.put, List.getElem_toArray, List.getElem_cons_succ, List.getElem_cons_zero, List.setIfInBounds_toArray, List.set_cons_zero, List.set_cons_succ])
    refine todone ?_
    refine wpAnyH_done (by kernel_rfl) ?_ _
    (try dsimp only [Straight])
    have hbE : Below w.heap.size w y1 := hbW.trans (B1.mono hbW.size)
    obtain ⟨_, _, k2⟩ := MK.out _ B1
    cases t with
    | true =>
      obtain rfl : c = x := by rw [← HC.out, HXE.out]; unfold rkI; exact if_pos (of_decide_eq_true HT.out)
      go_wp2_with fail
      go_ret
      exact ⟨rfl, hbE⟩
    | false =>
      obtain rfl : c = 0 := by rw [← HC.out, HXE.out]; unfold rkI; exact if_neg (of_decide_eq_false HT.out)
      go_wp2_with fail
      go_ret
      exact ⟨rfl, hbE⟩
theorem chk8 {v o : Int} {n : Nat} {xs : List Int} (h : hasB 1 3 v = false) : chkO v o n xs = 8 := by
  unfold chkO
  exact if_pos (of_decide_eq_false h)
theorem chk9 {v o : Int} {n : Nat} {xs : List Int} (h : hasB 1 3 v = true) (h1 : verO o v = false) : chkO v o n xs = 9 := by
  unfold chkO
  rw [if_neg (fun k => k (of_decide_eq_true h)), if_pos h1]
theorem chk10 {v o : Int} {n : Nat} {xs : List Int} (h : hasB 1 3 v = true) (h1 : verO o v = true) (h2 : hasB (rowO o).al (rowO o).ah (n : Int) = false) : chkO v o n xs = 10 := by
  unfold chkO
  rw [if_neg (fun k => k (of_decide_eq_true h)), if_neg (by rw [h1]; simp), if_pos (of_decide_eq_false h2)]
theorem chk11 {v o : Int} {n : Nat} {xs : List Int} (h : hasB 1 3 v = true) (h1 : verO o v = true) (h2 : hasB (rowO o).al (rowO o).ah (n : Int) = true) (h3 : leaveB o v xs = false) (h4 : attB o xs = false) : chkO v o n xs = 11 := by
  unfold chkO
  rw [if_neg (fun k => k (of_decide_eq_true h)), if_neg (by rw [h1]; simp), if_neg (fun k => k (of_decide_eq_true h2)), if_pos ⟨h3, h4⟩]
theorem chk0 {v o : Int} {n : Nat} {xs : List Int} (h : hasB 1 3 v = true) (h1 : verO o v = true) (h2 : hasB (rowO o).al (rowO o).ah (n : Int) = true) (h3 : leaveB o v xs = true ∨ attB o xs = true) : chkO v o n xs = 0 := by
  unfold chkO
  rw [if_neg (fun k => k (of_decide_eq_true h)), if_neg (by rw [h1]; simp), if_neg (fun k => k (of_decide_eq_true h2)), if_neg]
  intro k
  rcases h3 with h3 | h3
  · rw [k.1] at h3; cases h3
  · rw [k.2] at h3; cases h3
/-- what validRow answers: any row, and that of the operation, if the code is 0 -/
def RowIf (B : Nat) (w : World) (o c : Int) (r : Array Value) : Prop := ∃ (n0 : Int) (nm : ByteArray) (vl vh al ah lo : Int) (F M : Value), r = #[.int .i64 n0, .string nm, .int .i64 vl, .int .i64 vh, .int .i64 al, .int .i64 ah, F, .int .i64 lo, M] ∧ F.oneCell' = true ∧ M.oneCell' = true ∧ (c = 0 → RowIs B w o r)
theorem rowIf_zero (B : Nat) (w : World) (o : Int) {c : Int} (h : c ≠ 0) : RowIf B w o c #[.int .i64 0, .string ⟨#[]⟩, .int .i64 0, .int .i64 0, .int .i64 0, .int .i64 0, .nilFunc, .int .i64 0, .nilFunc] := ⟨_, _, _, _, _, _, _, _, _, rfl, rfl, rfl, fun k => absurd k h⟩
set_option maxRecDepth 100000 in
set_option maxHeartbeats 40000000 in
theorem validRow_any (v : Int) {o : Int} {xs : List Int} {a1 a2 : Option Addr} {n1 c1 c2 : Nat} {w : World} (A : ArgS w (.slice a2 xs.length c2) xs a2 c2) (na : a2 = none → c2 = 0) (hx : xs.length ≤ 17592186044416) : Calls Tryz.prog 147 #[.int .i64 v, .agg #[.int .i64 o, .slice a1 n1 c1, .slice a2 xs.length c2]] w fun e w' => ∃ r, e = .returned (.tuple #[.agg r, .int .i64 (chkO v o n1 xs)]) ∧ RowIf w.heap.size w' o (chkO v o n1 xs) r ∧ Below w.heap.size w w' := by
  have HA := Lib.hid A
  obtain ⟨c, hc⟩ : ∃ c, chkO v o n1 xs = c := ⟨_, rfl⟩
  rw [hc]
  have HC := Lib.hid hc
  obtain ⟨okb, hok⟩ : ∃ b, inO o = b := ⟨_, rfl⟩
  have hro := fun w => rowOf_any o w
  rw [hok] at hro
  have HOK := Lib.hid hok
  obtain ⟨cv, hcv⟩ : ∃ b, hasB 1 3 v = b := ⟨_, rfl⟩
  have HCV := Lib.hid hcv
  obtain ⟨L, hL⟩ : ∃ L, xs.length = L := ⟨_, rfl⟩
  have HL := Lib.hid hL
  rw [hL] at hx ⊢
  obtain ⟨W, hW⟩ : ∃ W, ((w.alloc (.cells #[.int .i64 o, .slice a1 n1 c1, .slice a2 L c2] 46)).alloc (.cells #[.int .i64 0, .string ⟨#[]⟩, .int .i64 0, .int .i64 0, .int .i64 0, .int .i64 0, .nilFunc, .int .i64 0, .nilFunc] 181)) = W := ⟨_, rfl⟩
  have R0 : Row W w.heap.size 46 #[.int .i64 o, .slice a1 n1 c1, .slice a2 L c2] := by rw [← hW]; exact (Row.new _ _ _).alloc _
  have R1 : Row W (w.heap.size + 1) 181 #[.int .i64 0, .string ⟨#[]⟩, .int .i64 0, .int .i64 0, .int .i64 0, .int .i64 0, .nilFunc, .int .i64 0, .nilFunc] := by rw [← hW]; have h := Row.new (w.alloc (.cells #[.int .i64 o, .slice a1 n1 c1, .slice a2 L c2] 46)) 181 #[.int .i64 0, .string ⟨#[]⟩, .int .i64 0, .int .i64 0, .int .i64 0, .int .i64 0, .nilFunc, .int .i64 0, .nilFunc]; (try simp only [World.size_alloc] at h); exact h
  have hbW : Below w.heap.size w W := by rw [← hW]; exact ((Below.refl _ _).alloc (by (try simp) <;> omega) _).alloc (by (try simp) <;> omega) _
  have HSW := Lib.hid (show W.heap.size = w.heap.size + 1 + 1 by rw [← hW]; simp)
  have HZ := Lib.hid (show (#[.int .i64 0, .string ⟨#[]⟩, .int .i64 0, .int .i64 0, .int .i64 0, .int .i64 0, .nilFunc, .int .i64 0, .nilFunc] : Array Value).all (·.oneCell') = true by kernel_rfl)
  obtain ⟨k0, k1, k2, _, _, _⟩ := R0.three
  clear hc hok hcv hL A
  go_enter Tryz.func147, Tryz.ntmps147
  (try rw [hW])
  go_wp2_with fail
  (try rw [hW])
  clear hW
  refine (hro _).mono ?_
  rintro e y1 ⟨r, rfl, hr, hy⟩
  obtain ⟨n0, F, M, rfl, hF, hM, hin⟩ := id hr
  have HIN := Lib.hid hin
  have HONE := Lib.hid (rowIs_one (n0 := n0) (nm := (rowO o).name) (vl := (rowO o).vl) (vh := (rowO o).vh) (al := (rowO o).al) (ah := (rowO o).ah) (lo := (rowO o).lo) hF hM)
  have HR := Lib.hid hr
  clear hr hin
  obtain ⟨nm, hnm⟩ : ∃ s, (rowO o).name = s := ⟨_, rfl⟩
  obtain ⟨vl, hvl⟩ : ∃ s, (rowO o).vl = s := ⟨_, rfl⟩
  obtain ⟨vh, hvh⟩ : ∃ s, (rowO o).vh = s := ⟨_, rfl⟩
  obtain ⟨al, hal⟩ : ∃ s, (rowO o).al = s := ⟨_, rfl⟩
  obtain ⟨ah, hah⟩ : ∃ s, (rowO o).ah = s := ⟨_, rfl⟩
  obtain ⟨lo, hlo⟩ : ∃ s, (rowO o).lo = s := ⟨_, rfl⟩
  have HNM := Lib.hid hnm
  have HVL := Lib.hid hvl
  have HVH := Lib.hid hvh
  have HAL := Lib.hid hal
  have HAH := Lib.hid hah
  have HLO := Lib.hid hlo
  have HO2 := HONE.out
  have HRR := HR.out
  rw [hnm, hvl, hvh, hal, hah, hlo] at HO2 HRR
  rw [hnm, hvl, hvh, hal, hah, hlo]
  have HO3 := Lib.hid HO2
  have HR3 := Lib.hid HRR
  clear HO2 HRR hnm hvl hvh hal hah hlo
  obtain ⟨y2, hst⟩ : ∃ Y, (y1.alloc (.cells #[.int .i64 0, .string ⟨#[]⟩, .int .i64 0, .int .i64 0, .int .i64 0, .int .i64 0, .nilFunc, .int .i64 0, .nilFunc] 181)).setRow y1.heap.size #[.int .i64 n0, .string nm, .int .i64 vl, .int .i64 vh, .int .i64 al, .int .i64 ah, F, .int .i64 lo, M] = Y := ⟨_, rfl⟩
  have R : Row y2 y1.heap.size 181 #[.int .i64 n0, .string nm, .int .i64 vl, .int .i64 vh, .int .i64 al, .int .i64 ah, F, .int .i64 lo, M] := by rw [← hst]; exact (Row.new y1 181 #[.int .i64 0, .string ⟨#[]⟩, .int .i64 0, .int .i64 0, .int .i64 0, .int .i64 0, .nilFunc, .int .i64 0, .nilFunc]).setRow
  have hs01 : Below y1.heap.size y1 y2 := by rw [← hst]; exact below_setRow ((Below.refl _ _).alloc (Nat.le_refl _) _) (Nat.le_refl _)
  have B2 : Below W.heap.size W y2 := hy.trans (hs01.mono hy.size)
  have D2 : Below y1.heap.size y1 y2 := hs01
  have z0 := R.cell 0
  have z1 := R.cell 1
  have z2 := R.cell 2
  have z3 := R.cell 3
  have z4 := R.cell 4
  have z5 := R.cell 5
  have z6 := R.cell 6
  have z7 := R.cell 7
  have z8 := R.cell 8
  clear k0 k1 k2
  obtain ⟨k0, k1, k2, _, _, _⟩ := (R0.later B2).three
  clear hy
  go_wp2_with (refine wpList_store_row rfl 181 _ _ rfl y1.heap.size #[.int .i64 n0, .string nm, .int .i64 vl, .int .i64 vh, .int .i64 al, .int .i64 ah, F, .int .i64 lo, M] (by rfl) (by rfl) 181 #[.int .i64 0, .string ⟨#[]⟩, .int .i64 0, .int .i64 0, .int .i64 0, .int .i64 0, .nilFunc, .int .i64 0, .nilFunc] (Row.new _ _ _) (by kernel_rfl) rfl HO3.out ?_; rw [hst])
  clear hst hs01
  refine (allV_any _).mono ?_
  rintro e y3 ⟨rfl, hy⟩
  have B3 : Below W.heap.size W y3 := B2.trans (hy.mono B2.size)
  have D3 : Below y1.heap.size y1 y3 := D2.trans (hy.mono D2.size)
  replace R := R.later hy
  clear z0 z1 z2 z3 z4 z5 z6 z7 z8 hy
  have z0 := R.cell 0
  have z1 := R.cell 1
  have z2 := R.cell 2
  have z3 := R.cell 3
  have z4 := R.cell 4
  have z5 := R.cell 5
  have z6 := R.cell 6
  have z7 := R.cell 7
  have z8 := R.cell 8
  clear k0 k1 k2
  have N3 := R0.later B3
  obtain ⟨k0, k1, k2, _, _, _⟩ := N3.three
  go_wp2_with fail
  refine (has_any 1 3 v _).mono ?_
  rintro e y4 ⟨rfl, hy⟩
  have B4 : Below W.heap.size W y4 := B3.trans (hy.mono B3.size)
  have D4 : Below y1.heap.size y1 y4 := D3.trans (hy.mono D3.size)
  replace R := R.later hy
  clear z0 z1 z2 z3 z4 z5 z6 z7 z8 hy
  have z0 := R.cell 0
  have z1 := R.cell 1
  have z2 := R.cell 2
  have z3 := R.cell 3
  have z4 := R.cell 4
  have z5 := R.cell 5
  have z6 := R.cell 6
  have z7 := R.cell 7
  have z8 := R.cell 8
  clear k0 k1 k2
  have N4 := R0.later B4
  obtain ⟨k0, k1, k2, _, _, _⟩ := N4.three
  rw [HCV.out]
  cases cv with
  | false =>
    obtain rfl : c = 8 := by rw [← HC.out]; exact chk8 HCV.out
    have P3 := (R1.later B4).setRow (cs := #[.int .i64 0, .string ⟨#[]⟩, .int .i64 0, .int .i64 0, .int .i64 0, .int .i64 0, .nilFunc, .int .i64 0, .nilFunc])
    have f0 := P3.cell 0
    have f1 := P3.cell 1
    have f2 := P3.cell 2
    have f3 := P3.cell 3
    have f4 := P3.cell 4
    have f5 := P3.cell 5
    have f6 := P3.cell 6
    have f7 := P3.cell 7
    have f8 := P3.cell 8
    have HE := Lib.hid (below_setRow (cs := #[.int .i64 0, .string ⟨#[]⟩, .int .i64 0, .int .i64 0, .int .i64 0, .int .i64 0, .nilFunc, .int .i64 0, .nilFunc]) (hbW.trans (B4.mono hbW.size)) (show w.heap.size ≤ w.heap.size + 1 by omega))
    clear P3
    go_wp2_with (refine wpList_store_row rfl 181 _ _ rfl (w.heap.size + 1) #[.int .i64 0, .string ⟨#[]⟩, .int .i64 0, .int .i64 0, .int .i64 0, .int .i64 0, .nilFunc, .int .i64 0, .nilFunc] (by rfl) (by rfl) 181 #[.int .i64 0, .string ⟨#[]⟩, .int .i64 0, .int .i64 0, .int .i64 0, .int .i64 0, .nilFunc, .int .i64 0, .nilFunc] (R1.later B4) (by kernel_rfl) rfl HZ.out ?_)
    exact bodyPost_ret (v := .tuple #[.agg #[.int .i64 0, .string ⟨#[]⟩, .int .i64 0, .int .i64 0, .int .i64 0, .int .i64 0, .nilFunc, .int .i64 0, .nilFunc], .int .i64 8]) (by simp [results, Tryz.results147, go_sem, f0, f1, f2, f3, f4, f5, f6, f7, f8]) rfl ⟨_, rfl, rowIf_zero _ _ _ (by decide), HE.out⟩
  | true =>
    cases okb with
    | false =>
      obtain rfl : c = 9 := by rw [← HC.out]; exact chk9 HCV.out (by unfold verO; rw [HOK.out]; rfl)
      have P3 := (R1.later B4).setRow (cs := #[.int .i64 0, .string ⟨#[]⟩, .int .i64 0, .int .i64 0, .int .i64 0, .int .i64 0, .nilFunc, .int .i64 0, .nilFunc])
      have f0 := P3.cell 0
      have f1 := P3.cell 1
      have f2 := P3.cell 2
      have f3 := P3.cell 3
      have f4 := P3.cell 4
      have f5 := P3.cell 5
      have f6 := P3.cell 6
      have f7 := P3.cell 7
      have f8 := P3.cell 8
      have HE := Lib.hid (below_setRow (cs := #[.int .i64 0, .string ⟨#[]⟩, .int .i64 0, .int .i64 0, .int .i64 0, .int .i64 0, .nilFunc, .int .i64 0, .nilFunc]) (hbW.trans (B4.mono hbW.size)) (show w.heap.size ≤ w.heap.size + 1 by omega))
      clear P3
      go_wp2_with (refine wpList_store_row rfl 181 _ _ rfl (w.heap.size + 1) #[.int .i64 0, .string ⟨#[]⟩, .int .i64 0, .int .i64 0, .int .i64 0, .int .i64 0, .nilFunc, .int .i64 0, .nilFunc] (by rfl) (by rfl) 181 #[.int .i64 0, .string ⟨#[]⟩, .int .i64 0, .int .i64 0, .int .i64 0, .int .i64 0, .nilFunc, .int .i64 0, .nilFunc] (R1.later B4) (by kernel_rfl) rfl HZ.out ?_)
      exact bodyPost_ret (v := .tuple #[.agg #[.int .i64 0, .string ⟨#[]⟩, .int .i64 0, .int .i64 0, .int .i64 0, .int .i64 0, .nilFunc, .int .i64 0, .nilFunc], .int .i64 9]) (by simp [results, Tryz.results147, go_sem, f0, f1, f2, f3, f4, f5, f6, f7, f8]) rfl ⟨_, rfl, rowIf_zero _ _ _ (by decide), HE.out⟩
    | true =>
      obtain ⟨hv, hhv⟩ : ∃ b, hasB vl vh v = b := ⟨_, rfl⟩
      have hver : verO o v = hv := by
        rw [← hhv, ← HVL.out, ← HVH.out]
        unfold verO
        rw [HOK.out]
        rfl
      have HVER := Lib.hid hver
      have HHV := Lib.hid hhv
      clear hver hhv
      go_wp2_with fail
      refine (has_any vl vh v _).mono ?_
      rintro e y5 ⟨rfl, hy⟩
      have B5 : Below W.heap.size W y5 := B4.trans (hy.mono B4.size)
      have D5 : Below y1.heap.size y1 y5 := D4.trans (hy.mono D4.size)
      replace R := R.later hy
      clear z0 z1 z2 z3 z4 z5 z6 z7 z8 hy
      have z0 := R.cell 0
      have z1 := R.cell 1
      have z2 := R.cell 2
      have z3 := R.cell 3
      have z4 := R.cell 4
      have z5 := R.cell 5
      have z6 := R.cell 6
      have z7 := R.cell 7
      have z8 := R.cell 8
      clear k0 k1 k2
      have N5 := R0.later B5
      obtain ⟨k0, k1, k2, _, _, _⟩ := N5.three
      rw [HHV.out]
      cases hv with
      | false =>
        obtain rfl : c = 9 := by rw [← HC.out]; exact chk9 HCV.out HVER.out
        have P3 := (R1.later B5).setRow (cs := #[.int .i64 0, .string ⟨#[]⟩, .int .i64 0, .int .i64 0, .int .i64 0, .int .i64 0, .nilFunc, .int .i64 0, .nilFunc])
        have f0 := P3.cell 0
        have f1 := P3.cell 1
        have f2 := P3.cell 2
        have f3 := P3.cell 3
        have f4 := P3.cell 4
        have f5 := P3.cell 5
        have f6 := P3.cell 6
        have f7 := P3.cell 7
        have f8 := P3.cell 8
        have HE := Lib.hid (below_setRow (cs := #[.int .i64 0, .string ⟨#[]⟩, .int .i64 0, .int .i64 0, .int .i64 0, .int .i64 0, .nilFunc, .int .i64 0, .nilFunc]) (hbW.trans (B5.mono hbW.size)) (show w.heap.size ≤ w.heap.size + 1 by omega))
        clear P3
        go_wp2_with (refine wpList_store_row rfl 181 _ _ rfl (w.heap.size + 1) #[.int .i64 0, .string ⟨#[]⟩, .int .i64 0, .int .i64 0, .int .i64 0, .int .i64 0, .nilFunc, .int .i64 0, .nilFunc] (by rfl) (by rfl) 181 #[.int .i64 0, .string ⟨#[]⟩, .int .i64 0, .int .i64 0, .int .i64 0, .int .i64 0, .nilFunc, .int .i64 0, .nilFunc] (R1.later B5) (by kernel_rfl) rfl HZ.out ?_)
        exact bodyPost_ret (v := .tuple #[.agg #[.int .i64 0, .string ⟨#[]⟩, .int .i64 0, .int .i64 0, .int .i64 0, .int .i64 0, .nilFunc, .int .i64 0, .nilFunc], .int .i64 9]) (by simp [results, Tryz.results147, go_sem, f0, f1, f2, f3, f4, f5, f6, f7, f8]) rfl ⟨_, rfl, rowIf_zero _ _ _ (by decide), HE.out⟩
      | true =>
        obtain ⟨hn, hhn⟩ : ∃ b, hasB al ah (n1 : Int) = b := ⟨_, rfl⟩
        have HHN := Lib.hid hhn
        clear hhn
        go_wp2_with fail
        refine (has_any al ah (n1 : Int) _).mono ?_
        rintro e y6 ⟨rfl, hy⟩
        have B6 : Below W.heap.size W y6 := B5.trans (hy.mono B5.size)
        have D6 : Below y1.heap.size y1 y6 := D5.trans (hy.mono D5.size)
        replace R := R.later hy
        clear z0 z1 z2 z3 z4 z5 z6 z7 z8 hy
        have z0 := R.cell 0
        have z1 := R.cell 1
        have z2 := R.cell 2
        have z3 := R.cell 3
        have z4 := R.cell 4
        have z5 := R.cell 5
        have z6 := R.cell 6
        have z7 := R.cell 7
        have z8 := R.cell 8
        clear k0 k1 k2
        have N6 := R0.later B6
        obtain ⟨k0, k1, k2, _, _, _⟩ := N6.three
        rw [HHN.out]
        have hna : hasB (rowO o).al (rowO o).ah (n1 : Int) = hn := by rw [HAL.out, HAH.out, HHN.out]
        have HNA := Lib.hid hna
        clear hna
        cases hn with
        | false =>
          obtain rfl : c = 10 := by rw [← HC.out]; exact chk10 HCV.out HVER.out HNA.out
          have P3 := (R1.later B6).setRow (cs := #[.int .i64 0, .string ⟨#[]⟩, .int .i64 0, .int .i64 0, .int .i64 0, .int .i64 0, .nilFunc, .int .i64 0, .nilFunc])
          have f0 := P3.cell 0
          have f1 := P3.cell 1
          have f2 := P3.cell 2
          have f3 := P3.cell 3
          have f4 := P3.cell 4
          have f5 := P3.cell 5
          have f6 := P3.cell 6
          have f7 := P3.cell 7
          have f8 := P3.cell 8
          have HE := Lib.hid (below_setRow (cs := #[.int .i64 0, .string ⟨#[]⟩, .int .i64 0, .int .i64 0, .int .i64 0, .int .i64 0, .nilFunc, .int .i64 0, .nilFunc]) (hbW.trans (B6.mono hbW.size)) (show w.heap.size ≤ w.heap.size + 1 by omega))
          clear P3
          go_wp2_with (refine wpList_store_row rfl 181 _ _ rfl (w.heap.size + 1) #[.int .i64 0, .string ⟨#[]⟩, .int .i64 0, .int .i64 0, .int .i64 0, .int .i64 0, .nilFunc, .int .i64 0, .nilFunc] (by rfl) (by rfl) 181 #[.int .i64 0, .string ⟨#[]⟩, .int .i64 0, .int .i64 0, .int .i64 0, .int .i64 0, .nilFunc, .int .i64 0, .nilFunc] (R1.later B6) (by kernel_rfl) rfl HZ.out ?_)
          exact bodyPost_ret (v := .tuple #[.agg #[.int .i64 0, .string ⟨#[]⟩, .int .i64 0, .int .i64 0, .int .i64 0, .int .i64 0, .nilFunc, .int .i64 0, .nilFunc], .int .i64 10]) (by simp [results, Tryz.results147, go_sem, f0, f1, f2, f3, f4, f5, f6, f7, f8]) rfl ⟨_, rfl, rowIf_zero _ _ _ (by decide), HE.out⟩
        | true =>
          obtain ⟨lv, hlv⟩ : ∃ b, decide (L = 0 ∧ v ≤ lo) = b := ⟨_, rfl⟩
          have HLV := Lib.hid hlv
          have HLE := Lib.hid (show leaveB o v xs = lv by unfold leaveB; rw [HL.out, HLO.out]; exact hlv)
          clear hlv
          go_wp2_with fail
          refine (leaves_any v _).mono ?_
          rintro e y7 ⟨rfl, hy⟩
          have B7 : Below W.heap.size W y7 := B6.trans (hy.mono B6.size)
          have D7 : Below y1.heap.size y1 y7 := D6.trans (hy.mono D6.size)
          replace R := R.later hy
          clear z0 z1 z2 z3 z4 z5 z6 z7 z8 hy
          have z0 := R.cell 0
          have z1 := R.cell 1
          have z2 := R.cell 2
          have z3 := R.cell 3
          have z4 := R.cell 4
          have z5 := R.cell 5
          have z6 := R.cell 6
          have z7 := R.cell 7
          have z8 := R.cell 8
          clear k0 k1 k2
          have N7 := R0.later B7
          obtain ⟨k0, k1, k2, _, _, _⟩ := N7.three
          rw [HLV.out]
          cases lv with
          | true =>
            obtain rfl : c = 0 := by rw [← HC.out]; exact chk0 HCV.out HVER.out HNA.out (.inl HLE.out)
            have P3 := (R1.later B7).setRow (cs := #[.int .i64 n0, .string nm, .int .i64 vl, .int .i64 vh, .int .i64 al, .int .i64 ah, F, .int .i64 lo, M])
            have f0 := P3.cell 0
            have f1 := P3.cell 1
            have f2 := P3.cell 2
            have f3 := P3.cell 3
            have f4 := P3.cell 4
            have f5 := P3.cell 5
            have f6 := P3.cell 6
            have f7 := P3.cell 7
            have f8 := P3.cell 8
            have HE := Lib.hid (below_setRow (cs := #[.int .i64 n0, .string nm, .int .i64 vl, .int .i64 vh, .int .i64 al, .int .i64 ah, F, .int .i64 lo, M]) (hbW.trans (B7.mono hbW.size)) (show w.heap.size ≤ w.heap.size + 1 by omega))
            have hFr : From W.heap.size y1 (y7.setRow (w.heap.size + 1) #[.int .i64 n0, .string nm, .int .i64 vl, .int .i64 vh, .int .i64 al, .int .i64 ah, F, .int .i64 lo, M]) := (From.of D7).setRow (by rw [HSW.out]; omega)
            have HFR := Lib.hid hFr
            clear hFr
            clear P3
            go_wp2_with (refine wpList_store_row rfl 181 _ _ rfl (w.heap.size + 1) #[.int .i64 n0, .string nm, .int .i64 vl, .int .i64 vh, .int .i64 al, .int .i64 ah, F, .int .i64 lo, M] (by rfl) (by rfl) 181 #[.int .i64 0, .string ⟨#[]⟩, .int .i64 0, .int .i64 0, .int .i64 0, .int .i64 0, .nilFunc, .int .i64 0, .nilFunc] (R1.later B7) (by kernel_rfl) rfl HO3.out ?_)
            exact bodyPost_ret (v := .tuple #[.agg #[.int .i64 n0, .string nm, .int .i64 vl, .int .i64 vh, .int .i64 al, .int .i64 ah, F, .int .i64 lo, M], .int .i64 0]) (by simp [results, Tryz.results147, go_sem, f0, f1, f2, f3, f4, f5, f6, f7, f8]) rfl ⟨_, rfl, ⟨_, _, _, _, _, _, _, _, _, rfl, hF, hM, fun _ => (HR3.out.later HFR.out).mono (by rw [HSW.out]; omega)⟩, HE.out⟩
          | false =>
            obtain ⟨hi1, hi2, _⟩ := HIN.out HOK.out
            have hAX := HA.out.later (hbW.trans (B7.mono hbW.size))
            have hfit := hi2.later (From.of D7)
            have htk := takes_any (n0 := n0) (nm := nm) (vl := vl) (vh := vh) (al := al) (ah := ah) (lo := lo) (M := M) hAX na (by rw [HL.out]; exact hx) hfit (by exact Nat.le_trans (Nat.le_refl _) B7.size)
            rw [HL.out] at htk
            obtain ⟨tv, htv⟩ : ∃ b, (bndB xs && fitO o xs) = b := ⟨_, rfl⟩
            rw [htv] at htk
            have HTV := Lib.hid (show attB o xs = tv from htv)
            have HTK := Lib.hid htk
            clear htk htv hi1 hi2 hAX hfit
            go_wp2_with fail
            refine (HTK.out).mono ?_
            rintro e y8 ⟨rfl, hy⟩
            have B8 : Below W.heap.size W y8 := B7.trans (hy.mono B7.size)
            have D8 : Below y1.heap.size y1 y8 := D7.trans (hy.mono D7.size)
            replace R := R.later hy
            clear z0 z1 z2 z3 z4 z5 z6 z7 z8 hy
            have z0 := R.cell 0
            have z1 := R.cell 1
            have z2 := R.cell 2
            have z3 := R.cell 3
            have z4 := R.cell 4
            have z5 := R.cell 5
            have z6 := R.cell 6
            have z7 := R.cell 7
            have z8 := R.cell 8
            clear k0 k1 k2
            have N8 := R0.later B8
            obtain ⟨k0, k1, k2, _, _, _⟩ := N8.three
            cases tv with
            | false =>
              obtain rfl : c = 11 := by rw [← HC.out]; exact chk11 HCV.out HVER.out HNA.out HLE.out HTV.out
              have P3 := (R1.later B8).setRow (cs := #[.int .i64 0, .string ⟨#[]⟩, .int .i64 0, .int .i64 0, .int .i64 0, .int .i64 0, .nilFunc, .int .i64 0, .nilFunc])
              have f0 := P3.cell 0
              have f1 := P3.cell 1
              have f2 := P3.cell 2
              have f3 := P3.cell 3
              have f4 := P3.cell 4
              have f5 := P3.cell 5
              have f6 := P3.cell 6
              have f7 := P3.cell 7
              have f8 := P3.cell 8
              have HE := Lib.hid (below_setRow (cs := #[.int .i64 0, .string ⟨#[]⟩, .int .i64 0, .int .i64 0, .int .i64 0, .int .i64 0, .nilFunc, .int .i64 0, .nilFunc]) (hbW.trans (B8.mono hbW.size)) (show w.heap.size ≤ w.heap.size + 1 by omega))
              clear P3
              go_wp2_with (refine wpList_store_row rfl 181 _ _ rfl (w.heap.size + 1) #[.int .i64 0, .string ⟨#[]⟩, .int .i64 0, .int .i64 0, .int .i64 0, .int .i64 0, .nilFunc, .int .i64 0, .nilFunc] (by rfl) (by rfl) 181 #[.int .i64 0, .string ⟨#[]⟩, .int .i64 0, .int .i64 0, .int .i64 0, .int .i64 0, .nilFunc, .int .i64 0, .nilFunc] (R1.later B8) (by kernel_rfl) rfl HZ.out ?_)
              exact bodyPost_ret (v := .tuple #[.agg #[.int .i64 0, .string ⟨#[]⟩, .int .i64 0, .int .i64 0, .int .i64 0, .int .i64 0, .nilFunc, .int .i64 0, .nilFunc], .int .i64 11]) (by simp [results, Tryz.results147, go_sem, f0, f1, f2, f3, f4, f5, f6, f7, f8]) rfl ⟨_, rfl, rowIf_zero _ _ _ (by decide), HE.out⟩
            | true =>
              obtain rfl : c = 0 := by rw [← HC.out]; exact chk0 HCV.out HVER.out HNA.out (.inr HTV.out)
              have P3 := (R1.later B8).setRow (cs := #[.int .i64 n0, .string nm, .int .i64 vl, .int .i64 vh, .int .i64 al, .int .i64 ah, F, .int .i64 lo, M])
              have f0 := P3.cell 0
              have f1 := P3.cell 1
              have f2 := P3.cell 2
              have f3 := P3.cell 3
              have f4 := P3.cell 4
              have f5 := P3.cell 5
              have f6 := P3.cell 6
              have f7 := P3.cell 7
              have f8 := P3.cell 8
              have HE := Lib.hid (below_setRow (cs := #[.int .i64 n0, .string nm, .int .i64 vl, .int .i64 vh, .int .i64 al, .int .i64 ah, F, .int .i64 lo, M]) (hbW.trans (B8.mono hbW.size)) (show w.heap.size ≤ w.heap.size + 1 by omega))
              have hFr : From W.heap.size y1 (y8.setRow (w.heap.size + 1) #[.int .i64 n0, .string nm, .int .i64 vl, .int .i64 vh, .int .i64 al, .int .i64 ah, F, .int .i64 lo, M]) := (From.of D8).setRow (by rw [HSW.out]; omega)
              have HFR := Lib.hid hFr
              clear hFr
              clear P3
              go_wp2_with (refine wpList_store_row rfl 181 _ _ rfl (w.heap.size + 1) #[.int .i64 n0, .string nm, .int .i64 vl, .int .i64 vh, .int .i64 al, .int .i64 ah, F, .int .i64 lo, M] (by rfl) (by rfl) 181 #[.int .i64 0, .string ⟨#[]⟩, .int .i64 0, .int .i64 0, .int .i64 0, .int .i64 0, .nilFunc, .int .i64 0, .nilFunc] (R1.later B8) (by kernel_rfl) rfl HO3.out ?_)
              exact bodyPost_ret (v := .tuple #[.agg #[.int .i64 n0, .string nm, .int .i64 vl, .int .i64 vh, .int .i64 al, .int .i64 ah, F, .int .i64 lo, M], .int .i64 0]) (by simp [results, Tryz.results147, go_sem, f0, f1, f2, f3, f4, f5, f6, f7, f8]) rfl ⟨_, rfl, ⟨_, _, _, _, _, _, _, _, _, rfl, hF, hM, fun _ => (HR3.out.later HFR.out).mono (by rw [HSW.out]; omega)⟩, HE.out⟩
end
end Go.Proofs.YtjgiacghlkkjfaaGreatDoor
