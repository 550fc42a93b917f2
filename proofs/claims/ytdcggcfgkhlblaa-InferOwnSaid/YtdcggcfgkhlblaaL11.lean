/-
  Part 11 of 21: contracts and what they rest on (OCode7, OCode9, OCodeT).
-/
import Derived.Test.YtdcggcfgkhlblaaL1
import Derived.Test.YtdcggcfgkhlblaaL2
import Derived.Test.YtdcggcfgkhlblaaL3
import Derived.Test.YtdcggcfgkhlblaaL5
import Derived.Test.YtdcggcfgkhlblaaL6
import Derived.Test.YtdcggcfgkhlblaaL8
import Derived.WalkKit
import Derived.Test.YtdcggcfgkhlblaaRows
import Derived.OrdersHeld
import Derived.Deep.RegionHeld
import Derived.BigQuiet
import Derived.Deep.QuietTactic
import Derived.Lib.Hide
import Derived.Lib.Small
import Derived.Lib.Walk
import Derived.Lib.BitFns
import Derived.Maps.AppendAt
import Derived.RangeFuncNested
import Derived.RangeFuncBound
import Derived.RangeFuncCalls
import Derived.RangeFuncLeaves
import Derived.Shelf.Abstract
import Derived.OwnWalkIn
import Derived.TacticsInMore
import Derived.LoopNIn
import Derived.LoopIn
import Derived.RangeFuncBox
import Derived.Deep.RegionHeld3
import Derived.OrdersIn
import Derived.StillTailTactics
import Derived.RangeFuncFrom
import Derived.Laws.EntriesVeiled
import Derived.ProofKit
import Derived.OpenShut
import Derived.JoinedCond
import Derived.Carry
import Derived.Laws.AppendOwnNone
import Derived.Lib.ItoaNum
import Derived.Deep.RegionLaw
import Derived.WalkMore
import Derived.Lib.SmallJoins
import Derived.IntWalk
import Derived.Deep.DeepCutAuto
import Derived.Laws.OwnMore
import Derived.ArgAppend
import Derived.Deep.Slices
import Derived.Laws.CopyOwn
import Derived.Lib.SliceRun
import Derived.SizedLaws
import Derived.Great.BuildSlice
namespace Go.Proofs.Ytdcggcfgkhlblaa
set_option maxRecDepth 100000
section
open Go.RowKit
set_option linter.unusedVariables false
set_option linter.unusedSimpArgs false
/-- the row of an operation, in memory -/
def RowIs (B : Nat) (w : World) (o : Int) (r : Array Value) : Prop := ∃ (n0 : Int) (F M : Value), r = #[.int .i64 n0, .string (rowO o).name, .int .i64 (rowO o).vl, .int .i64 (rowO o).vh, .int .i64 (rowO o).al, .int .i64 (rowO o).ah, F, .int .i64 (rowO o).lo, M] ∧ F.oneCell' = true ∧ M.oneCell' = true ∧ (inO o = true → n0 = o ∧ FitV B w F (fitO o) ∧ (1 ≤ (rowO o).lo → MeanV B w M (meantO o)))
theorem RowIs.later {B : Nat} {w w' : World} {o : Int} {r : Array Value} (h : RowIs B w o r) (hb : From B w w') : RowIs B w' o r := by
  obtain ⟨n0, F, M, h1, h2, h3, h4⟩ := h
  exact ⟨n0, F, M, h1, h2, h3, fun h => ⟨(h4 h).1, (h4 h).2.1.later hb, fun hl => ((h4 h).2.2 hl).later hb⟩⟩
theorem RowIs.mono {B B' : Nat} {w : World} {o : Int} {r : Array Value} (h : RowIs B w o r) (hb : B' ≤ B) : RowIs B' w o r := by
  obtain ⟨n0, F, M, h1, h2, h3, h4⟩ := h
  exact ⟨n0, F, M, h1, h2, h3, fun h => ⟨(h4 h).1, (h4 h).2.1.mono hb, fun hl => ((h4 h).2.2 hl).mono hb⟩⟩
theorem Found.row {B : Nat} {w : World} {o : Int} {r : Array Value} {ok : Bool} (h : Found B w (fun k => decide ((k : Int) + 1 = o)) r ok) : ok = inO o ∧ RowIs B w o r := by
  rcases h with ⟨h0, k, F, M, h1, h2, h3, hM, h4, h5⟩ | ⟨h0, h1, h2⟩
  · have h6 := of_decide_eq_true h2
    subst h6
    obtain ⟨i1, _⟩ := rowO_nat h1
    exact ⟨by rw [h0, i1], _, F, M, h3, h4.one, hM, fun _ => ⟨rfl, h4, h5⟩⟩
  · have hno : inO o = false := by
      cases hi : inO o with
      | false => rfl
      | true =>
        obtain ⟨k, hk, rfl⟩ := inO_nat hi
        have := h1 k hk
        simp at this
    refine ⟨by rw [h0, hno], 0, .nilFunc, .nilFunc, ?_, rfl, rfl, fun h => by rw [hno] at h; cases h⟩
    rw [h2, rowO_out hno]
    rfl
theorem rowIs_one {n0 : Int} {nm : ByteArray} {vl vh al ah lo : Int} {F M : Value} (hF : F.oneCell' = true) (hM : M.oneCell' = true) : (#[.int .i64 n0, .string nm, .int .i64 vl, .int .i64 vh, .int .i64 al, .int .i64 ah, F, .int .i64 lo, M] : Array Value).all (·.oneCell') = true := by
  have e1 : ∀ n : Int, (Value.int .i64 n).oneCell' = true := fun _ => rfl
  have e2 : ∀ s : ByteArray, (Value.string s).oneCell' = true := fun _ => rfl
  simp [hF, hM, e1, e2]
set_option maxRecDepth 100000 in
set_option maxHeartbeats 4000000 in
theorem rowOf1_any {w : World} {k g : Nat} {G M : Value} {o : Int} (R : Row w g 22 #[.int .i64 o]) :
    Calls Try.prog 72 #[.agg (rowC k G M), .pointer (some ⟨g, 0, none⟩)] w fun e w' => e = .returned (.bool (decide ((k : Int) + 1 = o))) ∧ Below w.heap.size w w' := by
  obtain ⟨n0, s1, n2, n3, n4, n5, n7, hn, hv⟩ : ∃ (n0 : Int) (s1 : ByteArray) (n2 n3 n4 n5 n7 : Int), (k : Int) + 1 = n0 ∧ rowC k G M = #[.int .i64 n0, .string s1, .int .i64 n2, .int .i64 n3, .int .i64 n4, .int .i64 n5, G, .int .i64 n7, M] := ⟨_, _, _, _, _, _, _, rfl, rfl⟩
  rw [hn, hv]
  obtain ⟨W, hW⟩ : ∃ W, w.alloc (.cells #[.int .i64 n0, .string s1, .int .i64 n2, .int .i64 n3, .int .i64 n4, .int .i64 n5, G, .int .i64 n7, M] 66) = W := ⟨_, rfl⟩
  have R0 : Row W w.heap.size 66 #[.int .i64 n0, .string s1, .int .i64 n2, .int .i64 n3, .int .i64 n4, .int .i64 n5, G, .int .i64 n7, M] := by rw [← hW]; exact Row.new _ _ _
  have hb : Below w.heap.size w W := by rw [← hW]; exact (Below.refl _ _).alloc (Nat.le_refl _) _
  have c0 := R0.cell 0
  have d0 := (R.later hb).cell 0
  clear hn hv R R0
  go_enter Try.func72, Try.ntmps72
  (try rw [hW])
  go_wp2_with fail
  go_ret
  refine ⟨?_, hb⟩
  first | rfl | (congr 1)
set_option maxRecDepth 100000 in
set_option maxHeartbeats 4000000 in
theorem rowOf_any (o : Int) (w : World) : Calls Try.prog 59 #[.int .i64 o] w fun e w' => ∃ r, e = .returned (.tuple #[.agg r, .bool (inO o)]) ∧ RowIs w.heap.size w' o r ∧ Below w.heap.size w w' := by
  obtain ⟨okb, hok⟩ : ∃ b, inO o = b := ⟨_, rfl⟩
  rw [hok]
  have HOK := Lib.hid hok
  clear hok
  obtain ⟨W, hW⟩ : ∃ W, ((w.alloc (.cells #[.int .i64 o] 22)).alloc (.cells #[.int .i64 0, .string ⟨#[]⟩, .int .i64 0, .int .i64 0, .int .i64 0, .int .i64 0, .nilFunc, .int .i64 0, .nilFunc] 66)) = W := ⟨_, rfl⟩
  have R0 : Row W w.heap.size 22 #[.int .i64 o] := by rw [← hW]; exact (Row.new _ _ _).alloc _
  have R1 : Row W (w.heap.size + 1) 66 #[.int .i64 0, .string ⟨#[]⟩, .int .i64 0, .int .i64 0, .int .i64 0, .int .i64 0, .nilFunc, .int .i64 0, .nilFunc] := by rw [← hW]; have h := Row.new (w.alloc (.cells #[.int .i64 o] 22)) 66 #[.int .i64 0, .string ⟨#[]⟩, .int .i64 0, .int .i64 0, .int .i64 0, .int .i64 0, .nilFunc, .int .i64 0, .nilFunc]; (try simp only [World.size_alloc] at h); exact h
  have hbW : Below w.heap.size w W := by rw [← hW]; exact ((Below.refl _ _).alloc (by (try simp) <;> omega) _).alloc (by (try simp) <;> omega) _
  have hsW : W.heap.size = w.heap.size + 1 + 1 := by rw [← hW]; simp
  have HSW := Lib.hid hsW
  clear hsW
  go_enter Try.func59, Try.ntmps59
  (try rw [hW])
  go_wp2_with fail
  (try rw [hW])
  clear hW
  refine (find_any (F := 72) (cap := #[.pointer (some ⟨w.heap.size, 0, none⟩)]) (p := fun k => decide ((k : Int) + 1 = o)) (fun args w => enters_of Try.func72 (by kernel_rfl) rfl args w) (fun X k G M hk hX => rowOf1_any (R0.later hX))).mono ?_
  rintro e y1 ⟨r, ok, rfl, hf, hy⟩
  obtain ⟨hok2, hr⟩ := hf.row
  rw [HOK.out] at hok2
  subst hok2
  obtain ⟨n0, F, M, rfl, hF, hM, hin⟩ := id hr
  have b1 : Below w.heap.size w y1 := hbW.trans (hy.mono hbW.size)
  have R2 := R1.later hy
  have HR := Lib.hid hr
  have HONE := Lib.hid (rowIs_one (n0 := n0) (nm := (rowO o).name) (vl := (rowO o).vl) (vh := (rowO o).vh) (al := (rowO o).al) (ah := (rowO o).ah) (lo := (rowO o).lo) hF hM)
  obtain ⟨nm, hnm⟩ : ∃ s, (rowO o).name = s := ⟨_, rfl⟩
  obtain ⟨vl, hvl⟩ : ∃ s, (rowO o).vl = s := ⟨_, rfl⟩
  obtain ⟨vh, hvh⟩ : ∃ s, (rowO o).vh = s := ⟨_, rfl⟩
  obtain ⟨al, hal⟩ : ∃ s, (rowO o).al = s := ⟨_, rfl⟩
  obtain ⟨ah, hah⟩ : ∃ s, (rowO o).ah = s := ⟨_, rfl⟩
  obtain ⟨lo, hlo⟩ : ∃ s, (rowO o).lo = s := ⟨_, rfl⟩
  have HNM := Lib.hid hnm
  have HVL := Lib.hid hvl
  have HVH := Lib.hid hvh
  have HAL := Lib.hid hal
  have HAH := Lib.hid hah
  have HLO := Lib.hid hlo
  rw [hnm, hvl, hvh, hal, hah, hlo] at hr ⊢
  have HONE2 := HONE.out
  rw [hnm, hvl, hvh, hal, hah, hlo] at HONE2
  have HO2 := Lib.hid HONE2
  have HRR := HR.out
  rw [hnm, hvl, hvh, hal, hah, hlo] at HRR
  have HR2 := Lib.hid HRR
  have P3 := R2.setRow (cs := #[.int .i64 n0, .string nm, .int .i64 vl, .int .i64 vh, .int .i64 al, .int .i64 ah, F, .int .i64 lo, M])
  have z0 := P3.cell 0
  have z1 := P3.cell 1
  have z2 := P3.cell 2
  have z3 := P3.cell 3
  have z4 := P3.cell 4
  have z5 := P3.cell 5
  have z6 := P3.cell 6
  have z7 := P3.cell 7
  have z8 := P3.cell 8
  have HE := Lib.hid (below_setRow (cs := #[.int .i64 n0, .string nm, .int .i64 vl, .int .i64 vh, .int .i64 al, .int .i64 ah, F, .int .i64 lo, M]) b1 (show w.heap.size ≤ w.heap.size + 1 by omega))
  have hFr : From W.heap.size y1 (y1.setRow (w.heap.size + 1) #[.int .i64 n0, .string nm, .int .i64 vl, .int .i64 vh, .int .i64 al, .int .i64 ah, F, .int .i64 lo, M]) := (From.of (Below.refl _ _)).setRow (by rw [HSW.out]; omega)
  have HFR := Lib.hid hFr
  clear hf hr hin hFr P3 HONE2 HRR hnm hvl hvh hal hah hlo hy
  go_wp2_with (refine wpList_store_row rfl 66 _ _ rfl (w.heap.size + 1) #[.int .i64 n0, .string nm, .int .i64 vl, .int .i64 vh, .int .i64 al, .int .i64 ah, F, .int .i64 lo, M] (by rfl) (by rfl) 66 #[.int .i64 0, .string ⟨#[]⟩, .int .i64 0, .int .i64 0, .int .i64 0, .int .i64 0, .nilFunc, .int .i64 0, .nilFunc] R2 (by kernel_rfl) rfl HO2.out ?_)
  exact bodyPost_ret (v := .tuple #[.agg #[.int .i64 n0, .string nm, .int .i64 vl, .int .i64 vh, .int .i64 al, .int .i64 ah, F, .int .i64 lo, M], .bool ok]) (by simp [results, Try.results59, go_sem, z0, z1, z2, z3, z4, z5, z6, z7, z8]) rfl ⟨_, rfl, (HR2.out.later HFR.out).mono (by rw [HSW.out]; omega), HE.out⟩
end
section
open Go.RowKit
set_option linter.unusedVariables false
set_option linter.unusedSimpArgs false
set_option maxRecDepth 100000 in
set_option maxHeartbeats 4000000 in
theorem cloneI_any {u : Value} {xs : List Int} {ad : Option Addr} {cap : Nat} {w : World} (A : ArgS w u xs ad cap) (hn : ad = none → cap = 0) (hx : xs.length ≤ 17592186044416) :
    Calls Try.prog 38 #[u] w fun e w' => ∃ r, e = .returned r ∧ ResS w.heap.size w' r xs ∧ Below w.heap.size w w' := by
  obtain ⟨i0, hi, hz0, hz1, hz2⟩ := info_parts infoS
  have q22 : ∀ (w : World) (a : Option Addr) (n c n' c' : Nat), (binOp .eql 23 (.slice a n c) (.slice none n' c')).run Try.prog w = .ok (.bool a.isNone) w := fun w a n c n' c' => Lib.run_eql_slice_nil w _ _ a n c n' c' Try.underlying23
  have HW := Lib.hid A.wf
  obtain ⟨rfl, lx, hle, wx⟩ := A
  clear wx
  cases ad with
  | none =>
    have hc := hn rfl
    subst hc
    obtain rfl : xs = [] := List.eq_nil_of_length_eq_zero (by omega)
    clear lx hle hn hx
    go_enter Try.func38, Try.ntmps38
    go_wp2
    go_ret
    exact ⟨_, rfl, ResS.nil _ _, Below.refl _ _⟩
  | some a =>
    have HC := Lib.hid (cells_argS (cap := cap) (lx.later ((Below.refl w.heap.size w).alloc (Nat.le_refl _) (.cells #[] 3))))
    clear lx hn
    go_enter Try.func38, Try.ntmps38
    go_wp2_with (at_builtin; refine wpList_append_own _ rfl _ _ 23 rfl w.heap.size 3 i0 (.int .i64 0) 1 8 Try.underlying23 hi hz0 hz1 hz2 rfl (by decide) _ _ _ rfl (World.ownsRow_made w #[] 0 (Nat.le_refl _) (Nat.zero_le _) rfl) a xs.length cap (xs.map (Value.int .i64)) rfl ?qc1 HC.out (ints_oneCell _ _) ?qc4 ?qc5 ?qc6 ?_)
    case qc1 => simp
    case qc4 => unfold maxLen; omega
    case qc5 => omega
    case qc6 => simp
    intro v' w1 hown hgrow hnil
    go_wp2
    go_ret
    refine ⟨v', rfl, ⟨?_, HW.out⟩, ?_⟩
    · unfold NumS; simpa using hown
    · exact ((Below.refl _ w).alloc (Nat.le_refl _) _).grown hgrow (by simp) (by intro k hk; simp [Value.ownBlock] at hk; omega)
set_option maxRecDepth 100000 in
set_option maxHeartbeats 4000000 in
theorem firstRank_any {u : Value} {xs : List Int} {a : Option Addr} {ca : Nat} {w : World} (A : ArgS w u xs a ca) (hx : xs.length ≤ 17592186044416) : Calls Try.prog 37 #[u] w fun e w' => e = .returned (.int .i64 (rkI (xs.getD 0 0))) ∧ Below w.heap.size w w' := by
  have HA := Lib.hid A
  obtain rfl := A.is
  obtain ⟨c, hc⟩ : ∃ c, rkI (xs.getD 0 0) = c := ⟨_, rfl⟩
  rw [hc]
  have HC := Lib.hid hc
  obtain ⟨L, hL⟩ : ∃ L, xs.length = L := ⟨_, rfl⟩
  have HL := Lib.hid hL
  rw [hL] at hx ⊢
  obtain ⟨W, hW⟩ : ∃ W, w.alloc (.cells #[.int .i64 0, .int .i64 4] 62) = W := ⟨_, rfl⟩
  have R0 : Row W w.heap.size 62 #[.int .i64 0, .int .i64 4] := by rw [← hW]; exact Row.new _ _ _
  have hbW : Below w.heap.size w W := by rw [← hW]; exact (Below.refl _ _).alloc (Nat.le_refl _) _
  clear A hc hL
  by_cases h0 : L = 0
  · subst h0
    obtain rfl : c = 0 := by
      rw [← HC.out, List.eq_nil_of_length_eq_zero HL.out]
      rfl
    have B0 : Below w.heap.size w W.drew := hbW.drew
    go_enter Try.func37, Try.ntmps37
    (try rw [hW])
    go_wp2_with fail
    (try rw [hW])
    clear hW
    refine wp_region_held_drew (S := fun _ => True) (by kernel_rfl) trivial (fun hHeld => ?_)
    refine todo [0, 1, 2, 3, 4, 5, 6, 7, 8, 9, 10] ?_
    iterate 11
     first
     | (refine todoH (v := ?_) rfl (by kernel_rfl) (fun _ _ _ h => h) (by assumption) (Or.inl ⟨by rfl, ?_⟩) ?_
        rotate_left
        · intro w hSw; (try dsimp only at hSw); go_simp; (try with_reducible rfl)
        try simp only [Act.put, List.getElem_toArray, List.getElem_cons_succ, List.getElem_cons_zero, List.setIfInBounds_toArray, List.set_cons_zero, List.set_cons_succ])
     | (refine todoH (v := undef) rfl (by kernel_rfl) (fun _ _ _ h => h) (by assumption) (Or.inr ⟨by rfl, rfl⟩) ?_
        try simp only [Act.put, List.getElem_toArray, List.getElem_cons_succ, List.getElem_cons_zero, List.setIfInBounds_toArray, List.set_cons_zero, List.set_cons_succ])
    refine todone ?_
    refine wpAnyH_done (by kernel_rfl) ?_ _
    (try dsimp only [Straight])
    go_wp2_with fail
    go_ret
    exact ⟨rfl, B0⟩
  · have h0I : ((L : Int) == 0) = false := by simp; omega
    have hL0 : (0 : Int) < (L : Int) := by omega
    have hLn : 0 < L := by omega
    obtain ⟨b, o, rfl, hcell0⟩ := (HA.out.later hbW).at (i := 0) (by rw [HL.out]; omega)
    obtain ⟨x, hxe⟩ : ∃ x, xs.getD 0 0 = x := ⟨_, rfl⟩
    rw [hxe] at hcell0
    rw [Nat.add_zero] at hcell0
    have HXE := Lib.hid hxe
    have l1 := World.block_lt_of_cell? _ _ hcell0
    have MK := Lib.hid (show ∀ X, Below W.heap.size W X → X.cell? ⟨w.heap.size, 0, none⟩ = some (.int .i64 0) ∧ X.cell? ⟨w.heap.size, 1, none⟩ = some (.int .i64 4) ∧ X.cell? ⟨b, o, none⟩ = some (.int .i64 x) from fun X h => by
      obtain ⟨g0, g1, _⟩ := (R0.later h).two
      exact ⟨g0, g1, (h.cell l1).trans hcell0⟩)
    have B0 : Below W.heap.size W W.drew := (Below.refl _ _).drew
    obtain ⟨t, ht⟩ : ∃ t, hasB 0 4 x = t := ⟨_, rfl⟩
    have HT := Lib.hid ht
    clear hxe hcell0 l1 R0 ht
    go_enter Try.func37, Try.ntmps37
    (try rw [hW])
    go_wp2_with fail
    (try rw [hW])
    clear hW
    refine wp_region_held_drew (S := fun X => X.cell? ⟨w.heap.size, 0, none⟩ = some (.int .i64 0) ∧ X.cell? ⟨w.heap.size, 1, none⟩ = some (.int .i64 4) ∧ X.cell? ⟨b, o, none⟩ = some (.int .i64 x)) (by kernel_rfl) (MK.out _ B0) (fun hHeld => ?_)
    obtain ⟨y0, hdrh⟩ : ∃ Y, W.drew = Y := ⟨_, rfl⟩
    rw [hdrh] at B0 hHeld ⊢
    clear hdrh
    refine todo [0, 1, 2, 3, 4, 5, 6, 7] ?_
    iterate 8
     first
     | (refine todoH (v := ?_) rfl (by kernel_rfl) (fun _ _ _ h => h) (by assumption) (Or.inl ⟨by rfl, ?_⟩) ?_
        rotate_left
        · intro w hSw; (try dsimp only at hSw); go_simp; (try with_reducible rfl)
        try simp only [Act.put, List.getElem_toArray, List.getElem_cons_succ, List.getElem_cons_zero, List.setIfInBounds_toArray, List.set_cons_zero, List.set_cons_succ])
     | (refine todoH (v := undef) rfl (by kernel_rfl) (fun _ _ _ h => h) (by assumption) (Or.inr ⟨by rfl, rfl⟩) ?_
        try simp only [Act.put, List.getElem_toArray, List.getElem_cons_succ, List.getElem_cons_zero, List.setIfInBounds_toArray, List.set_cons_zero, List.set_cons_succ])
    refine todone ?_
    refine wpAnyH_ready (rs := [8]) (by kernel_rfl) (by simp) ?_
    refine AllReadyH.cons rfl (fun K hK => ?sh_8) AllReadyH.nil
    go_simp
    refine (has_any 0 4 x _).mono ?_
    rintro e y1 ⟨rfl, hy⟩
    have B1 : Below W.heap.size W y1 := B0.trans (hy.mono B0.size)
    have Dh1 := hy
    clear hy
    rw [HT.out]
    go_simp
    refine hK.out _ _ (MK.out _ B1) (fun hHeld2 => ?mh_8)
    clear hK K hHeld
    have hHeld := hHeld2
    clear hHeld2
    try simp only [Act.put, List.getElem_toArray, List.getElem_cons_succ, List.getElem_cons_zero, List.setIfInBounds_toArray, List.set_cons_zero, List.set_cons_succ]
    refine todo [9, 10] ?_
    iterate 2
     first
     | (refine todoH (v := ?_) rfl (by kernel_rfl) (fun _ _ _ h => h) (by assumption) (Or.inl ⟨by rfl, ?_⟩) ?_
        rotate_left
        · intro w hSw; (try dsimp only at hSw); go_simp; (try with_reducible rfl)
        try simp only [Act.put, List.getElem_toArray, List.getElem_cons_succ, List.getElem_cons_zero, List.setIfInBounds_toArray, List.set_cons_zero, List.set_cons_succ])
     | (refine todoH (v := undef) rfl (by kernel_rfl) (fun _ _ _ h => h) (by assumption) (Or.inr ⟨by rfl, rfl⟩) ?_
        try simp only [Act.put, List.getElem_toArray, List.getElem_cons_succ, List.getElem_cons_zero, List.setIfInBounds_toArray, List.set_cons_zero, List.set_cons_succ])
    refine todone ?_
    refine wpAnyH_done (by kernel_rfl) ?_ _
    (try dsimp only [Straight])
    have hbE : Below w.heap.size w y1 := hbW.trans (B1.mono hbW.size)
    obtain ⟨_, _, k2⟩ := MK.out _ B1
    cases t with
    | true =>
      obtain rfl : c = x := by rw [← HC.out, HXE.out]; unfold rkI; exact if_pos (of_decide_eq_true HT.out)
      go_wp2_with fail
      go_ret
      exact ⟨rfl, hbE⟩
    | false =>
      obtain rfl : c = 0 := by rw [← HC.out, HXE.out]; unfold rkI; exact if_neg (of_decide_eq_false HT.out)
      go_wp2_with fail
      go_ret
      exact ⟨rfl, hbE⟩
theorem chk8 {v o : Int} {n : Nat} {xs : List Int} (h : hasB 1 3 v = false) : chkO v o n xs = 8 := by
  unfold chkO
  exact if_pos (of_decide_eq_false h)
theorem chk9 {v o : Int} {n : Nat} {xs : List Int} (h : hasB 1 3 v = true) (h1 : verO o v = false) : chkO v o n xs = 9 := by
  unfold chkO
  rw [if_neg (fun k => k (of_decide_eq_true h)), if_pos h1]
theorem chk10 {v o : Int} {n : Nat} {xs : List Int} (h : hasB 1 3 v = true) (h1 : verO o v = true) (h2 : hasB (rowO o).al (rowO o).ah (n : Int) = false) : chkO v o n xs = 10 := by
  unfold chkO
  rw [if_neg (fun k => k (of_decide_eq_true h)), if_neg (by rw [h1]; simp), if_pos (of_decide_eq_false h2)]
theorem chk11 {v o : Int} {n : Nat} {xs : List Int} (h : hasB 1 3 v = true) (h1 : verO o v = true) (h2 : hasB (rowO o).al (rowO o).ah (n : Int) = true) (h3 : leaveB o v xs = false) (h4 : attB o xs = false) : chkO v o n xs = 11 := by
  unfold chkO
  rw [if_neg (fun k => k (of_decide_eq_true h)), if_neg (by rw [h1]; simp), if_neg (fun k => k (of_decide_eq_true h2)), if_pos ⟨h3, h4⟩]
theorem chk0 {v o : Int} {n : Nat} {xs : List Int} (h : hasB 1 3 v = true) (h1 : verO o v = true) (h2 : hasB (rowO o).al (rowO o).ah (n : Int) = true) (h3 : leaveB o v xs = true ∨ attB o xs = true) : chkO v o n xs = 0 := by
  unfold chkO
  rw [if_neg (fun k => k (of_decide_eq_true h)), if_neg (by rw [h1]; simp), if_neg (fun k => k (of_decide_eq_true h2)), if_neg]
  intro k
  rcases h3 with h3 | h3
  · rw [k.1] at h3; cases h3
  · rw [k.2] at h3; cases h3
/-- what validRow answers: any row, and that of the operation, if the code is 0 -/
def RowIf (B : Nat) (w : World) (o c : Int) (r : Array Value) : Prop := ∃ (n0 : Int) (nm : ByteArray) (vl vh al ah lo : Int) (F M : Value), r = #[.int .i64 n0, .string nm, .int .i64 vl, .int .i64 vh, .int .i64 al, .int .i64 ah, F, .int .i64 lo, M] ∧ F.oneCell' = true ∧ M.oneCell' = true ∧ (c = 0 → RowIs B w o r)
theorem rowIf_zero (B : Nat) (w : World) (o : Int) {c : Int} (h : c ≠ 0) : RowIf B w o c #[.int .i64 0, .string ⟨#[]⟩, .int .i64 0, .int .i64 0, .int .i64 0, .int .i64 0, .nilFunc, .int .i64 0, .nilFunc] := ⟨_, _, _, _, _, _, _, _, _, rfl, rfl, rfl, fun k => absurd k h⟩
set_option maxRecDepth 100000 in
set_option maxHeartbeats 40000000 in
theorem validRow_any (v : Int) {o : Int} {xs : List Int} {a1 a2 : Option Addr} {n1 c1 c2 : Nat} {w : World} (A : ArgS w (.slice a2 xs.length c2) xs a2 c2) (na : a2 = none → c2 = 0) (hx : xs.length ≤ 17592186044416) : Calls Try.prog 35 #[.int .i64 v, .agg #[.int .i64 o, .slice a1 n1 c1, .slice a2 xs.length c2]] w fun e w' => ∃ r, e = .returned (.tuple #[.agg r, .int .i64 (chkO v o n1 xs)]) ∧ RowIf w.heap.size w' o (chkO v o n1 xs) r ∧ Below w.heap.size w w' := by
  have HA := Lib.hid A
  obtain ⟨c, hc⟩ : ∃ c, chkO v o n1 xs = c := ⟨_, rfl⟩
  rw [hc]
  have HC := Lib.hid hc
  obtain ⟨okb, hok⟩ : ∃ b, inO o = b := ⟨_, rfl⟩
  have hro := fun w => rowOf_any o w
  rw [hok] at hro
  have HOK := Lib.hid hok
  obtain ⟨cv, hcv⟩ : ∃ b, hasB 1 3 v = b := ⟨_, rfl⟩
  have HCV := Lib.hid hcv
  obtain ⟨L, hL⟩ : ∃ L, xs.length = L := ⟨_, rfl⟩
  have HL := Lib.hid hL
  rw [hL] at hx ⊢
  obtain ⟨W, hW⟩ : ∃ W, ((w.alloc (.cells #[.int .i64 o, .slice a1 n1 c1, .slice a2 L c2] 25)).alloc (.cells #[.int .i64 0, .string ⟨#[]⟩, .int .i64 0, .int .i64 0, .int .i64 0, .int .i64 0, .nilFunc, .int .i64 0, .nilFunc] 66)) = W := ⟨_, rfl⟩
  have R0 : Row W w.heap.size 25 #[.int .i64 o, .slice a1 n1 c1, .slice a2 L c2] := by rw [← hW]; exact (Row.new _ _ _).alloc _
  have R1 : Row W (w.heap.size + 1) 66 #[.int .i64 0, .string ⟨#[]⟩, .int .i64 0, .int .i64 0, .int .i64 0, .int .i64 0, .nilFunc, .int .i64 0, .nilFunc] := by rw [← hW]; have h := Row.new (w.alloc (.cells #[.int .i64 o, .slice a1 n1 c1, .slice a2 L c2] 25)) 66 #[.int .i64 0, .string ⟨#[]⟩, .int .i64 0, .int .i64 0, .int .i64 0, .int .i64 0, .nilFunc, .int .i64 0, .nilFunc]; (try simp only [World.size_alloc] at h); exact h
  have hbW : Below w.heap.size w W := by rw [← hW]; exact ((Below.refl _ _).alloc (by (try simp) <;> omega) _).alloc (by (try simp) <;> omega) _
  have HSW := Lib.hid (show W.heap.size = w.heap.size + 1 + 1 by rw [← hW]; simp)
  have HZ := Lib.hid (show (#[.int .i64 0, .string ⟨#[]⟩, .int .i64 0, .int .i64 0, .int .i64 0, .int .i64 0, .nilFunc, .int .i64 0, .nilFunc] : Array Value).all (·.oneCell') = true by kernel_rfl)
  obtain ⟨k0, k1, k2, _, _, _⟩ := R0.three
  clear hc hok hcv hL A
  go_enter Try.func35, Try.ntmps35
  (try rw [hW])
  go_wp2_with fail
  (try rw [hW])
  clear hW
  refine (hro _).mono ?_
  rintro e y1 ⟨r, rfl, hr, hy⟩
  obtain ⟨n0, F, M, rfl, hF, hM, hin⟩ := id hr
  have HIN := Lib.hid hin
  have HONE := Lib.hid (rowIs_one (n0 := n0) (nm := (rowO o).name) (vl := (rowO o).vl) (vh := (rowO o).vh) (al := (rowO o).al) (ah := (rowO o).ah) (lo := (rowO o).lo) hF hM)
  have HR := Lib.hid hr
  clear hr hin
  obtain ⟨nm, hnm⟩ : ∃ s, (rowO o).name = s := ⟨_, rfl⟩
  obtain ⟨vl, hvl⟩ : ∃ s, (rowO o).vl = s := ⟨_, rfl⟩
  obtain ⟨vh, hvh⟩ : ∃ s, (rowO o).vh = s := ⟨_, rfl⟩
  obtain ⟨al, hal⟩ : ∃ s, (rowO o).al = s := ⟨_, rfl⟩
  obtain ⟨ah, hah⟩ : ∃ s, (rowO o).ah = s := ⟨_, rfl⟩
  obtain ⟨lo, hlo⟩ : ∃ s, (rowO o).lo = s := ⟨_, rfl⟩
  have HNM := Lib.hid hnm
  have HVL := Lib.hid hvl
  have HVH := Lib.hid hvh
  have HAL := Lib.hid hal
  have HAH := Lib.hid hah
  have HLO := Lib.hid hlo
  have HO2 := HONE.out
  have HRR := HR.out
  rw [hnm, hvl, hvh, hal, hah, hlo] at HO2 HRR
  rw [hnm, hvl, hvh, hal, hah, hlo]
  have HO3 := Lib.hid HO2
  have HR3 := Lib.hid HRR
  clear HO2 HRR hnm hvl hvh hal hah hlo
  obtain ⟨y2, hst⟩ : ∃ Y, (y1.alloc (.cells #[.int .i64 0, .string ⟨#[]⟩, .int .i64 0, .int .i64 0, .int .i64 0, .int .i64 0, .nilFunc, .int .i64 0, .nilFunc] 66)).setRow y1.heap.size #[.int .i64 n0, .string nm, .int .i64 vl, .int .i64 vh, .int .i64 al, .int .i64 ah, F, .int .i64 lo, M] = Y := ⟨_, rfl⟩
  have R : Row y2 y1.heap.size 66 #[.int .i64 n0, .string nm, .int .i64 vl, .int .i64 vh, .int .i64 al, .int .i64 ah, F, .int .i64 lo, M] := by rw [← hst]; exact (Row.new y1 66 #[.int .i64 0, .string ⟨#[]⟩, .int .i64 0, .int .i64 0, .int .i64 0, .int .i64 0, .nilFunc, .int .i64 0, .nilFunc]).setRow
  have hs01 : Below y1.heap.size y1 y2 := by rw [← hst]; exact below_setRow ((Below.refl _ _).alloc (Nat.le_refl _) _) (Nat.le_refl _)
  have B2 : Below W.heap.size W y2 := hy.trans (hs01.mono hy.size)
  have D2 : Below y1.heap.size y1 y2 := hs01
  have z0 := R.cell 0
  have z1 := R.cell 1
  have z2 := R.cell 2
  have z3 := R.cell 3
  have z4 := R.cell 4
  have z5 := R.cell 5
  have z6 := R.cell 6
  have z7 := R.cell 7
  have z8 := R.cell 8
  clear k0 k1 k2
  obtain ⟨k0, k1, k2, _, _, _⟩ := (R0.later B2).three
  clear hy
  go_wp2_with (refine wpList_store_row rfl 66 _ _ rfl y1.heap.size #[.int .i64 n0, .string nm, .int .i64 vl, .int .i64 vh, .int .i64 al, .int .i64 ah, F, .int .i64 lo, M] (by rfl) (by rfl) 66 #[.int .i64 0, .string ⟨#[]⟩, .int .i64 0, .int .i64 0, .int .i64 0, .int .i64 0, .nilFunc, .int .i64 0, .nilFunc] (Row.new _ _ _) (by kernel_rfl) rfl HO3.out ?_; rw [hst])
  clear hst hs01
  refine (allV_any _).mono ?_
  rintro e y3 ⟨rfl, hy⟩
  have B3 : Below W.heap.size W y3 := B2.trans (hy.mono B2.size)
  have D3 : Below y1.heap.size y1 y3 := D2.trans (hy.mono D2.size)
  replace R := R.later hy
  clear z0 z1 z2 z3 z4 z5 z6 z7 z8 hy
  have z0 := R.cell 0
  have z1 := R.cell 1
  have z2 := R.cell 2
  have z3 := R.cell 3
  have z4 := R.cell 4
  have z5 := R.cell 5
  have z6 := R.cell 6
  have z7 := R.cell 7
  have z8 := R.cell 8
  clear k0 k1 k2
  have N3 := R0.later B3
  obtain ⟨k0, k1, k2, _, _, _⟩ := N3.three
  go_wp2_with fail
  refine (has_any 1 3 v _).mono ?_
  rintro e y4 ⟨rfl, hy⟩
  have B4 : Below W.heap.size W y4 := B3.trans (hy.mono B3.size)
  have D4 : Below y1.heap.size y1 y4 := D3.trans (hy.mono D3.size)
  replace R := R.later hy
  clear z0 z1 z2 z3 z4 z5 z6 z7 z8 hy
  have z0 := R.cell 0
  have z1 := R.cell 1
  have z2 := R.cell 2
  have z3 := R.cell 3
  have z4 := R.cell 4
  have z5 := R.cell 5
  have z6 := R.cell 6
  have z7 := R.cell 7
  have z8 := R.cell 8
  clear k0 k1 k2
  have N4 := R0.later B4
  obtain ⟨k0, k1, k2, _, _, _⟩ := N4.three
  rw [HCV.out]
  cases cv with
  | false =>
    obtain rfl : c = 8 := by rw [← HC.out]; exact chk8 HCV.out
    have P3 := (R1.later B4).setRow (cs := #[.int .i64 0, .string ⟨#[]⟩, .int .i64 0, .int .i64 0, .int .i64 0, .int .i64 0, .nilFunc, .int .i64 0, .nilFunc])
    have f0 := P3.cell 0
    have f1 := P3.cell 1
    have f2 := P3.cell 2
    have f3 := P3.cell 3
    have f4 := P3.cell 4
    have f5 := P3.cell 5
    have f6 := P3.cell 6
    have f7 := P3.cell 7
    have f8 := P3.cell 8
    have HE := Lib.hid (below_setRow (cs := #[.int .i64 0, .string ⟨#[]⟩, .int .i64 0, .int .i64 0, .int .i64 0, .int .i64 0, .nilFunc, .int .i64 0, .nilFunc]) (hbW.trans (B4.mono hbW.size)) (show w.heap.size ≤ w.heap.size + 1 by omega))
    clear P3
    go_wp2_with (refine wpList_store_row rfl 66 _ _ rfl (w.heap.size + 1) #[.int .i64 0, .string ⟨#[]⟩, .int .i64 0, .int .i64 0, .int .i64 0, .int .i64 0, .nilFunc, .int .i64 0, .nilFunc] (by rfl) (by rfl) 66 #[.int .i64 0, .string ⟨#[]⟩, .int .i64 0, .int .i64 0, .int .i64 0, .int .i64 0, .nilFunc, .int .i64 0, .nilFunc] (R1.later B4) (by kernel_rfl) rfl HZ.out ?_)
    exact bodyPost_ret (v := .tuple #[.agg #[.int .i64 0, .string ⟨#[]⟩, .int .i64 0, .int .i64 0, .int .i64 0, .int .i64 0, .nilFunc, .int .i64 0, .nilFunc], .int .i64 8]) (by simp [results, Try.results35, go_sem, f0, f1, f2, f3, f4, f5, f6, f7, f8]) rfl ⟨_, rfl, rowIf_zero _ _ _ (by decide), HE.out⟩
  | true =>
    cases okb with
    | false =>
      obtain rfl : c = 9 := by rw [← HC.out]; exact chk9 HCV.out (by unfold verO; rw [HOK.out]; rfl)
      have P3 := (R1.later B4).setRow (cs := #[.int .i64 0, .string ⟨#[]⟩, .int .i64 0, .int .i64 0, .int .i64 0, .int .i64 0, .nilFunc, .int .i64 0, .nilFunc])
      have f0 := P3.cell 0
      have f1 := P3.cell 1
      have f2 := P3.cell 2
      have f3 := P3.cell 3
      have f4 := P3.cell 4
      have f5 := P3.cell 5
      have f6 := P3.cell 6
      have f7 := P3.cell 7
      have f8 := P3.cell 8
      have HE := Lib.hid (below_setRow (cs := #[.int .i64 0, .string ⟨#[]⟩, .int .i64 0, .int .i64 0, .int .i64 0, .int .i64 0, .nilFunc, .int .i64 0, .nilFunc]) (hbW.trans (B4.mono hbW.size)) (show w.heap.size ≤ w.heap.size + 1 by omega))
      clear P3
      go_wp2_with (refine wpList_store_row rfl 66 _ _ rfl (w.heap.size + 1) #[.int .i64 0, .string ⟨#[]⟩, .int .i64 0, .int .i64 0, .int .i64 0, .int .i64 0, .nilFunc, .int .i64 0, .nilFunc] (by rfl) (by rfl) 66 #[.int .i64 0, .string ⟨#[]⟩, .int .i64 0, .int .i64 0, .int .i64 0, .int .i64 0, .nilFunc, .int .i64 0, .nilFunc] (R1.later B4) (by kernel_rfl) rfl HZ.out ?_)
      exact bodyPost_ret (v := .tuple #[.agg #[.int .i64 0, .string ⟨#[]⟩, .int .i64 0, .int .i64 0, .int .i64 0, .int .i64 0, .nilFunc, .int .i64 0, .nilFunc], .int .i64 9]) (by simp [results, Try.results35, go_sem, f0, f1, f2, f3, f4, f5, f6, f7, f8]) rfl ⟨_, rfl, rowIf_zero _ _ _ (by decide), HE.out⟩
    | true =>
      obtain ⟨hv, hhv⟩ : ∃ b, hasB vl vh v = b := ⟨_, rfl⟩
      have hver : verO o v = hv := by
        rw [← hhv, ← HVL.out, ← HVH.out]
        unfold verO
        rw [HOK.out]
        rfl
      have HVER := Lib.hid hver
      have HHV := Lib.hid hhv
      clear hver hhv
      go_wp2_with fail
      refine (has_any vl vh v _).mono ?_
      rintro e y5 ⟨rfl, hy⟩
      have B5 : Below W.heap.size W y5 := B4.trans (hy.mono B4.size)
      have D5 : Below y1.heap.size y1 y5 := D4.trans (hy.mono D4.size)
      replace R := R.later hy
      clear z0 z1 z2 z3 z4 z5 z6 z7 z8 hy
      have z0 := R.cell 0
      have z1 := R.cell 1
      have z2 := R.cell 2
      have z3 := R.cell 3
      have z4 := R.cell 4
      have z5 := R.cell 5
      have z6 := R.cell 6
      have z7 := R.cell 7
      have z8 := R.cell 8
      clear k0 k1 k2
      have N5 := R0.later B5
      obtain ⟨k0, k1, k2, _, _, _⟩ := N5.three
      rw [HHV.out]
      cases hv with
      | false =>
        obtain rfl : c = 9 := by rw [← HC.out]; exact chk9 HCV.out HVER.out
        have P3 := (R1.later B5).setRow (cs := #[.int .i64 0, .string ⟨#[]⟩, .int .i64 0, .int .i64 0, .int .i64 0, .int .i64 0, .nilFunc, .int .i64 0, .nilFunc])
        have f0 := P3.cell 0
        have f1 := P3.cell 1
        have f2 := P3.cell 2
        have f3 := P3.cell 3
        have f4 := P3.cell 4
        have f5 := P3.cell 5
        have f6 := P3.cell 6
        have f7 := P3.cell 7
        have f8 := P3.cell 8
        have HE := Lib.hid (below_setRow (cs := #[.int .i64 0, .string ⟨#[]⟩, .int .i64 0, .int .i64 0, .int .i64 0, .int .i64 0, .nilFunc, .int .i64 0, .nilFunc]) (hbW.trans (B5.mono hbW.size)) (show w.heap.size ≤ w.heap.size + 1 by omega))
        clear P3
        go_wp2_with (refine wpList_store_row rfl 66 _ _ rfl (w.heap.size + 1) #[.int .i64 0, .string ⟨#[]⟩, .int .i64 0, .int .i64 0, .int .i64 0, .int .i64 0, .nilFunc, .int .i64 0, .nilFunc] (by rfl) (by rfl) 66 #[.int .i64 0, .string ⟨#[]⟩, .int .i64 0, .int .i64 0, .int .i64 0, .int .i64 0, .nilFunc, .int .i64 0, .nilFunc] (R1.later B5) (by kernel_rfl) rfl HZ.out ?_)
        exact bodyPost_ret (v := .tuple #[.agg #[.int .i64 0, .string ⟨#[]⟩, .int .i64 0, .int .i64 0, .int .i64 0, .int .i64 0, .nilFunc, .int .i64 0, .nilFunc], .int .i64 9]) (by simp [results, Try.results35, go_sem, f0, f1, f2, f3, f4, f5, f6, f7, f8]) rfl ⟨_, rfl, rowIf_zero _ _ _ (by decide), HE.out⟩
      | true =>
        obtain ⟨hn, hhn⟩ : ∃ b, hasB al ah (n1 : Int) = b := ⟨_, rfl⟩
        have HHN := Lib.hid hhn
        clear hhn
        go_wp2_with fail
        refine (has_any al ah (n1 : Int) _).mono ?_
        rintro e y6 ⟨rfl, hy⟩
        have B6 : Below W.heap.size W y6 := B5.trans (hy.mono B5.size)
        have D6 : Below y1.heap.size y1 y6 := D5.trans (hy.mono D5.size)
        replace R := R.later hy
        clear z0 z1 z2 z3 z4 z5 z6 z7 z8 hy
        have z0 := R.cell 0
        have z1 := R.cell 1
        have z2 := R.cell 2
        have z3 := R.cell 3
        have z4 := R.cell 4
        have z5 := R.cell 5
        have z6 := R.cell 6
        have z7 := R.cell 7
        have z8 := R.cell 8
        clear k0 k1 k2
        have N6 := R0.later B6
        obtain ⟨k0, k1, k2, _, _, _⟩ := N6.three
        rw [HHN.out]
        have hna : hasB (rowO o).al (rowO o).ah (n1 : Int) = hn := by rw [HAL.out, HAH.out, HHN.out]
        have HNA := Lib.hid hna
        clear hna
        cases hn with
        | false =>
          obtain rfl : c = 10 := by rw [← HC.out]; exact chk10 HCV.out HVER.out HNA.out
          have P3 := (R1.later B6).setRow (cs := #[.int .i64 0, .string ⟨#[]⟩, .int .i64 0, .int .i64 0, .int .i64 0, .int .i64 0, .nilFunc, .int .i64 0, .nilFunc])
          have f0 := P3.cell 0
          have f1 := P3.cell 1
          have f2 := P3.cell 2
          have f3 := P3.cell 3
          have f4 := P3.cell 4
          have f5 := P3.cell 5
          have f6 := P3.cell 6
          have f7 := P3.cell 7
          have f8 := P3.cell 8
          have HE := Lib.hid (below_setRow (cs := #[.int .i64 0, .string ⟨#[]⟩, .int .i64 0, .int .i64 0, .int .i64 0, .int .i64 0, .nilFunc, .int .i64 0, .nilFunc]) (hbW.trans (B6.mono hbW.size)) (show w.heap.size ≤ w.heap.size + 1 by omega))
          clear P3
          go_wp2_with (refine wpList_store_row rfl 66 _ _ rfl (w.heap.size + 1) #[.int .i64 0, .string ⟨#[]⟩, .int .i64 0, .int .i64 0, .int .i64 0, .int .i64 0, .nilFunc, .int .i64 0, .nilFunc] (by rfl) (by rfl) 66 #[.int .i64 0, .string ⟨#[]⟩, .int .i64 0, .int .i64 0, .int .i64 0, .int .i64 0, .nilFunc, .int .i64 0, .nilFunc] (R1.later B6) (by kernel_rfl) rfl HZ.out ?_)
          exact bodyPost_ret (v := .tuple #[.agg #[.int .i64 0, .string ⟨#[]⟩, .int .i64 0, .int .i64 0, .int .i64 0, .int .i64 0, .nilFunc, .int .i64 0, .nilFunc], .int .i64 10]) (by simp [results, Try.results35, go_sem, f0, f1, f2, f3, f4, f5, f6, f7, f8]) rfl ⟨_, rfl, rowIf_zero _ _ _ (by decide), HE.out⟩
        | true =>
          obtain ⟨lv, hlv⟩ : ∃ b, decide (L = 0 ∧ v ≤ lo) = b := ⟨_, rfl⟩
          have HLV := Lib.hid hlv
          have HLE := Lib.hid (show leaveB o v xs = lv by unfold leaveB; rw [HL.out, HLO.out]; exact hlv)
          clear hlv
          go_wp2_with fail
          refine (leaves_any v _).mono ?_
          rintro e y7 ⟨rfl, hy⟩
          have B7 : Below W.heap.size W y7 := B6.trans (hy.mono B6.size)
          have D7 : Below y1.heap.size y1 y7 := D6.trans (hy.mono D6.size)
          replace R := R.later hy
          clear z0 z1 z2 z3 z4 z5 z6 z7 z8 hy
          have z0 := R.cell 0
          have z1 := R.cell 1
          have z2 := R.cell 2
          have z3 := R.cell 3
          have z4 := R.cell 4
          have z5 := R.cell 5
          have z6 := R.cell 6
          have z7 := R.cell 7
          have z8 := R.cell 8
          clear k0 k1 k2
          have N7 := R0.later B7
          obtain ⟨k0, k1, k2, _, _, _⟩ := N7.three
          rw [HLV.out]
          cases lv with
          | true =>
            obtain rfl : c = 0 := by rw [← HC.out]; exact chk0 HCV.out HVER.out HNA.out (.inl HLE.out)
            have P3 := (R1.later B7).setRow (cs := #[.int .i64 n0, .string nm, .int .i64 vl, .int .i64 vh, .int .i64 al, .int .i64 ah, F, .int .i64 lo, M])
            have f0 := P3.cell 0
            have f1 := P3.cell 1
            have f2 := P3.cell 2
            have f3 := P3.cell 3
            have f4 := P3.cell 4
            have f5 := P3.cell 5
            have f6 := P3.cell 6
            have f7 := P3.cell 7
            have f8 := P3.cell 8
            have HE := Lib.hid (below_setRow (cs := #[.int .i64 n0, .string nm, .int .i64 vl, .int .i64 vh, .int .i64 al, .int .i64 ah, F, .int .i64 lo, M]) (hbW.trans (B7.mono hbW.size)) (show w.heap.size ≤ w.heap.size + 1 by omega))
            have hFr : From W.heap.size y1 (y7.setRow (w.heap.size + 1) #[.int .i64 n0, .string nm, .int .i64 vl, .int .i64 vh, .int .i64 al, .int .i64 ah, F, .int .i64 lo, M]) := (From.of D7).setRow (by rw [HSW.out]; omega)
            have HFR := Lib.hid hFr
            clear hFr
            clear P3
            go_wp2_with (refine wpList_store_row rfl 66 _ _ rfl (w.heap.size + 1) #[.int .i64 n0, .string nm, .int .i64 vl, .int .i64 vh, .int .i64 al, .int .i64 ah, F, .int .i64 lo, M] (by rfl) (by rfl) 66 #[.int .i64 0, .string ⟨#[]⟩, .int .i64 0, .int .i64 0, .int .i64 0, .int .i64 0, .nilFunc, .int .i64 0, .nilFunc] (R1.later B7) (by kernel_rfl) rfl HO3.out ?_)
            exact bodyPost_ret (v := .tuple #[.agg #[.int .i64 n0, .string nm, .int .i64 vl, .int .i64 vh, .int .i64 al, .int .i64 ah, F, .int .i64 lo, M], .int .i64 0]) (by simp [results, Try.results35, go_sem, f0, f1, f2, f3, f4, f5, f6, f7, f8]) rfl ⟨_, rfl, ⟨_, _, _, _, _, _, _, _, _, rfl, hF, hM, fun _ => (HR3.out.later HFR.out).mono (by rw [HSW.out]; omega)⟩, HE.out⟩
          | false =>
            obtain ⟨hi1, hi2, _⟩ := HIN.out HOK.out
            have hAX := HA.out.later (hbW.trans (B7.mono hbW.size))
            have hfit := hi2.later (From.of D7)
            have htk := takes_any (n0 := n0) (nm := nm) (vl := vl) (vh := vh) (al := al) (ah := ah) (lo := lo) (M := M) hAX na (by rw [HL.out]; exact hx) hfit (by exact Nat.le_trans (Nat.le_refl _) B7.size)
            rw [HL.out] at htk
            obtain ⟨tv, htv⟩ : ∃ b, (bndB xs && fitO o xs) = b := ⟨_, rfl⟩
            rw [htv] at htk
            have HTV := Lib.hid (show attB o xs = tv from htv)
            have HTK := Lib.hid htk
            clear htk htv hi1 hi2 hAX hfit
            go_wp2_with fail
            refine (HTK.out).mono ?_
            rintro e y8 ⟨rfl, hy⟩
            have B8 : Below W.heap.size W y8 := B7.trans (hy.mono B7.size)
            have D8 : Below y1.heap.size y1 y8 := D7.trans (hy.mono D7.size)
            replace R := R.later hy
            clear z0 z1 z2 z3 z4 z5 z6 z7 z8 hy
            have z0 := R.cell 0
            have z1 := R.cell 1
            have z2 := R.cell 2
            have z3 := R.cell 3
            have z4 := R.cell 4
            have z5 := R.cell 5
            have z6 := R.cell 6
            have z7 := R.cell 7
            have z8 := R.cell 8
            clear k0 k1 k2
            have N8 := R0.later B8
            obtain ⟨k0, k1, k2, _, _, _⟩ := N8.three
            cases tv with
            | false =>
              obtain rfl : c = 11 := by rw [← HC.out]; exact chk11 HCV.out HVER.out HNA.out HLE.out HTV.out
              have P3 := (R1.later B8).setRow (cs := #[.int .i64 0, .string ⟨#[]⟩, .int .i64 0, .int .i64 0, .int .i64 0, .int .i64 0, .nilFunc, .int .i64 0, .nilFunc])
              have f0 := P3.cell 0
              have f1 := P3.cell 1
              have f2 := P3.cell 2
              have f3 := P3.cell 3
              have f4 := P3.cell 4
              have f5 := P3.cell 5
              have f6 := P3.cell 6
              have f7 := P3.cell 7
              have f8 := P3.cell 8
              have HE := Lib.hid (below_setRow (cs := #[.int .i64 0, .string ⟨#[]⟩, .int .i64 0, .int .i64 0, .int .i64 0, .int .i64 0, .nilFunc, .int .i64 0, .nilFunc]) (hbW.trans (B8.mono hbW.size)) (show w.heap.size ≤ w.heap.size + 1 by omega))
              clear P3
              go_wp2_with (refine wpList_store_row rfl 66 _ _ rfl (w.heap.size + 1) #[.int .i64 0, .string ⟨#[]⟩, .int .i64 0, .int .i64 0, .int .i64 0, .int .i64 0, .nilFunc, .int .i64 0, .nilFunc] (by rfl) (by rfl) 66 #[.int .i64 0, .string ⟨#[]⟩, .int .i64 0, .int .i64 0, .int .i64 0, .int .i64 0, .nilFunc, .int .i64 0, .nilFunc] (R1.later B8) (by kernel_rfl) rfl HZ.out ?_)
              exact bodyPost_ret (v := .tuple #[.agg #[.int .i64 0, .string ⟨#[]⟩, .int .i64 0, .int .i64 0, .int .i64 0, .int .i64 0, .nilFunc, .int .i64 0, .nilFunc], .int .i64 11]) (by simp [results, Try.results35, go_sem, f0, f1, f2, f3, f4, f5, f6, f7, f8]) rfl ⟨_, rfl, rowIf_zero _ _ _ (by decide), HE.out⟩
            | true =>
              obtain rfl : c = 0 := by rw [← HC.out]; exact chk0 HCV.out HVER.out HNA.out (.inr HTV.out)
              have P3 := (R1.later B8).setRow (cs := #[.int .i64 n0, .string nm, .int .i64 vl, .int .i64 vh, .int .i64 al, .int .i64 ah, F, .int .i64 lo, M])
              have f0 := P3.cell 0
              have f1 := P3.cell 1
              have f2 := P3.cell 2
              have f3 := P3.cell 3
              have f4 := P3.cell 4
              have f5 := P3.cell 5
              have f6 := P3.cell 6
              have f7 := P3.cell 7
              have f8 := P3.cell 8
              have HE := Lib.hid (below_setRow (cs := #[.int .i64 n0, .string nm, .int .i64 vl, .int .i64 vh, .int .i64 al, .int .i64 ah, F, .int .i64 lo, M]) (hbW.trans (B8.mono hbW.size)) (show w.heap.size ≤ w.heap.size + 1 by omega))
              have hFr : From W.heap.size y1 (y8.setRow (w.heap.size + 1) #[.int .i64 n0, .string nm, .int .i64 vl, .int .i64 vh, .int .i64 al, .int .i64 ah, F, .int .i64 lo, M]) := (From.of D8).setRow (by rw [HSW.out]; omega)
              have HFR := Lib.hid hFr
              clear hFr
              clear P3
              go_wp2_with (refine wpList_store_row rfl 66 _ _ rfl (w.heap.size + 1) #[.int .i64 n0, .string nm, .int .i64 vl, .int .i64 vh, .int .i64 al, .int .i64 ah, F, .int .i64 lo, M] (by rfl) (by rfl) 66 #[.int .i64 0, .string ⟨#[]⟩, .int .i64 0, .int .i64 0, .int .i64 0, .int .i64 0, .nilFunc, .int .i64 0, .nilFunc] (R1.later B8) (by kernel_rfl) rfl HO3.out ?_)
              exact bodyPost_ret (v := .tuple #[.agg #[.int .i64 n0, .string nm, .int .i64 vl, .int .i64 vh, .int .i64 al, .int .i64 ah, F, .int .i64 lo, M], .int .i64 0]) (by simp [results, Try.results35, go_sem, f0, f1, f2, f3, f4, f5, f6, f7, f8]) rfl ⟨_, rfl, ⟨_, _, _, _, _, _, _, _, _, rfl, hF, hM, fun _ => (HR3.out.later HFR.out).mono (by rw [HSW.out]; omega)⟩, HE.out⟩
end
section
open Go.RowKit
set_option linter.unusedVariables false
set_option linter.unusedSimpArgs false
theorem chk_in {v o : Int} {n : Nat} {xs : List Int} (h : chkO v o n xs = 0) : inO o = true ∧ 1 ≤ v := by
  unfold chkO at h
  split at h
  · cases h
  rename_i h1
  split at h
  · cases h
  rename_i h2
  refine ⟨?_, by omega⟩
  cases hi : inO o with
  | true => rfl
  | false => exact absurd (show verO o v = false by unfold verO; rw [hi]; rfl) h2
set_option maxRecDepth 100000 in
set_option maxHeartbeats 4000000 in
theorem check_any (v : Int) {o : Int} {xs : List Int} {a1 a2 : Option Addr} {n1 c1 c2 : Nat} {w : World} (A : ArgS w (.slice a2 xs.length c2) xs a2 c2) (na : a2 = none → c2 = 0) (hx : xs.length ≤ 17592186044416) : Calls Try.prog 23 #[.int .i64 v, .agg #[.int .i64 o, .slice a1 n1 c1, .slice a2 xs.length c2]] w fun e w' => e = .returned (.int .i64 (chkO v o n1 xs)) ∧ Below w.heap.size w w' := by
  have HA := Lib.hid A
  obtain ⟨c, hc⟩ : ∃ c, chkO v o n1 xs = c := ⟨_, rfl⟩
  have HC := Lib.hid hc
  obtain ⟨L, hL⟩ : ∃ L, xs.length = L := ⟨_, rfl⟩
  have HL := Lib.hid hL
  obtain ⟨W, hW⟩ : ∃ W, w.alloc (.cells #[.int .i64 o, .slice a1 n1 c1, .slice a2 L c2] 25) = W := ⟨_, rfl⟩
  have R0 : Row W w.heap.size 25 #[.int .i64 o, .slice a1 n1 c1, .slice a2 L c2] := by rw [← hW]; exact Row.new _ _ _
  have hbW : Below w.heap.size w W := by rw [← hW]; exact (Below.refl _ _).alloc (Nat.le_refl _) _
  have hva := validRow_any v (A.later hbW) na hx (o := o) (a1 := a1) (n1 := n1) (c1 := c1)
  rw [hL] at hx ⊢
  rw [hc, hL] at hva
  rw [HC.out]
  have HVA := Lib.hid hva
  obtain ⟨k0, k1, k2, _, _, _⟩ := R0.three
  clear hc hL A hva
  go_enter Try.func23, Try.ntmps23
  (try rw [hW])
  go_wp2_with fail
  (try rw [hW])
  clear hW
  refine HVA.out.mono ?_
  rintro e y1 ⟨r, rfl, ⟨n0, nm, vl, vh, al, ah, lo, F, M, rfl, hF, hM, hin⟩, hy⟩
  have HIN := Lib.hid hin
  have HO3 := Lib.hid (rowIs_one (n0 := n0) (nm := nm) (vl := vl) (vh := vh) (al := al) (ah := ah) (lo := lo) hF hM)
  clear hin
  obtain ⟨y2, hst⟩ : ∃ Y, (y1.alloc (.cells #[.int .i64 0, .string ⟨#[]⟩, .int .i64 0, .int .i64 0, .int .i64 0, .int .i64 0, .nilFunc, .int .i64 0, .nilFunc] 66)).setRow y1.heap.size #[.int .i64 n0, .string nm, .int .i64 vl, .int .i64 vh, .int .i64 al, .int .i64 ah, F, .int .i64 lo, M] = Y := ⟨_, rfl⟩
  have R : Row y2 y1.heap.size 66 #[.int .i64 n0, .string nm, .int .i64 vl, .int .i64 vh, .int .i64 al, .int .i64 ah, F, .int .i64 lo, M] := by rw [← hst]; exact (Row.new y1 66 #[.int .i64 0, .string ⟨#[]⟩, .int .i64 0, .int .i64 0, .int .i64 0, .int .i64 0, .nilFunc, .int .i64 0, .nilFunc]).setRow
  have hs01 : Below y1.heap.size y1 y2 := by rw [← hst]; exact below_setRow ((Below.refl _ _).alloc (Nat.le_refl _) _) (Nat.le_refl _)
  have B2 : Below W.heap.size W y2 := hy.trans (hs01.mono hy.size)
  have D2 : Below y1.heap.size y1 y2 := hs01
  have z0 := R.cell 0
  have z1 := R.cell 1
  have z2 := R.cell 2
  have z3 := R.cell 3
  have z4 := R.cell 4
  have z5 := R.cell 5
  have z6 := R.cell 6
  have z7 := R.cell 7
  have z8 := R.cell 8
  clear k0 k1 k2 hy
  obtain ⟨k0, k1, k2, _, _, _⟩ := (R0.later B2).three
  go_wp2_with (refine wpList_store_row rfl 66 _ _ rfl y1.heap.size #[.int .i64 n0, .string nm, .int .i64 vl, .int .i64 vh, .int .i64 al, .int .i64 ah, F, .int .i64 lo, M] (by rfl) (by rfl) 66 #[.int .i64 0, .string ⟨#[]⟩, .int .i64 0, .int .i64 0, .int .i64 0, .int .i64 0, .nilFunc, .int .i64 0, .nilFunc] (Row.new _ _ _) (by kernel_rfl) rfl HO3.out ?_; rw [hst])
  clear hst hs01
  go_ret
  exact ⟨rfl, hbW.trans (B2.mono hbW.size)⟩
set_option maxRecDepth 100000 in
set_option maxHeartbeats 8000000 in
theorem explicit_any (v : Int) {o : Int} {xs : List Int} {a1 a2 : Option Addr} {n1 c1 c2 : Nat} {w : World} (A : ArgS w (.slice a2 xs.length c2) xs a2 c2) (na : a2 = none → c2 = 0) (hx : xs.length ≤ 17592186044416) {u : Value} {rs : List Int} {a3 : Option Addr} {c3 : Nat} (D : ArgS w u rs a3 c3) (hrs : rs.length ≤ 17592186044416) : Calls Try.prog 26 #[.int .i64 v, .agg #[.int .i64 o, .slice a1 n1 c1, .slice a2 xs.length c2], u] w fun e w' => ∃ r, e = .returned r ∧ ResS w.heap.size w' r (expO v o n1 xs (rs.getD 0 0)) ∧ Below w.heap.size w w' := by
  have HD := Lib.hid D
  obtain rfl := D.is
  clear D
  obtain ⟨ls, hls⟩ : ∃ l, expO v o n1 xs (rs.getD 0 0) = l := ⟨_, rfl⟩
  rw [hls]
  have HLS := Lib.hid hls
  clear hls
  obtain ⟨LR, hLR⟩ : ∃ L, rs.length = L := ⟨_, rfl⟩
  have HLR := Lib.hid hLR
  obtain ⟨rk, hrk⟩ : ∃ r, rkI (rs.getD 0 0) = r := ⟨_, rfl⟩
  have HRK := Lib.hid hrk
  have HRB := Lib.hid (show 0 ≤ rk ∧ rk ≤ 4 by rw [← hrk]; exact rkI_in _)
  have HFR := Lib.hid (show ∀ X, Below w.heap.size w X → Calls Try.prog 37 #[.slice a3 LR c3] X fun e w' => e = .returned (.int .i64 rk) ∧ Below X.heap.size X w' from fun X h => by
    have h2 := firstRank_any (HD.out.later h) hrs
    rw [hrk, hLR] at h2
    exact h2)
  rw [hLR] at hrs ⊢
  clear hLR hrk
  have HA := Lib.hid A
  obtain ⟨c, hc⟩ : ∃ c, chkO v o n1 xs = c := ⟨_, rfl⟩
  have HC := Lib.hid hc
  obtain ⟨L, hL⟩ : ∃ L, xs.length = L := ⟨_, rfl⟩
  have HL := Lib.hid hL
  obtain ⟨W, hW⟩ : ∃ W, w.alloc (.cells #[.int .i64 o, .slice a1 n1 c1, .slice a2 L c2] 25) = W := ⟨_, rfl⟩
  have R0 : Row W w.heap.size 25 #[.int .i64 o, .slice a1 n1 c1, .slice a2 L c2] := by rw [← hW]; exact Row.new _ _ _
  have hbW : Below w.heap.size w W := by rw [← hW]; exact (Below.refl _ _).alloc (Nat.le_refl _) _
  have hva := validRow_any v (A.later hbW) na hx (o := o) (a1 := a1) (n1 := n1) (c1 := c1)
  rw [hL] at hx ⊢
  rw [hc, hL] at hva
  have HVA := Lib.hid hva
  obtain ⟨k0, k1, k2, _, _, _⟩ := R0.three
  clear hc hL A hva
  go_enter Try.func26, Try.ntmps26
  (try rw [hW])
  go_wp2_with fail
  (try rw [hW])
  clear hW
  refine HVA.out.mono ?_
  rintro e y1 ⟨r, rfl, ⟨n0, nm, vl, vh, al, ah, lo, F, M, rfl, hF, hM, hin⟩, hy⟩
  have HIN := Lib.hid hin
  have HO3 := Lib.hid (rowIs_one (n0 := n0) (nm := nm) (vl := vl) (vh := vh) (al := al) (ah := ah) (lo := lo) hF hM)
  clear hin
  obtain ⟨y2, hst⟩ : ∃ Y, (y1.alloc (.cells #[.int .i64 0, .string ⟨#[]⟩, .int .i64 0, .int .i64 0, .int .i64 0, .int .i64 0, .nilFunc, .int .i64 0, .nilFunc] 66)).setRow y1.heap.size #[.int .i64 n0, .string nm, .int .i64 vl, .int .i64 vh, .int .i64 al, .int .i64 ah, F, .int .i64 lo, M] = Y := ⟨_, rfl⟩
  have R : Row y2 y1.heap.size 66 #[.int .i64 n0, .string nm, .int .i64 vl, .int .i64 vh, .int .i64 al, .int .i64 ah, F, .int .i64 lo, M] := by rw [← hst]; exact (Row.new y1 66 #[.int .i64 0, .string ⟨#[]⟩, .int .i64 0, .int .i64 0, .int .i64 0, .int .i64 0, .nilFunc, .int .i64 0, .nilFunc]).setRow
  have hs01 : Below y1.heap.size y1 y2 := by rw [← hst]; exact below_setRow ((Below.refl _ _).alloc (Nat.le_refl _) _) (Nat.le_refl _)
  have B2 : Below W.heap.size W y2 := hy.trans (hs01.mono hy.size)
  have D2 : Below y1.heap.size y1 y2 := hs01
  have z0 := R.cell 0
  have z1 := R.cell 1
  have z2 := R.cell 2
  have z3 := R.cell 3
  have z4 := R.cell 4
  have z5 := R.cell 5
  have z6 := R.cell 6
  have z7 := R.cell 7
  have z8 := R.cell 8
  clear k0 k1 k2 hy
  obtain ⟨k0, k1, k2, _, _, _⟩ := (R0.later B2).three
  by_cases hc0 : c = 0
  · subst hc0
    obtain ⟨m0, F2', M2, hrw, hF', hM', hrest⟩ := HIN.out rfl
    simp only [Array.mk.injEq, List.cons.injEq, Value.int.injEq, Value.string.injEq, true_and, and_true] at hrw
    obtain ⟨-, -, -, -, -, -, eF, elo, eM⟩ := hrw
    subst eF
    subst eM
    have HLO := Lib.hid elo
    obtain ⟨hin1, hv1⟩ := chk_in HC.out
    obtain ⟨-, -, hmean⟩ := hrest hin1
    clear elo hF' hM' hrest
    by_cases hlv : L = 0 ∧ v ≤ lo
    · obtain ⟨F2, cap2, rfl, heM, hcM⟩ := hmean (by rw [← HLO.out]; omega)
      have HMM := Lib.hid hcM
      have hlvI : decide (L = 0 ∧ v ≤ lo) = true := decide_eq_true hlv
      have hlsE : meantO o rk = ls := by
        rw [← HLS.out, ← HRK.out]
        unfold expO
        rw [if_pos ⟨HC.out, by unfold leaveB; rw [HL.out, ← HLO.out]; exact hlvI⟩]
      have HLSE := Lib.hid hlsE
      have HLV := Lib.hid hlvI
      clear hcM hmean hlvI hlv hlsE
      go_wp2_with (refine wpList_store_row rfl 66 _ _ rfl y1.heap.size #[.int .i64 n0, .string nm, .int .i64 vl, .int .i64 vh, .int .i64 al, .int .i64 ah, F, .int .i64 lo, .func (.func F2) #[] cap2] (by rfl) (by rfl) 66 #[.int .i64 0, .string ⟨#[]⟩, .int .i64 0, .int .i64 0, .int .i64 0, .int .i64 0, .nilFunc, .int .i64 0, .nilFunc] (Row.new _ _ _) (by kernel_rfl) rfl HO3.out ?_; rw [hst])
      clear hst hs01
      refine (leaves_any v _).mono ?_
      rintro e y3 ⟨rfl, hy⟩
      have B3 : Below W.heap.size W y3 := B2.trans (hy.mono B2.size)
      have D3 : Below y1.heap.size y1 y3 := D2.trans (hy.mono D2.size)
      replace R := R.later hy
      clear z0 z1 z2 z3 z4 z5 z6 z7 z8 hy
      have z0 := R.cell 0
      have z1 := R.cell 1
      have z2 := R.cell 2
      have z3 := R.cell 3
      have z4 := R.cell 4
      have z5 := R.cell 5
      have z6 := R.cell 6
      have z7 := R.cell 7
      have z8 := R.cell 8
      clear k0 k1 k2
      obtain ⟨k0, k1, k2, _, _, _⟩ := (R0.later B3).three
      rw [HLV.out]
      have MK := Lib.hid (show ∀ X, Below y3.heap.size y3 X → X.cell? ⟨y1.heap.size, 8, none⟩ = some (.func (.func F2) #[] cap2) from fun X h => (R.later h).cell 8)
      have E0 : Below y3.heap.size y3 y3.drew := (Below.refl _ _).drew
      go_wp2_with fail
      refine wp_region_held_drew (S := fun X => X.cell? ⟨y1.heap.size, 8, none⟩ = some (.func (.func F2) #[] cap2)) (by kernel_rfl) (MK.out _ E0) (fun hHeld => ?_)
      obtain ⟨x0, hdrh⟩ : ∃ Y, y3.drew = Y := ⟨_, rfl⟩
      rw [hdrh] at E0 hHeld ⊢
      clear hdrh
      refine todo [0, 1, 2] ?_
      iterate 3
       first
       | (refine todoH (v := ?_) rfl (by kernel_rfl) (fun _ _ _ h => h) (by assumption) (Or.inl ⟨by rfl, ?_⟩) ?_
          rotate_left
          · intro w hSw; (try dsimp only at hSw); go_simp; (try with_reducible rfl)
          try simp only [Act.put, List.getElem_toArray, List.getElem_cons_succ, List.getElem_cons_zero, List.setIfInBounds_toArray, List.set_cons_zero, List.set_cons_succ])
       | (refine todoH (v := undef) rfl (by kernel_rfl) (fun _ _ _ h => h) (by assumption) (Or.inr ⟨by rfl, rfl⟩) ?_
          try simp only [Act.put, List.getElem_toArray, List.getElem_cons_succ, List.getElem_cons_zero, List.setIfInBounds_toArray, List.set_cons_zero, List.set_cons_succ])
      refine todone ?_
      refine wpAnyH_ready (rs := [3]) (by kernel_rfl) (by simp) ?_
      refine AllReadyH.cons rfl (fun K hK => ?sh_3) AllReadyH.nil
      go_simp
      refine (HFR.out _ (hbW.trans ((B3.trans (E0.mono B3.size)).mono hbW.size))).mono ?_
      rintro e x1 ⟨rfl, hy⟩
      have E1 : Below y3.heap.size y3 x1 := E0.trans (hy.mono E0.size)
      have Dh1 := hy
      clear hy
      go_simp
      refine hK.out _ _ (MK.out _ E1) (fun hHeld2 => ?mh_3)
      clear hK K hHeld
      have hHeld := hHeld2
      clear hHeld2
      try simp only [Act.put, List.getElem_toArray, List.getElem_cons_succ, List.getElem_cons_zero, List.setIfInBounds_toArray, List.set_cons_zero, List.set_cons_succ]
      refine wpAnyH_ready (rs := [4]) (by kernel_rfl) (by simp) ?_
      refine AllReadyH.cons rfl (fun K hK => ?sh_4) AllReadyH.nil
      go_simp
      refine (HMM.out _ _ ((From.of D3).trans ((From.of E1).mono (Nat.zero_le _))) HRB.out.1 HRB.out.2).mono ?_
      rintro e x2 ⟨rv, rfl, hrv, hy⟩
      have E2 : Below y3.heap.size y3 x2 := E1.trans (hy.mono E1.size)
      have Dh2 := hy
      clear hy
      have HRV := Lib.hid hrv
      clear hrv
      go_simp
      refine hK.out _ _ (MK.out _ E2) (fun hHeld2 => ?mh_4)
      clear hK K hHeld
      have hHeld := hHeld2
      clear hHeld2
      try simp only [Act.put, List.getElem_toArray, List.getElem_cons_succ, List.getElem_cons_zero, List.setIfInBounds_toArray, List.set_cons_zero, List.set_cons_succ]
      refine todo [5] ?_
      iterate 1
       first
       | (refine todoH (v := ?_) rfl (by kernel_rfl) (fun _ _ _ h => h) (by assumption) (Or.inl ⟨by rfl, ?_⟩) ?_
          rotate_left
          · intro w hSw; (try dsimp only at hSw); go_simp; (try with_reducible rfl)
          try simp only [Act.put, List.getElem_toArray, List.getElem_cons_succ, List.getElem_cons_zero, List.setIfInBounds_toArray, List.set_cons_zero, List.set_cons_succ])
       | (refine todoH (v := undef) rfl (by kernel_rfl) (fun _ _ _ h => h) (by assumption) (Or.inr ⟨by rfl, rfl⟩) ?_
          try simp only [Act.put, List.getElem_toArray, List.getElem_cons_succ, List.getElem_cons_zero, List.setIfInBounds_toArray, List.set_cons_zero, List.set_cons_succ])
      refine todone ?_
      refine wpAnyH_done (by kernel_rfl) ?_ _
      (try dsimp only [Straight])
      go_wp2_with fail
      go_ret
      have hr := HRV.out
      rw [HLSE.out] at hr
      exact ⟨_, rfl, hr.mono (Nat.le_trans hbW.size (Nat.le_trans B3.size E1.size)), hbW.trans ((B3.trans (E2.mono B3.size)).mono hbW.size)⟩
    · have hlvI : decide (L = 0 ∧ v ≤ lo) = false := decide_eq_false hlv
      have hlsE : xs = ls := by
        rw [← HLS.out]
        unfold expO
        rw [if_neg (fun h => by have h2 := h.2; unfold leaveB at h2; rw [HL.out, ← HLO.out, hlvI] at h2; cases h2)]
      have HLSE := Lib.hid hlsE
      have HLV := Lib.hid hlvI
      clear hmean hlvI hlv hlsE
      go_wp2_with (refine wpList_store_row rfl 66 _ _ rfl y1.heap.size #[.int .i64 n0, .string nm, .int .i64 vl, .int .i64 vh, .int .i64 al, .int .i64 ah, F, .int .i64 lo, M] (by rfl) (by rfl) 66 #[.int .i64 0, .string ⟨#[]⟩, .int .i64 0, .int .i64 0, .int .i64 0, .int .i64 0, .nilFunc, .int .i64 0, .nilFunc] (Row.new _ _ _) (by kernel_rfl) rfl HO3.out ?_; rw [hst])
      clear hst hs01
      refine (leaves_any v _).mono ?_
      rintro e y3 ⟨rfl, hy⟩
      have B3 : Below W.heap.size W y3 := B2.trans (hy.mono B2.size)
      have D3 : Below y1.heap.size y1 y3 := D2.trans (hy.mono D2.size)
      replace R := R.later hy
      clear z0 z1 z2 z3 z4 z5 z6 z7 z8 hy
      have z0 := R.cell 0
      have z1 := R.cell 1
      have z2 := R.cell 2
      have z3 := R.cell 3
      have z4 := R.cell 4
      have z5 := R.cell 5
      have z6 := R.cell 6
      have z7 := R.cell 7
      have z8 := R.cell 8
      clear k0 k1 k2
      obtain ⟨k0, k1, k2, _, _, _⟩ := (R0.later B3).three
      rw [HLV.out]
      go_wp2_with fail
      have hcl := cloneI_any (HA.out.later (hbW.trans (B3.mono hbW.size))) na (by rw [HL.out]; exact hx)
      rw [HL.out] at hcl
      have HCL := Lib.hid hcl
      clear hcl
      refine HCL.out.mono ?_
      rintro e yz ⟨r, rfl, hr, hy⟩
      rw [HLSE.out] at hr
      go_wp2_with fail
      go_ret
      exact ⟨_, rfl, hr.mono (Nat.le_trans hbW.size B3.size), hbW.trans ((B3.trans (hy.mono B3.size)).mono hbW.size)⟩
  · have hcI : (c == 0) = false := by simp [hc0]
    have hlsE : xs = ls := by
      rw [← HLS.out]
      unfold expO
      rw [if_neg (fun h => hc0 (by rw [← HC.out]; exact h.1))]
    have HLSE := Lib.hid hlsE
    clear hlsE
    go_wp2_with (refine wpList_store_row rfl 66 _ _ rfl y1.heap.size #[.int .i64 n0, .string nm, .int .i64 vl, .int .i64 vh, .int .i64 al, .int .i64 ah, F, .int .i64 lo, M] (by rfl) (by rfl) 66 #[.int .i64 0, .string ⟨#[]⟩, .int .i64 0, .int .i64 0, .int .i64 0, .int .i64 0, .nilFunc, .int .i64 0, .nilFunc] (Row.new _ _ _) (by kernel_rfl) rfl HO3.out ?_; rw [hst])
    clear hst hs01
    have hcl := cloneI_any (HA.out.later (hbW.trans (B2.mono hbW.size))) na (by rw [HL.out]; exact hx)
    rw [HL.out] at hcl
    have HCL := Lib.hid hcl
    clear hcl
    refine HCL.out.mono ?_
    rintro e yz ⟨r, rfl, hr, hy⟩
    rw [HLSE.out] at hr
    go_wp2_with fail
    go_ret
    exact ⟨_, rfl, hr.mono (Nat.le_trans hbW.size B2.size), hbW.trans ((B2.trans (hy.mono B2.size)).mono hbW.size)⟩
end
end Go.Proofs.Ytdcggcfgkhlblaa
