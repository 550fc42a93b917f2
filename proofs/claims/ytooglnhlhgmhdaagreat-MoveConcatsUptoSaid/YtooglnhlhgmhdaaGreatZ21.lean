/-
  Layer 9: rows that are written to place by place.
-/
import Derived.Test.YtooglnhlhgmhdaaGreatZ1
import Derived.Test.YtooglnhlhgmhdaaGreatZ2
import Derived.Test.YtooglnhlhgmhdaaGreatZ3
import Derived.Test.YtooglnhlhgmhdaaGreatZ5
import Derived.Test.YtooglnhlhgmhdaaGreatZ6
import Derived.Test.YtooglnhlhgmhdaaGreatZ7
import Derived.Test.YtooglnhlhgmhdaaGreatZ11
import Derived.Test.YtooglnhlhgmhdaaGreatZ12
import Derived.Test.YtooglnhlhgmhdaaGreatZ13
import Derived.Test.YtooglnhlhgmhdaaGreatZ14
import Derived.Test.YtooglnhlhgmhdaaGreatZ15
import Derived.Test.YtooglnhlhgmhdaaGreatZ16
import Derived.Test.YtooglnhlhgmhdaaGreatZ18
import Derived.Test.YtooglnhlhgmhdaaGreatZ19
import Derived.WalkKit
import Derived.Test.YtooglnhlhgmhdaaGreatRows
import Derived.BigQuiet
import Derived.Deep.QuietTactic
import Derived.Lib.Hide
import Derived.Lib.Small
import Derived.Lib.Walk
import Derived.Lib.BitFns
import Derived.Maps.AppendAt
import Derived.RangeFuncNested
import Derived.RangeFuncBound
import Derived.RangeFuncCalls
import Derived.RangeFuncLeaves
import Derived.Shelf.Abstract
import Derived.OwnWalkIn
import Derived.TacticsInMore
import Derived.LoopNIn
import Derived.LoopIn
import Derived.RangeFuncBox
import Derived.Deep.RegionHeld3
import Derived.OrdersIn
import Derived.StillTailTactics
import Derived.RangeFuncFrom
import Derived.Laws.EntriesVeiled
import Derived.ProofKit
import Derived.OpenShut
import Derived.JoinedCond
import Derived.Carry
import Derived.Laws.AppendOwnNone
import Derived.Lib.ItoaNum
import Derived.Deep.RegionLaw
import Derived.WalkMore
import Derived.Lib.SmallJoins
import Derived.IntWalk
import Derived.Deep.DeepCutAuto
import Derived.Laws.OwnMore
import Derived.OrdersHeld
import Derived.Deep.RegionHeld
import Derived.ArgAppend
import Derived.Deep.Slices
import Derived.Laws.CopyOwn
import Derived.Lib.SliceRun
namespace Go.Proofs.YtooglnhlhgmhdaaGreat
set_option maxRecDepth 100000
section
open Go.RowKit
set_option linter.unusedVariables false
set_option linter.unusedSimpArgs false
/-- a row that came as an index and may be written to -/
def IdxP (B : Nat) (X : World) (ad : Option Addr) (cap : Nat) (zs : List Int) : Prop := (ad = none ∧ cap = 0 ∧ zs = []) ∨ ∃ g, ad = some ⟨g, 0, none⟩ ∧ B ≤ g ∧ cap ≤ maxLen ∧ PartS X g cap zs
theorem NumS.partS0 {base : Nat} {w : World} {v : Value} {zs : List Int} (h : NumS base w v zs) : (v = .slice none 0 0 ∧ zs = []) ∨ ∃ g cap, v = .slice (some ⟨g, 0, none⟩) zs.length cap ∧ base ≤ g ∧ cap ≤ maxLen ∧ PartS w g cap zs := by
  obtain ⟨h1, h2⟩ := h
  rcases h2 with ⟨hv, hn⟩ | ⟨g, cap, cur, hv, hb, hg, hc, hm, hs, ht⟩
  · exact .inl ⟨hv, List.eq_nil_of_length_eq_zero hn⟩
  · exact .inr ⟨g, cap, hv, hb, hm, cur, hg, by simpa using hs, hc, by simpa using ht⟩
theorem ResS.idx {B : Nat} {w : World} {u : Value} {xs : List Int} (h : ResS B w u xs) : ∃ ad cap, u = .slice ad xs.length cap ∧ IdxP B w ad cap xs ∧ xs.length ≤ cap ∧ (ad = none → cap = 0) ∧ Wid xs := by
  obtain ⟨ad, cap, rfl, hR, A, hn⟩ := h.slice
  rcases hR.num.partS0 with ⟨e, hz⟩ | ⟨g, cap2, e, hb, hm, hP⟩
  · simp only [Value.slice.injEq] at e
    obtain ⟨rfl, _, rfl⟩ := e
    exact ⟨_, 0, rfl, .inl ⟨rfl, rfl, hz⟩, A.le, hn, A.wf⟩
  · simp only [Value.slice.injEq] at e
    obtain ⟨rfl, _, rfl⟩ := e
    exact ⟨_, cap, rfl, .inr ⟨g, rfl, hb, hm, hP⟩, A.le, hn, A.wf⟩
theorem IdxP.arg {B : Nat} {X : World} {ad : Option Addr} {cap : Nat} {zs : List Int} (h : IdxP B X ad cap zs) (hl : zs.length ≤ cap) (hw : Wid zs) : ArgS X (.slice ad zs.length cap) zs ad cap := by
  rcases h with ⟨_, _, rfl⟩ | ⟨g, rfl, hb, hm, hP⟩
  · exact ⟨rfl, .inl rfl, hl, hw⟩
  · exact ⟨rfl, .inr ⟨g, 0, rfl, fun i hi => by rw [Nat.zero_add]; exact hP.cell i hi⟩, hl, hw⟩
theorem IdxP.later {B : Nat} {X Y : World} {ad : Option Addr} {cap : Nat} {zs : List Int} (h : IdxP B X ad cap zs) (hb : Below X.heap.size X Y) : IdxP B Y ad cap zs := by
  rcases h with h | ⟨g, e, k1, k2, hP⟩
  · exact .inl h
  · exact .inr ⟨g, e, k1, k2, hP.later hb⟩
theorem IdxP.at {B : Nat} {X : World} {ad : Option Addr} {cap : Nat} {zs : List Int} (h : IdxP B X ad cap zs) {i : Nat} (hi : i < zs.length) : ∃ g, ad = some ⟨g, 0, none⟩ ∧ B ≤ g ∧ cap ≤ maxLen ∧ PartS X g cap zs := by
  rcases h with ⟨_, _, rfl⟩ | h
  · simp at hi
  · exact h
theorem IdxP.lt {B : Nat} {X : World} {cap g : Nat} {zs : List Int} (h : IdxP B X (some ⟨g, 0, none⟩) cap zs) : g < X.heap.size := by
  rcases h with ⟨e, _⟩ | ⟨g', e, _, _, hP⟩
  · cases e
  · cases e; exact hP.lt
set_option maxRecDepth 100000 in
set_option maxHeartbeats 4000000 in
theorem transpose1_any {n : Nat} {w : World} {vx u : Value} {s xs : List Int} {qs : List Q3} {a b : Option Addr} {ca cb : Nat} {p : List Int} {gp gx : Nat} {ap ad : Option Addr} {cp cd : Nat} (T : TensQ w vx s qs a ca b cb) (h0 : mayT s qs = 0) (hl : lensQ qs n) (hn : n ≤ 100000000) (P : ArgS w (.slice ap p.length cp) p ap cp) (hgp : w.cell? ⟨gp, 0, none⟩ = some (.slice ap p.length cp)) (hp : IsPerm p) (hpl : p.length = s.length)
    (hgx : Row w gx 26 #[.slice a s.length ca, .slice b qs.length cb]) (X : ArgS w u xs ad cd) (hx : xs.length = p.length) :
    Calls Tryz.prog 43 #[u, .pointer (some ⟨gp, 0, none⟩), .pointer (some ⟨gx, 0, none⟩)] w fun e w' => ∃ r, e = .returned r ∧ ResQ w.heap.size w' r (elV s (qs.map Q3.rat) (trI p xs)) (n + 2) ∧ Below w.heap.size w w' := by
  have HT := Lib.hid T
  have okS := mayC_zero.1 (mayT_rank h0)
  have hrk : s.length ≤ 4 := okS.rank
  obtain ⟨W, hW⟩ : ∃ W, w.alloc (.cells #[.bool false, .slice none 0 0, .slice none 0 0] 58) = W := ⟨_, rfl⟩
  have R0 : Row W w.heap.size 58 #[.bool false, .slice none 0 0, .slice none 0 0] := by rw [← hW]; exact Row.new _ _ _
  have hBW : Below w.heap.size w W := by rw [← hW]; exact (Below.refl _ _).alloc (Nat.le_refl _) _
  have hsW : W.heap.size = w.heap.size + 1 := by rw [← hW]; simp
  obtain rfl := T.is
  have HX := Lib.hid X
  have HP := Lib.hid P
  have HPP := Lib.hid hp
  have HXL := Lib.hid hx
  have HXW := Lib.hid X.wf
  have hgl := World.block_lt_of_cell? w _ hgp
  have k2 := (hBW.cell hgl).trans hgp
  obtain rfl := X.is
  obtain ⟨L, hL⟩ : ∃ L, p.length = L := ⟨_, rfl⟩
  have HL := Lib.hid hL
  have HPL := Lib.hid hpl
  have HGX := Lib.hid hgx
  have HL0 := Lib.hid hl
  rw [hx, hL]
  rw [hL] at k2 hpl
  have hL4 : L ≤ 4 := by omega
  have hmk := make_runS L (by omega)
  clear T X P hp hx hL hpl
  go_enter Tryz.func43, Tryz.ntmps43
  (try rw [hW])
  go_wp2_with fail
  obtain ⟨V, hV⟩ : ∃ V, W.alloc (.cells (madeCells #[.int .i64 0] L) 3) = V := ⟨_, rfl⟩
  have rP : PartS V (w.heap.size + 1) L (List.replicate L 0) := by rw [← hV, ← hsW]; exact ⟨_, BlkS.made W L, by simp, by simp, by simp⟩
  have rR := (show Row V w.heap.size 58 #[.bool false, .slice none 0 0, .slice none 0 0] by rw [← hV]; exact R0.alloc _)
  have hBV : Below w.heap.size w V := by rw [← hV]; exact hBW.alloc (by omega) _
  (try rw [hV])
  have k3 := (hBV.cell hgl).trans hgp
  rw [HL.out] at k3
  have H0 := Lib.hid rP
  have H1 := Lib.hid rR
  have HB := Lib.hid hBV
  have hF0 := FillP.nil p xs
  rw [HL.out] at hF0
  have HF0 := Lib.hid hF0
  clear rP rR hBV hmk hW hV k2 R0 hBW hF0
  go_wp2_with fail
  go_loopw [6, 7, 13] (fun _ _ i wr => ∃ (k : Nat) (zs : List Int), i = .int .i64 (k : Int) ∧ k ≤ L ∧ PartS wr (w.heap.size + 1) L zs ∧ FillP p xs zs k ∧ Row wr w.heap.size 58 #[.bool false, .slice none 0 0, .slice none 0 0] ∧ Below w.heap.size w wr) (fun _ _ i _ => L - (intOf i).toNat)
  case atStart => exact ⟨0, _, rfl, Nat.zero_le _, H0.out, HF0.out, H1.out, HB.out⟩
  case round =>
    obtain ⟨k, zs, rfl, hk, hP, hF, hR, hb⟩ := hrel
    have hsz := hb.size
    have HP1 := Lib.hid hP
    have HF := Lib.hid hF
    have HR := Lib.hid hR
    by_cases hlt : k < L
    · obtain ⟨b1, o1, rfl, c1⟩ := (HP.out.later hb).at (i := k) (by rw [HL.out]; exact hlt)
      obtain ⟨b2, o2, rfl, c2⟩ := (HX.out.later hb).at (i := k) (by rw [HXL.out, HL.out]; exact hlt)
      have hlow := HPP.out.low (i := k) (by rw [HL.out]; exact hlt)
      rw [HL.out] at hlow
      obtain ⟨j, hj⟩ : ∃ j : Nat, p.getD k 0 = (j : Int) := ⟨(p.getD k 0).toNat, by omega⟩
      have HJ := Lib.hid hj
      have hjl : j < L := by omega
      rw [hj] at c1
      have hf := hP.free j
      have hcj := hP.cell j (by rw [hF.1, HL.out]; exact hjl)
      have hltI : (k : Int) < (L : Int) := by omega
      have hjI : (j : Int) < (L : Int) := by omega
      clear hP hF hR hlow hj
      go_wp2
      go_roundw
      case rel =>
        have hn := HF.out.next HPP.out (by rw [HL.out]; exact hlt)
        rw [HJ.out, show ((j : Int)).toNat = j by omega] at hn
        refine ⟨k + 1, _, by go_num, by omega, HP1.out.set j (by rw [HF.out.1, HL.out]; exact hjl) _, hn, HR.out.far (by show w.heap.size ≠ w.heap.size + 1; omega) _, hb.setCell (by show w.heap.size ≤ w.heap.size + 1; omega) _⟩
      case measure => simp [intOf]; omega
    · obtain rfl : k = L := by omega
      have hltI : ¬ (k : Int) < (k : Int) := by omega
      have hzs : zs = trI p xs := by
        have := HF.out
        rw [← HL.out] at this
        exact this.full HPP.out
      have hwid : Wid zs := by rw [hzs]; exact trI_wid HXW.out
      have hlen : zs.length = k := by rw [HF.out.1, HL.out]
      have AZ := (show ResS w.heap.size wr (.slice (some ⟨w.heap.size + 1, 0, none⟩) zs.length k) zs from ⟨HP1.out.num (by omega) (by unfold maxLen; omega), hwid⟩).at_
      have he := element_any (HT.out.later hb) h0 AZ.2.1 AZ.2.2 (by rw [hlen]; omega) HL0.out hn
      rw [hlen] at he
      rw [hzs] at he
      have hgr := HGX.out.later hb
      obtain ⟨y0, y1, _, _⟩ := hgr.two
      clear hP hF hR AZ hwid
      go_wp2_with fail
      refine he.mono ?_
      rintro e w7 ⟨r, rfl, qv, hb7⟩
      have P2 := HR.out.later hb7
      have s7 := hb7.size
      have Q2 := Lib.hid qv
      obtain ⟨m5, f1, l1, j1, f2, l2, j2, rfl⟩ := qv.shape
      clear qv
      obtain ⟨u0, u1, u2, g0, g1, g2⟩ := P2.three
      go_wp2_with fail
      have P3 := P2.set3 (.bool m5) (.slice f1 l1 j1) (.slice f2 l2 j2)
      obtain ⟨z0, z1, z2, _, _, _⟩ := P3.three
      refine bodyPost_ret (v := .agg #[.bool m5, .slice f1 l1 j1, .slice f2 l2 j2]) (by simp [results, Tryz.results43, go_sem, z0, z1, z2]) rfl ⟨_, rfl, ?_, below_set3 (hb.trans (hb7.mono (by omega))) (by omega) _ _ _⟩
      exact (Q2.out.mono (by omega)).far P2 (by decide) (kept3 _ _ _)
/-- an index whose last numbers are cut to what a shape has, up to place r -/
def FillB (s xs zs : List Int) (k r : Nat) : Prop := zs.length = xs.length ∧ (∀ i, i < r → zs.getD (k + i) 0 = xs.getD (k + i) 0 % s.getD i 0) ∧ ∀ i, r ≤ i → zs.getD (k + i) 0 = xs.getD (k + i) 0
theorem FillB.nil (s xs : List Int) (k : Nat) : FillB s xs xs k 0 := ⟨rfl, fun i hi => by omega, fun i _ => rfl⟩
theorem FillB.next {s xs zs : List Int} {k r : Nat} (h : FillB s xs zs k r) (hr : k + r < xs.length) : FillB s xs (zs.set (k + r) (xs.getD (k + r) 0 % s.getD r 0)) k (r + 1) := by
  obtain ⟨h1, h2, h3⟩ := h
  refine ⟨by rw [List.length_set]; exact h1, fun i hi => ?_, fun i hi => ?_⟩
  · by_cases e : i = r
    · subst e
      exact getD_set_self _ _ _ (by omega)
    · rw [getD_set_ne _ _ (by omega), h2 i (by omega)]
  · rw [getD_set_ne _ _ (by omega), h3 i (by omega)]
theorem FillB.full {s xs zs : List Int} {k : Nat} (h : FillB s xs zs k s.length) (hl : xs.length = k + s.length) : zs.drop k = bcI s k xs := by
  obtain ⟨h1, h2, _⟩ := h
  refine list_eq_getD (by rw [bcI_len, List.length_drop]; omega) fun i hi => ?_
  rw [List.length_drop] at hi
  rw [bcI_at _ _ _ (by omega), ← h2 i (by omega)]
  simp [List.getD_eq_getElem?_getD]
end
section
open Go.RowKit
set_option linter.unusedVariables false
set_option linter.unusedSimpArgs false
/-- one place of a row, made anew -/
def stp (f : Nat → Int → Int) (z : List Int) (i : Nat) : List Int := z.set i (f i (z.getD i 0))
def stpOf (f : Nat → Int → Int) (xs : List Int) (ks : List Nat) : List Int := ks.foldl (stp f) xs
theorem stpOf_snoc (f : Nat → Int → Int) (xs : List Int) (ks : List Nat) (k : Nat) : stpOf f xs (ks ++ [k]) = stp f (stpOf f xs ks) k := by simp [stpOf]
theorem stpOf_len (f : Nat → Int → Int) (xs : List Int) (ks : List Nat) : (stpOf f xs ks).length = xs.length := by
  unfold stpOf
  induction ks generalizing xs with
  | nil => rfl
  | cons k ks ih => rw [List.foldl_cons, ih]; simp [stp]
theorem stpOf_at (f : Nat → Int → Int) (xs : List Int) (n : Nat) (hn : n ≤ xs.length) (i : Nat) : (stpOf f xs (List.range n)).getD i 0 = if i < n then f i (xs.getD i 0) else xs.getD i 0 := by
  induction n with
  | zero => simp [stpOf]
  | succ n ih =>
    rw [List.range_succ, stpOf_snoc]
    unfold stp
    by_cases e : i = n
    · subst e
      rw [getD_set_self _ _ _ (by rw [stpOf_len]; omega), ih (by omega), if_neg (by omega), if_pos (by omega)]
    · rw [getD_set_ne _ _ (by omega), ih (by omega)]
      by_cases h : i < n
      · rw [if_pos h, if_pos (by omega)]
      · rw [if_neg h, if_neg (by omega)]
theorem stpOf_all (f : Nat → Int → Int) {xs : List Int} {m : Nat} (h : xs.length = m) : stpOf f xs (List.range m) = (List.range m).map fun i : Nat => f i (xs.getD i 0) := by
  refine list_eq_getD (by rw [stpOf_len, List.length_map, List.length_range, h]) fun i hi => ?_
  rw [stpOf_len, h] at hi
  rw [stpOf_at _ _ _ (by omega), if_pos hi, getD_map_range _ hi]
theorem IdxP.keepC {B : Nat} {X Y : World} {ad : Option Addr} {cap : Nat} {zs : List Int} (h : IdxP B X ad cap zs) (k : KeepC X Y) : IdxP B Y ad cap zs := by
  rcases h with h | ⟨g, e, k1, k2, cur, hh, hr⟩
  · exact .inl h
  · exact .inr ⟨g, e, k1, k2, cur, (k _ _ _ _ hh).trans hh, hr⟩
theorem IdxP.drew {B : Nat} {X : World} {ad : Option Addr} {cap : Nat} {zs : List Int} (h : IdxP B X ad cap zs) : IdxP B X.drew ad cap zs := h
theorem ResS.keepC {base : Nat} {w w' : World} {v : Value} {xs : List Int} (h : ResS base w v xs) (k : KeepC w w') : ResS base w' v xs := by
  obtain ⟨⟨h1, h2⟩, hw⟩ := h
  refine ⟨⟨h1, ?_⟩, hw⟩
  rcases h2 with h2 | ⟨g, cap, cur, hv, hb, hg, hr⟩
  · exact .inl h2
  · exact .inr ⟨g, cap, cur, hv, hb, (k _ _ _ _ hg).trans hg, hr⟩
theorem IdxP.res {B : Nat} {X : World} {ad : Option Addr} {cap : Nat} {zs : List Int} (h : IdxP B X ad cap zs) (hw : Wid zs) : ResS B X (.slice ad zs.length cap) zs := by
  rcases h with ⟨rfl, rfl, rfl⟩ | ⟨g, rfl, k1, k2, hP⟩
  · exact ResS.nil _ _
  · exact ⟨hP.num k1 k2, hw⟩
theorem ResS.arg2 {B : Nat} {w : World} {u : Value} {xs : List Int} (h : ResS B w u xs) : ∃ ad cap, ArgS w u xs ad cap ∧ (ad = none → cap = 0) := by
  obtain ⟨ad, cap, rfl, _, A, hn⟩ := h.slice
  exact ⟨ad, cap, A, hn⟩
theorem wrap_range (x : Int) : -9223372036854775808 ≤ IntKind.i64.wrap x ∧ IntKind.i64.wrap x ≤ 9223372036854775807 := by
  simp only [IntKind.wrap, IntKind.bits, IntKind.signed]
  simp
  omega
theorem setBelow {B b : Nat} {w w' : World} (h : Below B w w') (hb : B ≤ b) (k : Nat) (u : Value) : Below B w (w'.setCell ⟨b, k, none⟩ u) := h.setCell hb u
end
section
open Go.RowKit Go.Shelf
attribute [local go_sem] Oper.semAt_some
set_option linter.unusedVariables false
set_option linter.unusedSimpArgs false
set_option maxRecDepth 100000 in
set_option maxHeartbeats 4000000 in
theorem slice1_any {n : Nat} {w0 w : World} {vx : Value} {s xs : List Int} {qs : List Q3} {a b ad : Option Addr} {ca cb cap B : Nat} {gc gx m : Nat} {cuts : List Int} {ac : Option Addr} {cc : Nat} (T : TensQ w0 vx s qs a ca b cb) (h0 : mayT s qs = 0) (hl : lensQ qs n) (hn : n ≤ 100000000) (h0B : w0.heap.size ≤ B) (hBw : B ≤ w.heap.size) (h0w : Below w0.heap.size w0 w) (I : IdxP B w ad cap xs) (hcap : xs.length ≤ cap) (nd : ad = none → cap = 0) (hgx : Row w0 gx 26 #[.slice a s.length ca, .slice b qs.length cb]) (C : ArgS w0 (.slice ac cuts.length cc) cuts ac cc) (hgc : w0.cell? ⟨gc, 0, none⟩ = some (.slice ac cuts.length cc)) (hcl : cuts.length = 2 * m) (hxm : xs.length = m) (hm4 : m ≤ 4) :
    Calls Tryz.prog 62 #[.slice ad xs.length cap, .pointer (some ⟨gc, 0, none⟩), .pointer (some ⟨gx, 0, none⟩)] w fun e w' => ∃ r, e = .returned r ∧ ResQ B w' r (elV s (qs.map Q3.rat) ((List.range m).map fun i : Nat => IntKind.i64.wrap ((xs.getD i 0) + fstP cuts i))) (n + 2) ∧ Below B w w' := by
  have HT := Lib.hid T
  obtain rfl := T.is
  obtain ⟨G, hG⟩ : ∃ G, w.heap.size = G := ⟨_, rfl⟩
  obtain ⟨W, hW⟩ : ∃ W, (w.alloc (.cells #[.slice ad xs.length cap] 22)).alloc (.cells #[.bool false, .slice none 0 0, .slice none 0 0] 58) = W := ⟨_, rfl⟩
  have R0 : Row W G 22 #[.slice ad xs.length cap] := by rw [← hW, ← hG]; exact (Row.new _ _ _).alloc _
  have R1 : Row W (G + 1) 58 #[.bool false, .slice none 0 0, .slice none 0 0] := by rw [← hW, ← hG]; have h := Row.new (w.alloc (.cells #[.slice ad xs.length cap] 22)) 58 #[.bool false, .slice none 0 0, .slice none 0 0]; simp only [World.size_alloc] at h; exact h
  have hBW0 : Below w.heap.size w W := by rw [← hW]; exact ((Below.refl _ _).alloc (Nat.le_refl _) _).alloc (by simp) _
  have hBW : Below B w W := hBW0.mono hBw
  have hsW : W.heap.size = G + 1 + 1 := by rw [← hW, ← hG]; simp
  have h0W : Below w0.heap.size w0 W := h0w.trans (hBW.mono h0B)
  have k2 := (h0W.cell (World.block_lt_of_cell? _ _ hgc)).trans hgc
  have I1 := I.later hBW0
  have HCL := Lib.hid hcl
  have HCB : Hid (cuts ≠ [] → ∀ x, ac = some x → x.block < B) := Lib.hid (fun h1 x h2 => Nat.lt_of_lt_of_le (C.lim.lt h1 x h2) h0B)
  have hlim : LimS W ac cuts := C.lim.later h0W
  have HXM := Lib.hid hxm
  have HI := Lib.hid I
  have HL0 := Lib.hid hl
  have HND := Lib.hid nd
  have HGX := Lib.hid hgx
  rw [hxm] at hcap R0 hW ⊢
  have hc8 : cuts.length ≤ 8 := by omega
  clear T hgx hl nd C I hgc hcl hxm
  obtain ⟨n', hn'⟩ : ∃ n' : Nat, Hid (3 ≤ n') := ⟨3, Nat.le_refl 3⟩
  refine (callsIn_wide (n := n')).1 ?_
  refine callsIn_of_wp_marks Tryz.func62 rfl trivial ?_ rfl
  simp only [Tryz.ntmps62, List.size_toArray, List.length_cons, List.length_nil, Nat.reduceAdd, Nat.reduceSub, Array.replicate_succ, Array.replicate_zero, List.push_toArray, List.append_toArray, List.nil_append, List.cons_append]
  gi_wp2_with fail

  (try rw [hW])
  (try rw [hG])
  refine wideCallS ((pairs_any _ _ _ _).mono ?_)
  rintro e w' ⟨rfl, rfl⟩
  gi_wp2_with fail
  obtain ⟨V, hV⟩ : ∃ V, W.alloc (.cells #[.slice ac cuts.length cc] 22) = V := ⟨_, rfl⟩
  have sV : V.heap.size = G + 1 + 1 + 1 := by rw [← hV, World.size_alloc, hsW]
  have b4 : Below W.heap.size W V := by rw [← hV]; exact (Below.refl _ _).alloc (Nat.le_refl _) _
  have d4 : Boxed V (G + 1 + 1) 22 (.slice ac cuts.length cc) := by rw [← hV, ← hsW]; exact Boxed.new _ _ _
  have q0 := R0.later b4
  have q1 := R1.later b4
  have q2 := I1.later b4
  have hbV : Below B w V := hBW.trans (b4.mono (by omega))
  have hlimV : LimS V ac cuts := hlim.later b4
  (try rw [hsW])
  (try rw [hV])
  have h3 : 3 ≤ n' := hn'
  clear hV hW k2 R0 R1 I1 hBW0 hlim
  refine wpIn_rangeFunc_ownH (F := Fence.wide) (n := n') rfl (by omega) (gf := 95) (lb := #[.pointer (some ⟨G + 1 + 1, 0, none⟩)]) rfl trivial (enters_of Tryz.func95 (by kernel_rfl) rfl)
    (pairs_stops (n' - 1) (G + 1 + 1) (B) m ac cuts cc (by omega) HCL.out HCB.out V (by omega) d4.cell hlimV) KpS.trans (KpS.b (by omega) (by omega)) (Below.refl _ _) (fun _ => rfl)
    (fun (pre : List (Fin m)) X => IdxP B X ad cap (stpOf (fun i z => IntKind.i64.wrap (z + fstP cuts i)) xs (pre.map Fin.val)) ∧ Row X G 22 #[.slice ad m cap] ∧ Row X (G + 1) 58 #[.bool false, .slice none 0 0, .slice none 0 0] ∧ Below B w X ∧ G + 1 + 1 + 1 ≤ X.heap.size)
    (fun c pre X => False)
    (fun pre X Y row ⟨e1, e2, e3, e4, e5⟩ hg hr => have kk := KeepC.grown hg (fun r e => (hr r e).2); ⟨e1.keepC kk, e2.keepC kk, e3.keepC kk, e4.grown hg (by have := e4.size; omega) (fun k e => by have := (hr k e).1; omega), Nat.le_trans e5 hg.size⟩)
    (fun _ _ _ _ _ hs _ _ => hs)
    ⟨q2, q0, q1, hbV, by omega⟩
    (fun (x : Fin m) a' X => ∃ p, G + 1 + 1 + 1 ≤ p ∧ Row X p 89 #[.int .i64 (cuts[2 * x.val]?.getD 0), .int .i64 (cuts[2 * x.val + 1]?.getD 0)] ∧
      a' = { tmps := #[.slice ad m cap, .pointer (some ⟨gc, 0, none⟩), .pointer (some ⟨gx, 0, none⟩), .pointer (some ⟨G, 0, none⟩), .pointer (some ⟨G + 1, 0, none⟩), .int .i64 (x.val : Int), .pointer (some ⟨p, 0, none⟩), .slice ac cuts.length cc, .func (.func 95) #[] #[.pointer (some ⟨G + 1 + 1, 0, none⟩)], .int .i64 (x.val : Int), .agg #[.int .i64 (cuts[2 * x.val]?.getD 0), .int .i64 (cuts[2 * x.val + 1]?.getD 0)], undef, undef, undef, undef, undef, undef, undef, undef, undef, undef, undef], defers := [] })
    (fun x a' _ X Y row ⟨p, h1, h2, h3⟩ hg hr => ⟨p, h1, h2.keepC (KeepC.grown hg (fun r e => (hr r e).2)), h3⟩)
    ?assign ?body ?done ?stop
  case assign =>
    rintro l pre ⟨k, hk⟩ X K ⟨e1, e2, e3, e4, hsI⟩ hK
    obtain ⟨z0, hz0⟩ : ∃ z0, cuts[2 * k]?.getD 0 = z0 := ⟨_, rfl⟩
    obtain ⟨z1, hz1⟩ : ∃ z1, cuts[2 * k + 1]?.getD 0 = z1 := ⟨_, rfl⟩
    have hbX : Below X.heap.size X (X.alloc (.cells #[.int .i64 z0, .int .i64 z1] 89)) := (Below.refl _ _).alloc (Nat.le_refl _) _
    have kk := KeepC.below hbX
    have HK := Lib.hid hK
    have HZ0 := Lib.hid hz0
    have HZ1 := Lib.hid hz1
    simp only [pairV]
    rw [hz0, hz1]
    clear hK hz0 hz1
    gi_wp2
    refine HK.out _ _ ⟨by simp, fun q o _ ho _ => (Below.heap_alloc _ _ _ (lt_of_block ho)).trans ho⟩ ⟨hbX.mono (by omega), Below.heap_alloc _ _ _ (by omega)⟩ ⟨e1.keepC kk, e2.keepC kk, e3.keepC kk, e4.trans (hbX.mono (by have := e4.size; omega)), by simp; omega⟩ ⟨X.heap.size, hsI, ?_, ?_⟩
    · simp only [HZ0.out, HZ1.out]; exact Row.new _ _ _
    · simp only [HZ0.out, HZ1.out]
  case body =>
    rintro l pre ⟨k, hk⟩ a' X hl hrec ⟨e1, e2, e3, e4, hsI⟩ ⟨p, hp, hR, rfl⟩ hlt
    simp only at hR ⊢
    have hln := stpOf_len (fun i z => IntKind.i64.wrap (z + fstP cuts i)) xs (pre.map Fin.val)
    obtain ⟨zs, hzs⟩ : ∃ zs, stpOf (fun i z => IntKind.i64.wrap (z + fstP cuts i)) xs (pre.map Fin.val) = zs := ⟨_, rfl⟩
    rw [hzs] at e1 hln
    have hnx : stpOf (fun i z => IntKind.i64.wrap (z + fstP cuts i)) xs (pre.map Fin.val ++ [k]) = zs.set k (IntKind.i64.wrap ((zs.getD k 0) + fstP cuts k)) := by rw [stpOf_snoc, hzs]; rfl
    obtain ⟨z0, hz0⟩ : ∃ z0, cuts[2 * k]?.getD 0 = z0 := ⟨_, rfl⟩
    obtain ⟨z1, hz1⟩ : ∃ z1, cuts[2 * k + 1]?.getD 0 = z1 := ⟨_, rfl⟩
    have hf0 : fstP cuts k = z0 := hz0
    rw [hf0] at hnx
    rw [hz0, hz1] at hR
    rw [hz0, hz1]
    obtain ⟨g, rfl, hgB, hmx, hP⟩ := e1.at (i := k) (by rw [hln, HXM.out]; exact hk)
    have hgl := hP.lt
    have hc := hP.cell k (by rw [hln, HXM.out]; exact hk)
    obtain ⟨z, hz⟩ : ∃ z, zs.getD k 0 = z := ⟨_, rfl⟩
    rw [hz] at hc hnx
    obtain ⟨y, hy⟩ : ∃ y, IntKind.i64.wrap (z + z0) = y := ⟨_, rfl⟩
    rw [hy] at hnx
    have HNX := Lib.hid hnx
    have HZS := Lib.hid hzs
    have ci := e2.cell 0
    have cp0 := hR.cell 0
    have hkI : (k : Int) < (m : Int) := by omega
    have hgG : g < G := by have := HI.out.lt; omega
    have hS0 : X.drew.cell? ⟨G, 0, none⟩ = some (.slice (some ⟨g, 0, none⟩) m cap) ∧ X.drew.cell? ⟨g, k, none⟩ = some (.int .i64 z) ∧ X.drew.cell? ⟨p, 0, none⟩ = some (.int .i64 z0) := ⟨ci, hc, cp0⟩
    have b0 : Below X.heap.size X X.drew := (Below.refl _ X).drew
    have hf := hP.free k
    have HP := Lib.hid hP
    clear hnx hzs hz0 hz1 hf0 ci cp0 hc e1 hP hz
    refine wpIn_block ?_
    refine region_roundL (fun Y => Y.cell? ⟨G, 0, none⟩ = some (.slice (some ⟨g, 0, none⟩) m cap) ∧ Y.cell? ⟨g, k, none⟩ = some (.int .i64 z) ∧ Y.cell? ⟨p, 0, none⟩ = some (.int .i64 z0)) 8
      (by kernel_rfl) (by kernel_rfl) (by rintro ⟨a', w', h⟩; exact h) hS0 (fun hHeld => ?_)
    refine todo [0, 1, 2, 3, 4, 5, 6, 7] ?_
    iterate 8
     refine todoL (v := ?_) rfl (by kernel_rfl) (fun _ _ _ h => h) (by assumption) (Or.inl ⟨by rfl, ?_⟩) ?_
     rotate_left
     · intro w hSw; (try dsimp only at hSw); go_simp; (try with_reducible rfl)
     try simp only [Act.put, List.getElem_toArray, List.getElem_cons_succ, List.getElem_cons_zero, List.setIfInBounds_toArray, List.set_cons_zero, List.set_cons_succ]
    refine todone ?_
    have hfd : X.drew.frozen? ⟨g, k, none⟩ = false := hf
    refine wpAnyL_one (i := 8) (by kernel_rfl) rfl (fun K hK => ?sb8)
    go_simp
    refine hK.out _ _ (fun h => absurd rfl h) (fun _ => ?mb8)
    clear hK K
    try simp only [Act.put, List.setIfInBounds_toArray, List.set_cons_zero, List.set_cons_succ]
    refine wpAnyL_done (by kernel_rfl) ?_ _
    refine ⟨keepsFrom_set (keepsFrom_below b0) _ _, ⟨setBelow (b0.mono (by omega)) hgB _ _, Below.heap_setCell _ _ _ _ (by show G + 1 + 1 ≠ g; omega)⟩, ?_, e2.far (by show G ≠ g; omega) _, e3.far (by show G + 1 ≠ g; omega) _, setBelow (e4.trans (b0.mono (by omega))) hgB _ _, Nat.le_trans hsI (setBelow (B := 0) (b0.mono (Nat.zero_le _)) (Nat.zero_le g) k (.int .i64 y)).size⟩
    rw [List.map_append, List.map_cons, List.map_nil, HNX.out]
    exact .inr ⟨g, rfl, hgB, hmx, PartS.set (show PartS X.drew g cap zs from HP.out) k (by rw [hln, HXM.out]; exact hk) y⟩
  case done =>
    rintro D ks X hD hup ⟨e1, e2, e3, e4, hsI⟩ hK
    rw [show ks.map Fin.val = List.range m from hup, stpOf_all _ HXM.out] at e1
    obtain ⟨zs, hzs⟩ : ∃ zs, ((List.range m).map fun i : Nat => IntKind.i64.wrap ((xs.getD i 0) + fstP cuts i)) = zs := ⟨_, rfl⟩
    rw [hzs] at e1
    have hzl : zs.length = m := by rw [← hzs]; simp
    have hw : Wid zs := by rw [← hzs]; exact Wid.map_range fun i _ => wrap_range _
    have AZ := e1.arg (by rw [hzl]; exact hcap) hw
    rw [hzl] at AZ
    have h0X : Below w0.heap.size w0 X := h0w.trans (e4.mono h0B)
    have he := element_any (HT.out.later h0X) h0 AZ HND.out (by rw [hzl]; omega) HL0.out hn
    have hgr := HGX.out.later h0X
    obtain ⟨y0, y1, _, _⟩ := hgr.two
    have ci := e2.cell 0
    have hDlt := lt_of_block hK
    have hsX := e4.size
    rw [← hzs] at he
    clear AZ hzs
    gi_wp2_with fail
    refine wideCallS (he.mono ?_)
    rintro e w7 ⟨r, rfl, qv, b7⟩
    have Q2 := Lib.hid (qv.mono (show B ≤ X.heap.size by omega))
    obtain ⟨m5, f1, l1, j1, f2, l2, j2, rfl⟩ := qv.shape
    clear qv
    have P2 := e3.later b7
    obtain ⟨u0, u1, u2, g0, g1, g2⟩ := P2.three
    have P3 := P2.set3 (.bool m5) (.slice f1 l1 j1) (.slice f2 l2 j2)
    have hK9 : w7.heap[D]? = some (.deferred (some [])) := (b7.block D hDlt).trans hK
    have hK10 : (((w7.setCell ⟨G + 1, 0, none⟩ (.bool m5)).setCell ⟨G + 1, 1, none⟩ (.slice f1 l1 j1)).setCell ⟨G + 1, 2, none⟩ (.slice f2 l2 j2)).heap[D]? = some (.deferred (some [])) := (kept3 _ _ _ D (by omega)).trans hK9
    have HR9 := Lib.hid P2
    have HR10 := Lib.hid P3
    clear P2 P3
    gi_wp2
    refine ⟨by simp, .inl ⟨_, _, rfl, run_takeDeferred hK10, ?_⟩⟩
    have kk := KeepC.grown (grownBy_putObj' (((w7.setCell ⟨G + 1, 0, none⟩ (.bool m5)).setCell ⟨G + 1, 1, none⟩ (.slice f1 l1 j1)).setCell ⟨G + 1, 2, none⟩ (.slice f2 l2 j2)) D (.deferred none)) (fun r e => by cases e; exact ⟨_, hK10, rfl⟩)
    obtain ⟨v0, v1, v2, _⟩ := (HR10.out.keepC kk).three
    refine ⟨.agg #[.bool m5, .slice f1 l1 j1, .slice f2 l2 j2], by simp [results, Tryz.f62, go_sem, v0, v1, v2], _, rfl, ?_, ?_⟩
    · exact (Q2.out.far HR9.out (by decide) (kept3 _ _ _)).keepC kk
    · exact (below_set3 (g := G + 1) (e4.trans (b7.mono (by omega))) (by omega) _ _ _).trans (belowK_b (n₀ := B) (w := w) (by omega) _ D _ _ (by omega) hK10 rfl rfl)
  case stop =>
    rintro D c pre X _ _ h _
    exact h.elim
set_option maxRecDepth 100000 in
set_option maxHeartbeats 4000000 in
theorem pad1_any {n : Nat} {w0 w : World} {vx : Value} {s xs : List Int} {qs : List Q3} {a b ad : Option Addr} {ca cb cap B : Nat} {gc gx m : Nat} {cuts : List Int} {ac : Option Addr} {cc : Nat} (T : TensQ w0 vx s qs a ca b cb) (h0 : mayT s qs = 0) (hl : lensQ qs n) (hn : n ≤ 100000000) (h0B : w0.heap.size ≤ B) (hBw : B ≤ w.heap.size) (h0w : Below w0.heap.size w0 w) (I : IdxP B w ad cap xs) (hcap : xs.length ≤ cap) (nd : ad = none → cap = 0) (hgx : Row w0 gx 26 #[.slice a s.length ca, .slice b qs.length cb]) (C : ArgS w0 (.slice ac cuts.length cc) cuts ac cc) (hgc : w0.cell? ⟨gc, 0, none⟩ = some (.slice ac cuts.length cc)) (hcl : cuts.length = 2 * m) (hxm : xs.length = m) (hm4 : m ≤ 4) :
    Calls Tryz.prog 65 #[.slice ad xs.length cap, .pointer (some ⟨gc, 0, none⟩), .pointer (some ⟨gx, 0, none⟩)] w fun e w' => ∃ r, e = .returned r ∧ ResQ B w' r (elV s (qs.map Q3.rat) ((List.range m).map fun i : Nat => IntKind.i64.wrap ((xs.getD i 0) - fstP cuts i))) (n + 2) ∧ Below B w w' := by
  have HT := Lib.hid T
  obtain rfl := T.is
  obtain ⟨G, hG⟩ : ∃ G, w.heap.size = G := ⟨_, rfl⟩
  obtain ⟨W, hW⟩ : ∃ W, (w.alloc (.cells #[.slice ad xs.length cap] 22)).alloc (.cells #[.bool false, .slice none 0 0, .slice none 0 0] 58) = W := ⟨_, rfl⟩
  have R0 : Row W G 22 #[.slice ad xs.length cap] := by rw [← hW, ← hG]; exact (Row.new _ _ _).alloc _
  have R1 : Row W (G + 1) 58 #[.bool false, .slice none 0 0, .slice none 0 0] := by rw [← hW, ← hG]; have h := Row.new (w.alloc (.cells #[.slice ad xs.length cap] 22)) 58 #[.bool false, .slice none 0 0, .slice none 0 0]; simp only [World.size_alloc] at h; exact h
  have hBW0 : Below w.heap.size w W := by rw [← hW]; exact ((Below.refl _ _).alloc (Nat.le_refl _) _).alloc (by simp) _
  have hBW : Below B w W := hBW0.mono hBw
  have hsW : W.heap.size = G + 1 + 1 := by rw [← hW, ← hG]; simp
  have h0W : Below w0.heap.size w0 W := h0w.trans (hBW.mono h0B)
  have k2 := (h0W.cell (World.block_lt_of_cell? _ _ hgc)).trans hgc
  have I1 := I.later hBW0
  have HCL := Lib.hid hcl
  have HCB : Hid (cuts ≠ [] → ∀ x, ac = some x → x.block < B) := Lib.hid (fun h1 x h2 => Nat.lt_of_lt_of_le (C.lim.lt h1 x h2) h0B)
  have hlim : LimS W ac cuts := C.lim.later h0W
  have HXM := Lib.hid hxm
  have HI := Lib.hid I
  have HL0 := Lib.hid hl
  have HND := Lib.hid nd
  have HGX := Lib.hid hgx
  rw [hxm] at hcap R0 hW ⊢
  have hc8 : cuts.length ≤ 8 := by omega
  clear T hgx hl nd C I hgc hcl hxm
  obtain ⟨n', hn'⟩ : ∃ n' : Nat, Hid (3 ≤ n') := ⟨3, Nat.le_refl 3⟩
  refine (callsIn_wide (n := n')).1 ?_
  refine callsIn_of_wp_marks Tryz.func65 rfl trivial ?_ rfl
  simp only [Tryz.ntmps65, List.size_toArray, List.length_cons, List.length_nil, Nat.reduceAdd, Nat.reduceSub, Array.replicate_succ, Array.replicate_zero, List.push_toArray, List.append_toArray, List.nil_append, List.cons_append]
  gi_wp2_with fail

  (try rw [hW])
  (try rw [hG])
  refine wideCallS ((pairs_any _ _ _ _).mono ?_)
  rintro e w' ⟨rfl, rfl⟩
  gi_wp2_with fail
  obtain ⟨V, hV⟩ : ∃ V, W.alloc (.cells #[.slice ac cuts.length cc] 22) = V := ⟨_, rfl⟩
  have sV : V.heap.size = G + 1 + 1 + 1 := by rw [← hV, World.size_alloc, hsW]
  have b4 : Below W.heap.size W V := by rw [← hV]; exact (Below.refl _ _).alloc (Nat.le_refl _) _
  have d4 : Boxed V (G + 1 + 1) 22 (.slice ac cuts.length cc) := by rw [← hV, ← hsW]; exact Boxed.new _ _ _
  have q0 := R0.later b4
  have q1 := R1.later b4
  have q2 := I1.later b4
  have hbV : Below B w V := hBW.trans (b4.mono (by omega))
  have hlimV : LimS V ac cuts := hlim.later b4
  (try rw [hsW])
  (try rw [hV])
  have h3 : 3 ≤ n' := hn'
  clear hV hW k2 R0 R1 I1 hBW0 hlim
  refine wpIn_rangeFunc_ownH (F := Fence.wide) (n := n') rfl (by omega) (gf := 95) (lb := #[.pointer (some ⟨G + 1 + 1, 0, none⟩)]) rfl trivial (enters_of Tryz.func95 (by kernel_rfl) rfl)
    (pairs_stops (n' - 1) (G + 1 + 1) (B) m ac cuts cc (by omega) HCL.out HCB.out V (by omega) d4.cell hlimV) KpS.trans (KpS.b (by omega) (by omega)) (Below.refl _ _) (fun _ => rfl)
    (fun (pre : List (Fin m)) X => IdxP B X ad cap (stpOf (fun i z => IntKind.i64.wrap (z - fstP cuts i)) xs (pre.map Fin.val)) ∧ Row X G 22 #[.slice ad m cap] ∧ Row X (G + 1) 58 #[.bool false, .slice none 0 0, .slice none 0 0] ∧ Below B w X ∧ G + 1 + 1 + 1 ≤ X.heap.size)
    (fun c pre X => False)
    (fun pre X Y row ⟨e1, e2, e3, e4, e5⟩ hg hr => have kk := KeepC.grown hg (fun r e => (hr r e).2); ⟨e1.keepC kk, e2.keepC kk, e3.keepC kk, e4.grown hg (by have := e4.size; omega) (fun k e => by have := (hr k e).1; omega), Nat.le_trans e5 hg.size⟩)
    (fun _ _ _ _ _ hs _ _ => hs)
    ⟨q2, q0, q1, hbV, by omega⟩
    (fun (x : Fin m) a' X => ∃ p, G + 1 + 1 + 1 ≤ p ∧ Row X p 89 #[.int .i64 (cuts[2 * x.val]?.getD 0), .int .i64 (cuts[2 * x.val + 1]?.getD 0)] ∧
      a' = { tmps := #[.slice ad m cap, .pointer (some ⟨gc, 0, none⟩), .pointer (some ⟨gx, 0, none⟩), .pointer (some ⟨G, 0, none⟩), .pointer (some ⟨G + 1, 0, none⟩), .int .i64 (x.val : Int), .pointer (some ⟨p, 0, none⟩), .slice ac cuts.length cc, .func (.func 95) #[] #[.pointer (some ⟨G + 1 + 1, 0, none⟩)], .int .i64 (x.val : Int), .agg #[.int .i64 (cuts[2 * x.val]?.getD 0), .int .i64 (cuts[2 * x.val + 1]?.getD 0)], undef, undef, undef, undef, undef, undef, undef, undef, undef, undef, undef], defers := [] })
    (fun x a' _ X Y row ⟨p, h1, h2, h3⟩ hg hr => ⟨p, h1, h2.keepC (KeepC.grown hg (fun r e => (hr r e).2)), h3⟩)
    ?assign ?body ?done ?stop
  case assign =>
    rintro l pre ⟨k, hk⟩ X K ⟨e1, e2, e3, e4, hsI⟩ hK
    obtain ⟨z0, hz0⟩ : ∃ z0, cuts[2 * k]?.getD 0 = z0 := ⟨_, rfl⟩
    obtain ⟨z1, hz1⟩ : ∃ z1, cuts[2 * k + 1]?.getD 0 = z1 := ⟨_, rfl⟩
    have hbX : Below X.heap.size X (X.alloc (.cells #[.int .i64 z0, .int .i64 z1] 89)) := (Below.refl _ _).alloc (Nat.le_refl _) _
    have kk := KeepC.below hbX
    have HK := Lib.hid hK
    have HZ0 := Lib.hid hz0
    have HZ1 := Lib.hid hz1
    simp only [pairV]
    rw [hz0, hz1]
    clear hK hz0 hz1
    gi_wp2
    refine HK.out _ _ ⟨by simp, fun q o _ ho _ => (Below.heap_alloc _ _ _ (lt_of_block ho)).trans ho⟩ ⟨hbX.mono (by omega), Below.heap_alloc _ _ _ (by omega)⟩ ⟨e1.keepC kk, e2.keepC kk, e3.keepC kk, e4.trans (hbX.mono (by have := e4.size; omega)), by simp; omega⟩ ⟨X.heap.size, hsI, ?_, ?_⟩
    · simp only [HZ0.out, HZ1.out]; exact Row.new _ _ _
    · simp only [HZ0.out, HZ1.out]
  case body =>
    rintro l pre ⟨k, hk⟩ a' X hl hrec ⟨e1, e2, e3, e4, hsI⟩ ⟨p, hp, hR, rfl⟩ hlt
    simp only at hR ⊢
    have hln := stpOf_len (fun i z => IntKind.i64.wrap (z - fstP cuts i)) xs (pre.map Fin.val)
    obtain ⟨zs, hzs⟩ : ∃ zs, stpOf (fun i z => IntKind.i64.wrap (z - fstP cuts i)) xs (pre.map Fin.val) = zs := ⟨_, rfl⟩
    rw [hzs] at e1 hln
    have hnx : stpOf (fun i z => IntKind.i64.wrap (z - fstP cuts i)) xs (pre.map Fin.val ++ [k]) = zs.set k (IntKind.i64.wrap ((zs.getD k 0) - fstP cuts k)) := by rw [stpOf_snoc, hzs]; rfl
    obtain ⟨z0, hz0⟩ : ∃ z0, cuts[2 * k]?.getD 0 = z0 := ⟨_, rfl⟩
    obtain ⟨z1, hz1⟩ : ∃ z1, cuts[2 * k + 1]?.getD 0 = z1 := ⟨_, rfl⟩
    have hf0 : fstP cuts k = z0 := hz0
    rw [hf0] at hnx
    rw [hz0, hz1] at hR
    rw [hz0, hz1]
    obtain ⟨g, rfl, hgB, hmx, hP⟩ := e1.at (i := k) (by rw [hln, HXM.out]; exact hk)
    have hgl := hP.lt
    have hc := hP.cell k (by rw [hln, HXM.out]; exact hk)
    obtain ⟨z, hz⟩ : ∃ z, zs.getD k 0 = z := ⟨_, rfl⟩
    rw [hz] at hc hnx
    obtain ⟨y, hy⟩ : ∃ y, IntKind.i64.wrap (z - z0) = y := ⟨_, rfl⟩
    rw [hy] at hnx
    have HNX := Lib.hid hnx
    have HZS := Lib.hid hzs
    have ci := e2.cell 0
    have cp0 := hR.cell 0
    have hkI : (k : Int) < (m : Int) := by omega
    have hgG : g < G := by have := HI.out.lt; omega
    have hS0 : X.drew.cell? ⟨G, 0, none⟩ = some (.slice (some ⟨g, 0, none⟩) m cap) ∧ X.drew.cell? ⟨g, k, none⟩ = some (.int .i64 z) ∧ X.drew.cell? ⟨p, 0, none⟩ = some (.int .i64 z0) := ⟨ci, hc, cp0⟩
    have b0 : Below X.heap.size X X.drew := (Below.refl _ X).drew
    have hf := hP.free k
    have HP := Lib.hid hP
    clear hnx hzs hz0 hz1 hf0 ci cp0 hc e1 hP hz
    refine wpIn_block ?_
    refine region_roundL (fun Y => Y.cell? ⟨G, 0, none⟩ = some (.slice (some ⟨g, 0, none⟩) m cap) ∧ Y.cell? ⟨g, k, none⟩ = some (.int .i64 z) ∧ Y.cell? ⟨p, 0, none⟩ = some (.int .i64 z0)) 8
      (by kernel_rfl) (by kernel_rfl) (by rintro ⟨a', w', h⟩; exact h) hS0 (fun hHeld => ?_)
    refine todo [0, 1, 2, 3, 4, 5, 6, 7] ?_
    iterate 8
     refine todoL (v := ?_) rfl (by kernel_rfl) (fun _ _ _ h => h) (by assumption) (Or.inl ⟨by rfl, ?_⟩) ?_
     rotate_left
     · intro w hSw; (try dsimp only at hSw); go_simp; (try with_reducible rfl)
     try simp only [Act.put, List.getElem_toArray, List.getElem_cons_succ, List.getElem_cons_zero, List.setIfInBounds_toArray, List.set_cons_zero, List.set_cons_succ]
    refine todone ?_
    have hfd : X.drew.frozen? ⟨g, k, none⟩ = false := hf
    refine wpAnyL_one (i := 8) (by kernel_rfl) rfl (fun K hK => ?sb8)
    go_simp
    refine hK.out _ _ (fun h => absurd rfl h) (fun _ => ?mb8)
    clear hK K
    try simp only [Act.put, List.setIfInBounds_toArray, List.set_cons_zero, List.set_cons_succ]
    refine wpAnyL_done (by kernel_rfl) ?_ _
    refine ⟨keepsFrom_set (keepsFrom_below b0) _ _, ⟨setBelow (b0.mono (by omega)) hgB _ _, Below.heap_setCell _ _ _ _ (by show G + 1 + 1 ≠ g; omega)⟩, ?_, e2.far (by show G ≠ g; omega) _, e3.far (by show G + 1 ≠ g; omega) _, setBelow (e4.trans (b0.mono (by omega))) hgB _ _, Nat.le_trans hsI (setBelow (B := 0) (b0.mono (Nat.zero_le _)) (Nat.zero_le g) k (.int .i64 y)).size⟩
    rw [List.map_append, List.map_cons, List.map_nil, HNX.out]
    exact .inr ⟨g, rfl, hgB, hmx, PartS.set (show PartS X.drew g cap zs from HP.out) k (by rw [hln, HXM.out]; exact hk) y⟩
  case done =>
    rintro D ks X hD hup ⟨e1, e2, e3, e4, hsI⟩ hK
    rw [show ks.map Fin.val = List.range m from hup, stpOf_all _ HXM.out] at e1
    obtain ⟨zs, hzs⟩ : ∃ zs, ((List.range m).map fun i : Nat => IntKind.i64.wrap ((xs.getD i 0) - fstP cuts i)) = zs := ⟨_, rfl⟩
    rw [hzs] at e1
    have hzl : zs.length = m := by rw [← hzs]; simp
    have hw : Wid zs := by rw [← hzs]; exact Wid.map_range fun i _ => wrap_range _
    have AZ := e1.arg (by rw [hzl]; exact hcap) hw
    rw [hzl] at AZ
    have h0X : Below w0.heap.size w0 X := h0w.trans (e4.mono h0B)
    have he := element_any (HT.out.later h0X) h0 AZ HND.out (by rw [hzl]; omega) HL0.out hn
    have hgr := HGX.out.later h0X
    obtain ⟨y0, y1, _, _⟩ := hgr.two
    have ci := e2.cell 0
    have hDlt := lt_of_block hK
    have hsX := e4.size
    rw [← hzs] at he
    clear AZ hzs
    gi_wp2_with fail
    refine wideCallS (he.mono ?_)
    rintro e w7 ⟨r, rfl, qv, b7⟩
    have Q2 := Lib.hid (qv.mono (show B ≤ X.heap.size by omega))
    obtain ⟨m5, f1, l1, j1, f2, l2, j2, rfl⟩ := qv.shape
    clear qv
    have P2 := e3.later b7
    obtain ⟨u0, u1, u2, g0, g1, g2⟩ := P2.three
    have P3 := P2.set3 (.bool m5) (.slice f1 l1 j1) (.slice f2 l2 j2)
    have hK9 : w7.heap[D]? = some (.deferred (some [])) := (b7.block D hDlt).trans hK
    have hK10 : (((w7.setCell ⟨G + 1, 0, none⟩ (.bool m5)).setCell ⟨G + 1, 1, none⟩ (.slice f1 l1 j1)).setCell ⟨G + 1, 2, none⟩ (.slice f2 l2 j2)).heap[D]? = some (.deferred (some [])) := (kept3 _ _ _ D (by omega)).trans hK9
    have HR9 := Lib.hid P2
    have HR10 := Lib.hid P3
    clear P2 P3
    gi_wp2
    refine ⟨by simp, .inl ⟨_, _, rfl, run_takeDeferred hK10, ?_⟩⟩
    have kk := KeepC.grown (grownBy_putObj' (((w7.setCell ⟨G + 1, 0, none⟩ (.bool m5)).setCell ⟨G + 1, 1, none⟩ (.slice f1 l1 j1)).setCell ⟨G + 1, 2, none⟩ (.slice f2 l2 j2)) D (.deferred none)) (fun r e => by cases e; exact ⟨_, hK10, rfl⟩)
    obtain ⟨v0, v1, v2, _⟩ := (HR10.out.keepC kk).three
    refine ⟨.agg #[.bool m5, .slice f1 l1 j1, .slice f2 l2 j2], by simp [results, Tryz.f65, go_sem, v0, v1, v2], _, rfl, ?_, ?_⟩
    · exact (Q2.out.far HR9.out (by decide) (kept3 _ _ _)).keepC kk
    · exact (below_set3 (g := G + 1) (e4.trans (b7.mono (by omega))) (by omega) _ _ _).trans (belowK_b (n₀ := B) (w := w) (by omega) _ D _ _ (by omega) hK10 rfl rfl)
  case stop =>
    rintro D c pre X _ _ h _
    exact h.elim
end
section
open Go.RowKit Go.Shelf
attribute [local go_sem] Oper.semAt_some
set_option linter.unusedVariables false
set_option linter.unusedSimpArgs false
/-- does a pair lead beyond its dimension? -/
def outC (s cuts : List Int) (ks : List Nat) : Int := if ∃ i, i ∈ ks ∧ s.getD i 0 < sndP cuts i then 13 else 0
theorem outC_nil (s cuts : List Int) : outC s cuts [] = 0 := if_neg (fun ⟨i, h, _⟩ => absurd h List.not_mem_nil)
theorem outC_yes (s cuts : List Int) (ks : List Nat) (k : Nat) (h : s.getD k 0 < sndP cuts k) : outC s cuts (ks ++ [k]) = 13 := if_pos ⟨k, List.mem_append_right _ (List.mem_singleton.2 rfl), h⟩
theorem outC_no (s cuts : List Int) (ks : List Nat) (k : Nat) (h : ¬ s.getD k 0 < sndP cuts k) : outC s cuts (ks ++ [k]) = outC s cuts ks := by
  unfold outC
  by_cases g : ∃ i, i ∈ ks ∧ s.getD i 0 < sndP cuts i
  · obtain ⟨i, hi, hx⟩ := g
    rw [if_pos ⟨i, List.mem_append_left _ hi, hx⟩, if_pos ⟨i, hi, hx⟩]
  · rw [if_neg g, if_neg]
    rintro ⟨i, hi, hx⟩
    rcases List.mem_append.1 hi with hi | hi
    · exact g ⟨i, hi, hx⟩
    · rw [List.mem_singleton.1 hi] at hx
      exact h hx
theorem outC_all {s cuts : List Int} (hl : cuts.length = 2 * s.length) (hg : ∀ i, i < s.length → ¬ badCut cuts i) : slC s cuts = outC s cuts (List.range s.length) := by
  unfold outC
  by_cases g : ∃ i, i ∈ List.range s.length ∧ s.getD i 0 < sndP cuts i
  · obtain ⟨i, hi, hx⟩ := g
    rw [if_pos ⟨i, hi, hx⟩]
    exact slC_out hl hg (List.mem_range.1 hi) hx
  · rw [if_neg g]
    exact slC_ok hl hg fun i hi hx => g ⟨i, List.mem_range.2 hi, hx⟩
set_option maxRecDepth 100000 in
set_option maxHeartbeats 4000000 in
theorem mayCuts_any {w : World} {s cuts : List Int} {a ap : Option Addr} {ca cp : Nat} (A : ArgS w (.slice a s.length ca) s a ca) (P : ArgS w (.slice ap cuts.length cp) cuts ap cp) (hs : s.length ≤ 8000000000000) (hps : cuts.length ≤ 8000000000000) :
    Calls Tryz.prog 59 #[.slice a s.length ca, .slice ap cuts.length cp] w fun e w' => e = .returned (.int .i64 (slC s cuts)) ∧ Below w.heap.size w w' := by
  obtain ⟨G, hG⟩ : ∃ G, w.heap.size = G := ⟨_, rfl⟩
  obtain ⟨m, hm⟩ : ∃ m, s.length = m := ⟨_, rfl⟩
  obtain ⟨W, hW⟩ : ∃ W, (w.alloc (.cells #[.slice a m ca] 23)).alloc (.cells #[.int .i64 0] 27) = W := ⟨_, rfl⟩
  have RS : Row W G 23 #[.slice a m ca] := by rw [← hW, ← hG]; exact (Row.new _ _ _).alloc _
  have R0 : Row W (G + 1) 27 #[.int .i64 0] := by rw [← hW, ← hG]; have h := Row.new (w.alloc (.cells #[.slice a m ca] 23)) 27 #[.int .i64 0]; simp only [World.size_alloc] at h; exact h
  have hBW : Below w.heap.size w W := by rw [← hW]; exact ((Below.refl _ _).alloc (Nat.le_refl _) _).alloc (by simp) _
  have hsW : W.heap.size = G + 1 + 1 := by rw [← hW, ← hG]; simp
  have HA := Lib.hid A
  have HM := Lib.hid hm
  obtain ⟨c, hc⟩ : ∃ c, slC s cuts = c := ⟨_, rfl⟩
  have HC := Lib.hid hc
  have f0 := R0.free 0
  have d0 := R0.cell 0
  have k0 := RS.cell 0
  have hwm : IntKind.i64.wrap (2 * (m : Int)) = 2 * (m : Int) := wrap_i64 (by omega) (by omega)
  rw [hc, hG]
  rw [hm] at hs ⊢
  by_cases hcl : cuts.length = 2 * m
  · have HCL := Lib.hid hcl
    have HCB : Hid (cuts ≠ [] → ∀ x, ap = some x → x.block < G) := Lib.hid (fun h1 x h2 => hG ▸ P.lim.lt h1 x h2)
    have hlim : LimS W ap cuts := P.lim.later hBW
    have hlenI : ((cuts.length : Int) != 2 * (m : Int)) = false := by simp; omega
    obtain ⟨U0, hU⟩ : ∃ U, W.alloc (.cells #[.int .i64 0] 27) = U := ⟨_, rfl⟩
    have RE0 : Row U0 (G + 1 + 1) 27 #[.int .i64 0] := by rw [← hU, ← hsW]; exact Row.new _ _ _
    have bU0 : Below W.heap.size W U0 := by rw [← hU]; exact (Below.refl _ _).alloc (Nat.le_refl _) _
    have sU0 : U0.heap.size = G + 1 + 1 + 1 := by rw [← hU, World.size_alloc, hsW]
    have fU := RE0.free 0
    have cU := RE0.cell 0
    obtain ⟨U, hU2⟩ : ∃ U, U0.setCell ⟨G + 1 + 1, 0, none⟩ (.int .i64 0) = U := ⟨_, rfl⟩
    have RE : Row U (G + 1 + 1) 27 #[.int .i64 0] := by rw [← hU2]; exact RE0.set 0 _
    have bU : Below W.heap.size W U := by rw [← hU2]; exact setBelow bU0 (by omega) _ _
    have sU : U.heap.size = G + 1 + 1 + 1 := by rw [← hU2, setSize]; exact sU0
    clear A P hm hc hcl
    obtain ⟨n', hn'⟩ : ∃ n' : Nat, Hid (3 ≤ n') := ⟨3, Nat.le_refl 3⟩
    refine (callsIn_wide (n := n')).1 ?_
    refine callsIn_of_wp_marks Tryz.func59 rfl trivial ?_ rfl
    simp only [Tryz.ntmps59, List.size_toArray, List.length_cons, List.length_nil, Nat.reduceAdd, Nat.reduceSub, Array.replicate_succ, Array.replicate_zero, List.push_toArray, List.append_toArray, List.nil_append, List.cons_append]
    gi_wp2_with fail
    (try rw [hW])
    (try rw [hU2])
    refine wideCallS ((pairs_any _ _ _ _).mono ?_)
    rintro e w' ⟨rfl, rfl⟩
    gi_wp2_with fail
    obtain ⟨V, hV⟩ : ∃ V, U.alloc (.cells #[.slice ap cuts.length cp] 22) = V := ⟨_, rfl⟩
    have sV : V.heap.size = G + 1 + 1 + 1 + 1 := by rw [← hV, World.size_alloc, sU]
    have b4 : Below U.heap.size U V := by rw [← hV]; exact (Below.refl _ _).alloc (Nat.le_refl _) _
    have d4 : Boxed V (G + 1 + 1 + 1) 22 (.slice ap cuts.length cp) := by rw [← hV, ← sU]; exact Boxed.new _ _ _
    have qs0 := (RS.later bU).later b4
    have q0 := (R0.later bU).later b4
    have qe := RE.later b4
    have bWV : Below W.heap.size W V := bU.trans (b4.mono (by omega))
    have hbV : Below G w V := by rw [← hG]; exact hBW.trans (bWV.mono (by omega))
    have hlimV : LimS V ap cuts := hlim.later bWV
    (try rw [sU])
    (try rw [hsW])
    (try rw [hV])
    have h3 : 3 ≤ n' := hn'
    clear hV hW R0 hlim f0 d0 k0 RS RE hU bU RE0 bU0 fU cU hU2
    refine wpIn_rangeFunc_ownH (F := Fence.wide) (n := n') rfl (by omega) (gf := 95) (lb := #[.pointer (some ⟨G + 1 + 1 + 1, 0, none⟩)]) rfl trivial (enters_of Tryz.func95 (by kernel_rfl) rfl)
      (pairs_stops (n' - 1) (G + 1 + 1 + 1) (G) m ap cuts cp (by omega) HCL.out HCB.out V (by omega) d4.cell hlimV) KpS.trans (KpS.b (by omega) (by omega)) (Below.refl _ _) (fun _ => rfl)
      (fun (pre : List (Fin m)) X => Row X G 23 #[.slice a m ca] ∧ Row X (G + 1) 27 #[.int .i64 0] ∧ Row X (G + 1 + 1) 27 #[.int .i64 (outC s cuts (pre.map Fin.val))] ∧ (∀ x ∈ pre, ¬ badCut cuts x.val) ∧ Below G w X ∧ G + 1 + 1 + 1 + 1 ≤ X.heap.size)
      (fun c pre X => c = .ret ∧ Row X (G + 1) 27 #[.int .i64 11] ∧ (∃ x ∈ pre, badCut cuts x.val) ∧ Below G w X)
      (fun pre X Y row ⟨e0, e1, e2, e3, e4, e5⟩ hg hr => have kk := KeepC.grown hg (fun r e => (hr r e).2); ⟨e0.keepC kk, e1.keepC kk, e2.keepC kk, e3, e4.grown hg (by have := e4.size; omega) (fun k e => by have := (hr k e).1; omega), Nat.le_trans e5 hg.size⟩)
      (fun c pre X Y row ⟨e0, e1, e2, e4⟩ hg hr => have kk := KeepC.grown hg (fun r e => (hr r e).2); ⟨e0, e1.keepC kk, e2, e4.grown hg (by have := e4.size; omega) (fun k e => by have := (hr k e).1; omega)⟩)
      ⟨qs0, q0, by rw [List.map_nil, outC_nil]; exact qe, (fun x h => absurd h List.not_mem_nil), hbV, by omega⟩
      (fun (x : Fin m) a' X => ∃ p, G + 1 + 1 + 1 + 1 ≤ p ∧ Row X p 89 #[.int .i64 (cuts[2 * x.val]?.getD 0), .int .i64 (cuts[2 * x.val + 1]?.getD 0)] ∧
        a' = { tmps := #[.slice a m ca, .slice ap cuts.length cp, .pointer (some ⟨G, 0, none⟩), undef, .pointer (some ⟨G + 1, 0, none⟩), .pointer (some ⟨G + 1 + 1, 0, none⟩), .int .i64 (x.val : Int), .pointer (some ⟨p, 0, none⟩), .slice ap cuts.length cp, .int .i64 (cuts.length : Int), .slice a m ca, .int .i64 (m : Int), .int .i64 (2 * (m : Int)), .bool false, .slice ap cuts.length cp, .func (.func 95) #[] #[.pointer (some ⟨G + 1 + 1 + 1, 0, none⟩)], .int .i64 (x.val : Int), .agg #[.int .i64 (cuts[2 * x.val]?.getD 0), .int .i64 (cuts[2 * x.val + 1]?.getD 0)], undef, undef, undef, undef, undef, undef, undef, undef, undef, undef, undef, undef, undef, undef, undef, undef, undef, undef], defers := [] })
      (fun x a' _ X Y row ⟨p, h1, h2, h3⟩ hg hr => ⟨p, h1, h2.keepC (KeepC.grown hg (fun r e => (hr r e).2)), h3⟩)
      ?assign ?body ?done ?stop
    case assign =>
      rintro l pre ⟨k, hk⟩ X K ⟨e0, e1, e2, e3, e4, hsI⟩ hK
      obtain ⟨z0, hz0⟩ : ∃ z0, cuts[2 * k]?.getD 0 = z0 := ⟨_, rfl⟩
      obtain ⟨z1, hz1⟩ : ∃ z1, cuts[2 * k + 1]?.getD 0 = z1 := ⟨_, rfl⟩
      have hbX : Below X.heap.size X (X.alloc (.cells #[.int .i64 z0, .int .i64 z1] 89)) := (Below.refl _ _).alloc (Nat.le_refl _) _
      have kk := KeepC.below hbX
      have HK := Lib.hid hK
      have HZ0 := Lib.hid hz0
      have HZ1 := Lib.hid hz1
      simp only [pairV]
      rw [hz0, hz1]
      clear hK hz0 hz1
      gi_wp2
      refine HK.out _ _ ⟨by simp, fun q o _ ho _ => (Below.heap_alloc _ _ _ (lt_of_block ho)).trans ho⟩ ⟨hbX.mono (by omega), Below.heap_alloc _ _ _ (by omega)⟩ ⟨e0.keepC kk, e1.keepC kk, e2.keepC kk, e3, e4.trans (hbX.mono (by have := e4.size; omega)), by simp; omega⟩ ⟨X.heap.size, hsI, ?_, ?_⟩
      · simp only [HZ0.out, HZ1.out]; exact Row.new _ _ _
      · simp only [HZ0.out, HZ1.out]
    case body =>
      rintro l pre ⟨k, hk⟩ a' X hl hrec ⟨e0, e1, e2, e3, e4, hsI⟩ ⟨p, hp, hR, rfl⟩ hlt
      simp only at hR ⊢
      obtain ⟨z0, hz0⟩ : ∃ z0, cuts[2 * k]?.getD 0 = z0 := ⟨_, rfl⟩
      obtain ⟨z1, hz1⟩ : ∃ z1, cuts[2 * k + 1]?.getD 0 = z1 := ⟨_, rfl⟩
      have hf0 : fstP cuts k = z0 := hz0
      have hf1 : sndP cuts k = z1 := hz1
      have hbd : badCut cuts k ↔ (z0 < 0 ∨ z1 ≤ z0) := by unfold badCut; rw [hf0, hf1]
      rw [hz0, hz1] at hR
      rw [hz0, hz1]
      have cp0 := hR.cell 0
      have cp1 := hR.cell 1
      have fe := e1.free 0
      have ce := e1.cell 0
      have HBD := Lib.hid hbd
      have E0 := Lib.hid e0
      have E1 := Lib.hid e1
      have E2 := Lib.hid e2
      have E3 := Lib.hid e3
      have HF1 := Lib.hid hf1
      have HR := Lib.hid hR
      clear hbd hz0 hz1 hf0 hf1 hR e0 e1 e2 e3
      by_cases hbad : z0 < 0 ∨ z1 ≤ z0
      · have R9 : Row (X.setCell ⟨G + 1, 0, none⟩ (.int .i64 11)) (G + 1) 27 #[.int .i64 11] := E1.out.set 0 _
        have fin : KeepsFrom (G + 1 + 1 + 1 + 1) X (X.setCell ⟨G + 1, 0, none⟩ (.int .i64 11)) ∧ Code.ret = Code.ret ∧ Row (X.setCell ⟨G + 1, 0, none⟩ (.int .i64 11)) (G + 1) 27 #[.int .i64 11] ∧ (∃ x ∈ pre ++ [(⟨k, hk⟩ : Fin m)], badCut cuts x.val) ∧ Below G w (X.setCell ⟨G + 1, 0, none⟩ (.int .i64 11)) :=
          ⟨keepsFrom_set (keepsFrom_below (Below.refl _ _)) _ _, rfl, R9, ⟨_, List.mem_append_right _ (List.mem_singleton.2 rfl), HBD.out.2 hbad⟩, setBelow e4 (by omega) _ _⟩
        have FIN := Lib.hid fin
        by_cases h0 : z0 < 0
        · clear hbad R9 fin
          gi_wp2
          exact ⟨FIN.out.1, rfl, FIN.out.2.2⟩
        · have h1 : z1 ≤ z0 := hbad.resolve_left h0
          clear hbad R9 fin
          gi_wp2
          exact ⟨FIN.out.1, rfl, FIN.out.2.2⟩
      · have h0 : ¬ z0 < 0 := fun h => hbad (.inl h)
        have h1 : ¬ z1 ≤ z0 := fun h => hbad (.inr h)
        have HBAD := Lib.hid hbad
        obtain ⟨b1, o1, rfl, c1⟩ := (HA.out.later (hG.symm ▸ e4)).at (i := k) (by rw [HM.out]; exact hk)
        obtain ⟨d, hd⟩ : ∃ d, s.getD k 0 = d := ⟨_, rfl⟩
        rw [hd] at c1
        have HD := Lib.hid hd
        have ks := E0.out.cell 0
        have hS0 : X.drew.cell? ⟨p, 1, none⟩ = some (.int .i64 z1) ∧ X.drew.cell? ⟨G, 0, none⟩ = some (.slice (some ⟨b1, o1, none⟩) m ca) ∧ X.drew.cell? ⟨b1, o1 + k, none⟩ = some (.int .i64 d) := ⟨cp1, ks, c1⟩
        have hkI : (k : Int) < (m : Int) := by omega
        have b0 : Below X.heap.size X X.drew := (Below.refl _ X).drew
        have hnot : ∀ x ∈ pre ++ [(⟨k, hk⟩ : Fin m)], ¬ badCut cuts x.val := fun x hx => by
          rcases List.mem_append.1 hx with hx | hx
          · exact E3.out x hx
          · rw [List.mem_singleton.1 hx]
            exact fun h => HBAD.out (HBD.out.1 h)
        have HNOT := Lib.hid hnot
        clear hbad hd hnot
        gi_wp2_with fail
        refine region_round (fun Y => Y.cell? ⟨p, 1, none⟩ = some (.int .i64 z1) ∧ Y.cell? ⟨G, 0, none⟩ = some (.slice (some ⟨b1, o1, none⟩) m ca) ∧ Y.cell? ⟨b1, o1 + k, none⟩ = some (.int .i64 d))
          (by kernel_rfl) (by kernel_rfl) (by rintro ⟨a', w', h⟩; exact h) hS0 (fun hHeld => ?_)
        refine wpAnyH_take (i := 0) (v := ?va0) rfl (by kernel_rfl) (by kernel_rfl) (by kernel_rfl) (fun _ _ _ h => h) (Or.inl ⟨by rfl, ?ha0⟩) (by assumption) ?ra0
        case ha0 =>
          intro w hSw
          try dsimp only at hSw
          go_simp
          try with_reducible rfl
        try simp only [Act.put, List.setIfInBounds_toArray, List.set_cons_zero, List.set_cons_succ]
        refine wpAnyH_take (i := 1) (v := ?va1) rfl (by kernel_rfl) (by kernel_rfl) (by kernel_rfl) (fun _ _ _ h => h) (Or.inl ⟨by rfl, ?ha1⟩) (by assumption) ?ra1
        case ha1 =>
          intro w hSw
          try dsimp only at hSw
          go_simp
          try with_reducible rfl
        try simp only [Act.put, List.setIfInBounds_toArray, List.set_cons_zero, List.set_cons_succ]
        refine wpAnyH_take (i := 2) (v := ?va2) rfl (by kernel_rfl) (by kernel_rfl) (by kernel_rfl) (fun _ _ _ h => h) (Or.inl ⟨by rfl, ?ha2⟩) (by assumption) ?ra2
        case ha2 =>
          intro w hSw
          try dsimp only at hSw
          go_simp
          try with_reducible rfl
        try simp only [Act.put, List.setIfInBounds_toArray, List.set_cons_zero, List.set_cons_succ]
        refine wpAnyH_take (i := 3) (v := ?va3) rfl (by kernel_rfl) (by kernel_rfl) (by kernel_rfl) (fun _ _ _ h => h) (Or.inl ⟨by rfl, ?ha3⟩) (by assumption) ?ra3
        case ha3 =>
          intro w hSw
          try dsimp only at hSw
          go_simp
          try with_reducible rfl
        try simp only [Act.put, List.setIfInBounds_toArray, List.set_cons_zero, List.set_cons_succ]
        refine wpAnyH_take (i := 4) (v := ?va4) rfl (by kernel_rfl) (by kernel_rfl) (by kernel_rfl) (fun _ _ _ h => h) (Or.inl ⟨by rfl, ?ha4⟩) (by assumption) ?ra4
        case ha4 =>
          intro w hSw
          try dsimp only at hSw
          go_simp
          try with_reducible rfl
        try simp only [Act.put, List.setIfInBounds_toArray, List.set_cons_zero, List.set_cons_succ]
        refine wpAnyH_take (i := 5) (v := ?va5) rfl (by kernel_rfl) (by kernel_rfl) (by kernel_rfl) (fun _ _ _ h => h) (Or.inl ⟨by rfl, ?ha5⟩) (by assumption) ?ra5
        case ha5 =>
          intro w hSw
          try dsimp only at hSw
          go_simp
          try with_reducible rfl
        try simp only [Act.put, List.setIfInBounds_toArray, List.set_cons_zero, List.set_cons_succ]
        refine wpAnyH_take (i := 6) (v := ?va6) rfl (by kernel_rfl) (by kernel_rfl) (by kernel_rfl) (fun _ _ _ h => h) (Or.inl ⟨by rfl, ?ha6⟩) (by assumption) ?ra6
        case ha6 =>
          intro w hSw
          try dsimp only at hSw
          go_simp
          try with_reducible rfl
        try simp only [Act.put, List.setIfInBounds_toArray, List.set_cons_zero, List.set_cons_succ]
        refine wpAnyH_done (by kernel_rfl) ?_ _
        have ks2 := (E2.out.cell 0)
        have kf2 := (E2.out.free 0)
        have hsg : G + 1 + 1 + 1 + 1 ≤ X.heap.size := hsI
        clear ce fe cp0 cp1 c1 ks hS0 hHeld
        by_cases hgt : d < z1
        · have hdc : decide (d < z1) = true := decide_eq_true hgt
          have hoc : outC s cuts (pre.map Fin.val ++ [k]) = 13 := outC_yes _ _ _ _ (by rw [HD.out, HF1.out]; exact hgt)
          have HOC := Lib.hid hoc
          have R2 : Row (X.drew.setCell ⟨G + 1 + 1, 0, none⟩ (.int .i64 13)) (G + 1 + 1) 27 #[.int .i64 13] := E2.out.set 0 _
          clear hoc
          gi_wp2
          refine ⟨keepsFrom_set (keepsFrom_below b0) _ _, ⟨setBelow (b0.mono (by omega)) (by omega) _ _, Below.heap_setCell _ _ _ _ (by show G + 1 + 1 + 1 ≠ G + 1 + 1; omega)⟩, E0.out.far (by show G ≠ G + 1 + 1; omega) _, E1.out.far (by show G + 1 ≠ G + 1 + 1; omega) _, ?_, HNOT.out, setBelow (e4.trans (b0.mono (by omega))) (by omega) _ _, Nat.le_trans hsI (setBelow (B := 0) (b0.mono (Nat.zero_le _)) (Nat.zero_le (G + 1 + 1)) 0 (.int .i64 13)).size⟩
          rw [List.map_append, List.map_cons, List.map_nil, HOC.out]
          exact R2
        · have hdc : decide (d < z1) = false := decide_eq_false hgt
          have hoc : outC s cuts (pre.map Fin.val ++ [k]) = outC s cuts (pre.map Fin.val) := outC_no _ _ _ _ (by rw [HD.out, HF1.out]; exact hgt)
          have HOC := Lib.hid hoc
          clear hoc
          gi_wp2
          refine ⟨keepsFrom_below b0, ⟨b0.mono (by omega), rfl⟩, E0.out.drew, E1.out.drew, ?_, HNOT.out, e4.trans (b0.mono (by omega)), hsI⟩
          rw [List.map_append, List.map_cons, List.map_nil, HOC.out]
          exact E2.out.drew
    case done =>
      rintro D ks X hD hup ⟨e0, e1, e2, e3, e4, hsI⟩ hK
      have hgood : ∀ i, i < s.length → ¬ badCut cuts i := fun i hi => by
        rw [HM.out] at hi
        have h5 : i ∈ ks.map Fin.val := by rw [show ks.map Fin.val = List.range m from hup]; exact List.mem_range.2 hi
        obtain ⟨z, hz, hv⟩ := List.mem_map.1 h5
        rw [← hv]
        exact e3 z hz
      have hcc := outC_all (by rw [HM.out]; exact HCL.out) hgood
      rw [HC.out, HM.out] at hcc
      rw [show ks.map Fin.val = List.range m from hup, ← hcc] at e2
      have E1 := Lib.hid e1
      have f1 := e1.free 0
      have c1 := e1.cell 0
      have c2 := e2.cell 0
      clear e1 e2 e3 e0 hgood hcc
      gi_wp2
      have hK' := (KeepsOthers.setCell X ⟨G + 1, 0, none⟩ (.int .i64 c)).same D _ hK rfl
      refine ⟨by simp, .inl ⟨_, _, rfl, run_takeDeferred hK', ?_⟩⟩
      have hc5 := cell_kept ((E1.out.set 0 (.int .i64 c)).cell 0) (grownBy_putObj' _ D (.deferred none)) (fun r e => by cases e; exact ⟨_, hK', rfl⟩)
      simp at hc5
      refine ⟨.int .i64 c, by simp [results, Tryz.f59, go_sem, hc5], rfl, ?_⟩
      exact (setBelow e4 (by omega) _ _).trans (belowK_b (n₀ := G) (w := w) (by omega) _ D _ _ (by omega) hK' rfl rfl)
    case stop =>
      rintro D c2 pre X hD ⟨k, hk, hup⟩ ⟨rfl, h1, ⟨x, hx, hbad⟩, h3⟩ hK
      have hcc : c = 11 := by rw [← HC.out]; exact slC_bad (by rw [HM.out]; exact x.isLt) hbad
      subst hcc
      gi_wp2
      refine ⟨by simp, .inl ⟨_, _, rfl, run_takeDeferred hK, ?_⟩⟩
      have hc5 := cell_kept (h1.cell 0) (grownBy_putObj' _ D (.deferred none)) (fun r e => by cases e; exact ⟨_, hK, rfl⟩)
      simp at hc5
      refine ⟨.int .i64 11, by simp [results, Tryz.f59, go_sem, hc5], rfl, ?_⟩
      exact h3.trans (belowK_b (n₀ := G) (w := w) (by omega) _ D _ _ (by omega) hK rfl rfl)
  · have hcc : c = 11 := by rw [← HC.out]; exact slC_len (by rw [HM.out]; exact hcl)
    have hlenI : ((cuts.length : Int) != 2 * (m : Int)) = true := by simp; omega
    subst hcc
    have hb9 : Below G w (W.setCell ⟨G + 1, 0, none⟩ (.int .i64 11)) := setBelow (by rw [← hG]; exact hBW) (by omega) _ _
    have R9 : Row (W.setCell ⟨G + 1, 0, none⟩ (.int .i64 11)) (G + 1) 27 #[.int .i64 11] := R0.set 0 _
    have c9 := R9.cell 0
    simp at c9
    clear A P hm hc hcl
    obtain ⟨n', hn'⟩ : ∃ n' : Nat, Hid (3 ≤ n') := ⟨3, Nat.le_refl 3⟩
    refine (callsIn_wide (n := n')).1 ?_
    refine callsIn_of_wp_marks Tryz.func59 rfl trivial ?_ rfl
    simp only [Tryz.ntmps59, List.size_toArray, List.length_cons, List.length_nil, Nat.reduceAdd, Nat.reduceSub, Array.replicate_succ, Array.replicate_zero, List.push_toArray, List.append_toArray, List.nil_append, List.cons_append]
    gi_wp2_with fail
    exact ⟨.int .i64 11, by simp [results, Tryz.f59, go_sem, c9], rfl, hb9⟩
end
end Go.Proofs.YtooglnhlhgmhdaaGreat
