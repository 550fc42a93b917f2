/-
  The reference's rational numbers in new memory: Make, Of; numbers as they came in, in new memory: Own. (Made by wip/gen/gen_trat.py out of layer 3's texts.)
-/
import Derived.Test.YtengpgodmbfmkaaGreatD12
namespace Go.Proofs.YtengpgodmbfmkaaGreat
set_option linter.unusedVariables false
set_option linter.unusedSimpArgs false
set_option maxRecDepth 100000
set_option maxHeartbeats 40000000
section
open Go.RowKit
theorem smallL_any (N : Int) (w : World) (hN : 0 ≤ N) (hN2 : N ≤ 9223372036854775807) :
 Calls Tryz.prog 113 #[.int .i64 N] w fun e w' => ∃ u, e = .returned u ∧ ∃ zs, ResD w.heap.size w' u zs N ∧ zs.length ≤ 5 ∧ Below w.heap.size w w' := by
 obtain ⟨i0, hi, hz0, hz1, hz2⟩ := info_parts infoInt
 go_enter Tryz.func113, Tryz.ntmps113
 go_wp2
 go_loopw [0, 3] (fun n s wr => ∃ (m : Int) (ds : List Int) (v : Value), n = .int .i64 m ∧ v = s ∧ 0 ≤ m ∧ m ≤ 9223372036854775807 ∧ ds.length ≤ 5 ∧ NumI w.heap.size wr v ds ∧ WfD ds ∧ valD ds + 10000 ^ ds.length * m = N ∧ (m = 0 → trimN ds ds.length = ds.length) ∧ Below w.heap.size w wr) (fun n _ _ => (intOf n).toNat)
 case atStart => exact ⟨N, [], _, rfl, rfl, hN, hN2, by simp, World.ownsRow_nil _ _ _ _, WfD.nil, by simp [valD], fun _ => rfl, Below.refl _ _⟩
 case round =>
  obtain ⟨m, ds, v, rfl, rfl, hm, hm2, hlen, hown, hwf, hval, hfull, hb⟩ := hrel
  have hsz := hb.size
  have HV := Lib.hid hval
  have HF := Lib.hid hfull
  have HO := Lib.hid hown
  have hrow : wr.ownsRow w.heap.size 3 1 v ds.length (ds.map (Value.int .i64)) := hown
  have h0v := val_nonnegD hwf
  have hle : 10000 ^ ds.length * m ≤ N := by omega
  have hlen4 : 0 < m → ds.length ≤ 4 := by
   intro hp
   rcases Nat.lt_or_ge 4 ds.length with k | k
   · exfalso
     have e5 : ds.length = 5 := by omega
     rw [e5] at hle
     simp at hle
     omega
   · exact k
  clear hval hfull hown hle h0v
  by_cases hpos : 0 < m
  · have hl4 := hlen4 hpos
    clear hlen4
    go_wp2_with (at_builtin; refine wpList_append_own _ rfl _ _ 56 rfl w.heap.size 3 i0 (.int .i64 0) 1 8 Tryz.underlying56 hi hz0 hz1 hz2 rfl (by decide) _ _ _ rfl (hrow.alloc _) ⟨wr.heap.size, 0, none⟩ 1 1 [.int .i64 (m % 10000)] rfl rfl (cell_one_new _ _ _) (by simp [Value.oneCell']) (by unfold maxLen; omega) (by omega) (by simp; omega) ?_; intro v' w1 hown' hgrow _)
    go_roundw
    case rel =>
     obtain ⟨hn, hbw⟩ := push_num hb hsz HO.out hown' hgrow
     refine ⟨m / 10000, ds ++ [m % 10000], v', rfl, rfl, by omega, by omega, ?_, hn, hwf.snoc (by omega), ?_, fun h0 => full_snoc ds (by omega), hbw⟩
     · rw [List.length_append, List.length_singleton]
       omega
     · rw [valD_snoc, List.length_append, List.length_singleton, Int.pow_succ]
       have h1 := HV.out
       have h2 : m % 10000 + 10000 * (m / 10000) = m := by omega
       generalize m % 10000 = r at *
       generalize m / 10000 = q at *
       generalize (10000 : Int) ^ ds.length = P at *
       grind
    case measure => simp [intOf]; omega
  · have h0 : m = 0 := by omega
    subst h0
    go_wp2
    go_ret
    exact ⟨_, rfl, ds, ⟨HO.out, hwf, (by have h := HF.out; simpa using h), by have := HV.out; simpa using this⟩, hlen, hb⟩
theorem digit_lit {w : World} {g : Nat} {x : Int} (h : Row w g 3 #[.int .i64 x]) (hx : 0 < x ∧ x < 10000) : ArgD w (.slice (some ⟨g, 0, none⟩) 1 1) [x] (some ⟨g, 0, none⟩) 1 := by
 refine ⟨rfl, .inr ⟨g, 0, rfl, fun i hi => ?_⟩, by simp, WfD.cons (by omega) WfD.nil, ?_⟩
 · obtain rfl : i = 0 := by simpa using hi
   exact h.cell 0
 · show trimN [x] 1 = 1
   unfold trimN
   rw [if_neg (by simp; omega)]
theorem sizeR_any (n : Int) (w : World) (h0 : -9223372036854775808 ≤ n) (h1 : n ≤ 9223372036854775807) :
 Calls Tryz.prog 76 #[.int .i64 n] w fun e w' => ∃ r, e = .returned r ∧ ∃ zs, ResD w.heap.size w' r zs (n.natAbs : Int) ∧ zs.length ≤ 6 ∧ Below w.heap.size w w' := by
 by_cases hn : n < 0
 · have hd : decide (n < 0) = true := decide_eq_true hn
   obtain ⟨m, hm⟩ : ∃ m : Int, n = -m - 1 := ⟨-n - 1, by omega⟩
   have e1 : ((n.natAbs : Nat) : Int) = m + 1 := by omega
   rw [e1]
   subst hm
   have hs1 : -m - 1 + 1 = -m := by omega
   have hw1 : IntKind.i64.wrap (-m - 1 + 1) = -m := by rw [hs1]; exact IntWalk.i64_in _ (by omega)
   have hw2 : IntKind.i64.wrap (- -m) = m := by rw [Int.neg_neg]; exact IntWalk.i64_in _ (by omega)
   clear e1
   go_enter Tryz.func76, Tryz.ntmps76
   go_wp2_with fail
   have key : ∀ q : Int, q = m → Calls Tryz.prog 113 #[.int .i64 q] w fun e w' => ∃ u, e = .returned u ∧ ∃ zs, ResD w.heap.size w' u zs m ∧ zs.length ≤ 5 ∧ Below w.heap.size w w' := by
    rintro q rfl; exact smallL_any _ _ (by omega) (by omega)
   refine (key _ (by first | rfl | omega | (unfold wrap64; omega))).mono ?_
   rintro e w1 ⟨r1, rfl, z1, q1, n1, hb1⟩
   obtain ⟨ad1, c1, rfl, q1, A1⟩ := q1.slice
   have hb2 : Below w1.heap.size w1 (w1.alloc (.cells #[.int .i64 1] 3)) := (Below.refl _ _).alloc (Nat.le_refl _) _
   have A1' := A1.later hb2
   have L := digit_lit (Row.new w1 3 #[.int .i64 1]) (by omega)
   have hs1' := hb1.size
   clear hw1 hw2 hs1 key
   go_wp2_with fail
   refine (addD_any A1' L (by omega) (by simp)).mono ?_
   rintro e w2 ⟨r2, rfl, z2, q2, n2, hb3⟩
   have hv : valD z2 = m + 1 := by rw [q2.eq, q1.eq]; simp [valD]
   have HV := Lib.hid hv
   have hs2 : w.heap.size ≤ (w1.alloc (.cells #[.int .i64 1] 3)).heap.size := by simp; omega
   simp only [List.length_cons, List.length_nil] at n2
   clear hv
   go_wp2_with fail
   go_ret
   exact ⟨_, rfl, z2, ⟨q2.num.mono hs2, q2.wf, q2.full, HV.out⟩, by omega, (hb1.trans (hb2.mono hs1')).trans (hb3.mono hs2)⟩
 · have hd : decide (n < 0) = false := decide_eq_false hn
   have e1 : ((n.natAbs : Nat) : Int) = n := by omega
   rw [e1]
   clear e1
   go_enter Tryz.func76, Tryz.ntmps76
   go_wp2_with fail
   refine (smallL_any n _ (by omega) (by omega)).mono ?_
   rintro e w' ⟨r, rfl, z, q, nz, hb⟩
   go_wp2_with fail
   go_ret
   exact ⟨r, rfl, z, q, by omega, hb⟩
end
section
open Go.RowKit
theorem ArgR.box {w : World} {v : Value} {x : Rat} {n : Nat} (h : ArgR w v x n) : ∃ (m : Bool) (zs ys : List Int) (ad bd : Option Addr) (ca cb : Nat), v = .agg #[.bool m, .slice ad zs.length ca, .slice bd ys.length cb] := by
 obtain ⟨zs, ys, ad, bd, ca, cb, rfl, _⟩ := h
 exact ⟨_, zs, ys, ad, bd, ca, cb, rfl⟩
end
section
open Go.RowKit
def LimS (w : World) (ad : Option Addr) (xs : List Int) : Prop :=
 xs = [] ∨ ∃ b off, ad = some ⟨b, off, none⟩ ∧ ∀ i, i < xs.length → w.cell? ⟨b, off + i, none⟩ = some (.int .i64 (xs.getD i 0))
theorem LimS.nil (w : World) (ad : Option Addr) : LimS w ad [] := .inl rfl
theorem LimS.below {w w' : World} {ad : Option Addr} {xs : List Int} {B : Nat} (h : LimS w ad xs) (hb : Below B w w') (hB : ∀ a, ad = some a → a.block < B) : LimS w' ad xs := by
 rcases h with rfl | ⟨b, off, rfl, hc⟩
 · exact .inl rfl
 · exact .inr ⟨b, off, rfl, fun i hi => (hb.cell (p := ⟨b, off + i, none⟩) (hB ⟨b, off, none⟩ rfl)).trans (hc i hi)⟩
theorem LimS.later {w w' : World} {ad : Option Addr} {xs : List Int} (h : LimS w ad xs) (hb : Below w.heap.size w w') : LimS w' ad xs := by
 rcases h with rfl | ⟨b, off, rfl, hc⟩
 · exact .inl rfl
 · refine .inr ⟨b, off, rfl, fun i hi => ?_⟩
   have hlt := World.block_lt_of_cell? w _ (hc i hi)
   exact (hb.cell (p := ⟨b, off + i, none⟩) hlt).trans (hc i hi)
theorem LimS.take {w : World} {ad : Option Addr} {xs : List Int} (h : LimS w ad xs) (n : Nat) : LimS w ad (xs.take n) := by
 rcases h with rfl | ⟨b, off, rfl, hc⟩
 · exact .inl (by simp)
 · refine .inr ⟨b, off, rfl, fun i hi => ?_⟩
   rw [List.length_take] at hi
   rw [hc i (by omega)]
   simp [show i < n by omega]
theorem LimS.lt {w : World} {ad : Option Addr} {xs : List Int} (h : LimS w ad xs) (hn : xs ≠ []) : ∀ a, ad = some a → a.block < w.heap.size := by
 rcases h with rfl | ⟨b, off, rfl, hc⟩
 · exact absurd rfl hn
 · intro a ha
   cases ha
   exact World.block_lt_of_cell? w _ (hc 0 (List.length_pos_iff.2 hn))
def NumS (base : Nat) (w : World) (v : Value) (xs : List Int) : Prop := w.ownsRow base 3 1 v xs.length (xs.map (Value.int .i64))
theorem NumS.read {base : Nat} {w : World} {v : Value} {xs : List Int} (h : NumS base w v xs) : ∃ ad cap, v = .slice ad xs.length cap ∧ LimS w ad xs ∧ xs.length ≤ cap ∧ cap ≤ maxLen ∧ (∀ a, ad = some a → base ≤ a.block ∧ a.block < w.heap.size) := by
 obtain ⟨h1, h2⟩ := h
 rcases h2 with ⟨rfl, hn⟩ | ⟨g, cap, cur, rfl, hb, hg, hc, hm, hs, ht⟩
 · obtain rfl := List.eq_nil_of_length_eq_zero hn
   exact ⟨none, 0, rfl, .inl rfl, Nat.le_refl _, by unfold maxLen; omega, fun a ha => by cases ha⟩
 · refine ⟨_, cap, rfl, .inr ⟨g, 0, rfl, fun i hi => ?_⟩, hc, hm, fun a ha => by cases ha; exact ⟨hb, lt_of_block hg⟩⟩
   have hj := World.ownsRow.cellAt (w := w) (base := base) (e := 3) (size := 1) (g := g) (n := xs.length) (cap := cap) (xs := xs.map (Value.int .i64)) ⟨h1, .inr ⟨g, cap, cur, rfl, hb, hg, hc, hm, hs, ht⟩⟩ i (by omega)
   rw [Nat.zero_add, hj]
   simp [hi]
theorem NumS.lt {base : Nat} {w : World} {v : Value} {xs : List Int} (h : NumS base w v xs) : ∀ k, v.ownBlock = some k → base ≤ k ∧ k < w.heap.size := World.ownsRow.lt h
theorem NumS.kept {base B : Nat} {w w' : World} {v : Value} {xs : List Int} (h : NumS base w v xs) (hb : Below B w w') (hB : ∀ k, v.ownBlock = some k → k < B) : NumS base w' v xs := by
 obtain ⟨h1, h2⟩ := h
 refine ⟨h1, ?_⟩
 rcases h2 with h2 | ⟨g, cap, cur, rfl, hg0, hg, hc, hm, hs, ht⟩
 · exact .inl h2
 · exact .inr ⟨g, cap, cur, rfl, hg0, (hb.block g (hB g rfl)).trans hg, hc, hm, hs, ht⟩
theorem NumS.later {base : Nat} {w w' : World} {v : Value} {xs : List Int} (h : NumS base w v xs) (hb : Below w.heap.size w w') : NumS base w' v xs := h.kept hb fun k hk => (h.lt k hk).2
theorem NumS.mono {base base' : Nat} {w : World} {v : Value} {xs : List Int} (h : NumS base w v xs) (hb : base' ≤ base) : NumS base' w v xs := by
 obtain ⟨h1, h2⟩ := h
 refine ⟨h1, ?_⟩
 rcases h2 with h2 | ⟨g, cap, cur, rfl, hg0, hg, hc, hm, hs, ht⟩
 · exact .inl h2
 · exact .inr ⟨g, cap, cur, rfl, Nat.le_trans hb hg0, hg, hc, hm, hs, ht⟩
def BlkS (w : World) (g : Nat) (zs : List Int) : Prop := w.heap[g]? = some (.cells (zs.map (Value.int .i64)).toArray 3 (0, 0))
theorem BlkS.cell {w : World} {g : Nat} {zs : List Int} (h : BlkS w g zs) (i : Nat) (hi : i < zs.length) : w.cell? ⟨g, i, none⟩ = some (.int .i64 (zs.getD i 0)) := by
 have e : w.cell? ⟨g, i, none⟩ = ((zs.map (Value.int .i64)).toArray)[i]? := cell_of_row w g i _ 3 (0, 0) h
 rw [e]; simp [hi]
theorem BlkS.free {w : World} {g : Nat} {zs : List Int} (h : BlkS w g zs) (i : Nat) : w.frozen? ⟨g, i, none⟩ = false := by
 exact frozen_of_row w g i _ 3 h
theorem BlkS.lt {w : World} {g : Nat} {zs : List Int} (h : BlkS w g zs) : g < w.heap.size := lt_of_block h
theorem BlkS.same {w w' : World} {g : Nat} {zs : List Int} (h : BlkS w g zs) (e : w'.heap[g]? = w.heap[g]?) : BlkS w' g zs := e.trans h
theorem BlkS.alloc {w : World} {g : Nat} {zs : List Int} (h : BlkS w g zs) (o : Obj) : BlkS (w.alloc o) g zs := h.same (Below.heap_alloc _ _ _ h.lt)
theorem BlkS.below {w w' : World} {g B : Nat} {zs : List Int} (h : BlkS w g zs) (k : Below B w w') (hb : g < B) : BlkS w' g zs := h.same (k.block g hb)
theorem BlkS.set {w : World} {g : Nat} {zs : List Int} (h : BlkS w g zs) (i : Nat) (x : Int) : BlkS (w.setCell ⟨g, i, none⟩ (.int .i64 x)) g (zs.set i x) := by
 have hh := heap_setCell_same w g i _ 3 (.int .i64 x) h
 unfold BlkS
 rw [hh]
 congr 2
 simp [List.map_set]
theorem BlkS.made (w : World) (n : Nat) : BlkS (w.alloc (.cells (madeCells #[.int .i64 0] n) 3)) w.heap.size (List.replicate n 0) := by
 have h := heap_alloc_new w (.cells (madeCells #[.int .i64 0] n) 3)
 unfold BlkS
 rw [h]
 congr 2
 apply Array.ext
 · simp [madeCells]
 · intro i h1 h2
   simp [madeCells, Nat.mod_one]
theorem NumS.ofBlk {base g : Nat} {w : World} {zs : List Int} (h : BlkS w g zs) (hb : base ≤ g) (n : Nat) (hn : n ≤ zs.length) (hm : zs.length ≤ maxLen) : NumS base w (.slice (some ⟨g, 0, none⟩) n zs.length) (zs.take n) := by
 have e : (zs.take n).length = n := by rw [List.length_take]; omega
 unfold NumS
 rw [e]
 refine ⟨by rw [List.length_map, e, Nat.mul_one], .inr ⟨g, zs.length, _, rfl, hb, h, hn, hm, by simp, ?_⟩⟩
 simp [List.map_take]
theorem BlkS.grown {w w' : World} {g : Nat} {row : Option Nat} {zs : List Int} (h : BlkS w g zs) (k : w.grownBy w' row) (hb : some g ≠ row) : BlkS w' g zs := h.same (k.block g h.lt hb)
def Wid (xs : List Int) : Prop := ∀ x ∈ xs, -9223372036854775808 ≤ x ∧ x ≤ 9223372036854775807
theorem Wid.nil : Wid [] := fun _ h => by cases h
theorem Wid.append {xs ys : List Int} (h : Wid xs) (k : Wid ys) : Wid (xs ++ ys) := fun x hx => (List.mem_append.1 hx).elim (h x) (k x)
theorem Wid.one {x : Int} (h : -9223372036854775808 ≤ x ∧ x ≤ 9223372036854775807) : Wid [x] := fun y hy => by rw [List.mem_singleton.1 hy]; exact h
theorem Wid.take {xs : List Int} (h : Wid xs) (n : Nat) : Wid (xs.take n) := fun x hx => h x (List.mem_of_mem_take hx)
theorem Wid.drop {xs : List Int} (h : Wid xs) (n : Nat) : Wid (xs.drop n) := fun x hx => h x (List.mem_of_mem_drop hx)
theorem Wid.getD {xs : List Int} (h : Wid xs) (i : Nat) : -9223372036854775808 ≤ xs.getD i 0 ∧ xs.getD i 0 ≤ 9223372036854775807 := by
 by_cases hi : i < xs.length
 · rw [List.getD_eq_getElem?_getD, List.getElem?_eq_getElem hi]; exact h _ (List.getElem_mem hi)
 · simp [List.getElem?_eq_none (Nat.le_of_not_lt hi)]
structure ArgS (w : World) (u : Value) (xs : List Int) (ad : Option Addr) (cap : Nat) : Prop where
 is : u = .slice ad xs.length cap
 lim : LimS w ad xs
 le : xs.length ≤ cap
 wf : Wid xs
theorem ArgS.later {w w' : World} {u : Value} {xs : List Int} {ad : Option Addr} {cap : Nat} (h : ArgS w u xs ad cap) (hb : Below w.heap.size w w') : ArgS w' u xs ad cap := ⟨h.is, h.lim.later hb, h.le, h.wf⟩
structure ResS (base : Nat) (w : World) (u : Value) (xs : List Int) : Prop where
 num : NumS base w u xs
 wf : Wid xs
theorem ResS.later {base : Nat} {w w' : World} {u : Value} {xs : List Int} (h : ResS base w u xs) (hb : Below w.heap.size w w') : ResS base w' u xs := ⟨h.num.later hb, h.wf⟩
theorem ResS.arg {base : Nat} {w : World} {u : Value} {xs : List Int} (h : ResS base w u xs) : ∃ ad cap, ArgS w u xs ad cap := by
 obtain ⟨ad, cap, h1, h2, h3, _, _⟩ := h.num.read
 exact ⟨ad, cap, h1, h2, h3, h.wf⟩
theorem infoS : (Tryz.prog.info? 3).map (fun i => (i.zero, i.size, i.bytes)) = some (some (.int .i64 0), 1, 8) := by kernel_rfl
theorem pushS {base : Nat} {w wr w1 : World} {v v' : Value} {ds : List Int} {d : Int} {o : Obj} (hb : Below base w wr) (hbase : base ≤ wr.heap.size) (hown : NumS base wr v ds)
 (hown' : w1.ownsRow base 3 1 v' (ds.length + 1) (ds.map (Value.int .i64) ++ [Value.int .i64 d])) (hgrow : (wr.alloc o).grownBy w1 v.ownBlock) : NumS base w1 v' (ds ++ [d]) ∧ Below base w w1 := by
 refine ⟨?_, (hb.alloc hbase o).grown hgrow (by simp; omega) (fun k hk => (hown.lt k hk).1)⟩
 unfold NumS
 rw [List.length_append, List.map_append]
 exact hown'
theorem ArgS.at {w : World} {u : Value} {xs : List Int} {ad : Option Addr} {cap : Nat} (h : ArgS w u xs ad cap) {i : Nat} (hi : i < xs.length) :
 ∃ b off, ad = some ⟨b, off, none⟩ ∧ w.cell? ⟨b, off + i, none⟩ = some (.int .i64 (xs.getD i 0)) := by
 rcases h.lim with rfl | ⟨b, off, e, hc⟩
 · simp at hi
 · exact ⟨b, off, e, hc i hi⟩
theorem ResS.nil (base : Nat) (w : World) : ResS base w (.slice none 0 0) [] := ⟨⟨rfl, .inl ⟨rfl, rfl⟩⟩, Wid.nil⟩
theorem ResS.mono {base base' : Nat} {w : World} {u : Value} {xs : List Int} (h : ResS base w u xs) (hb : base' ≤ base) : ResS base' w u xs := ⟨h.num.mono hb, h.wf⟩
theorem ResS.slice {base : Nat} {w : World} {u : Value} {xs : List Int} (h : ResS base w u xs) : ∃ ad cap, u = .slice ad xs.length cap ∧ ResS base w (.slice ad xs.length cap) xs ∧ ArgS w (.slice ad xs.length cap) xs ad cap ∧ (ad = none → cap = 0) := by
 obtain ⟨ad, cap, h1, h2, h3, h4, _⟩ := h.num.read
 subst h1
 refine ⟨ad, cap, rfl, h, ⟨rfl, h2, h3, h.wf⟩, fun hn => ?_⟩
 subst hn
 obtain ⟨_, h5⟩ := h.num
 rcases h5 with ⟨e, _⟩ | ⟨g, c, cur, e, _⟩
 · simp only [Value.slice.injEq] at e; exact e.2.2
 · simp at e
theorem cells_argS {w : World} {ys : List Int} {ad : Addr} {cap : Nat} (lx : LimS w (some ad) ys) : ∀ j u, (ys.map (Value.int .i64))[j]? = some u → w.cell? (ad.add j) = some u := by
 intro j u hj
 rcases lx with rfl | ⟨b, off, e, hc⟩
 · simp at hj
 · cases e
   rw [List.getElem?_map] at hj
   have hjl : j < ys.length := by
    rcases Nat.lt_or_ge j ys.length with h | h
    · exact h
    · rw [List.getElem?_eq_none h] at hj; cases hj
   rw [show (⟨b, off, none⟩ : Addr).add j = ⟨b, off + j, none⟩ from (by unfold Addr.add; split <;> simp_all), hc j hjl, ← hj]
   simp [hjl]
theorem ArgS.lit (w : World) (xs : List Int) (h : Wid xs) : ArgS (w.alloc (.cells (xs.map (Value.int .i64)).toArray 3)) (.slice (some ⟨w.heap.size, 0, none⟩) xs.length xs.length) xs (some ⟨w.heap.size, 0, none⟩) xs.length := by
 refine ⟨rfl, .inr ⟨w.heap.size, 0, rfl, fun i hi => ?_⟩, Nat.le_refl _, h⟩
 have e : (w.alloc (.cells (xs.map (Value.int .i64)).toArray 3)).cell? ⟨w.heap.size, i, none⟩ = ((xs.map (Value.int .i64)).toArray)[i]? := cell_of_row _ _ i _ 3 (0, 0) (heap_alloc_new w _)
 rw [Nat.zero_add, e]
 simp [hi]
end
section
open Go.RowKit
def PartS (w : World) (g cap : Nat) (zs : List Int) : Prop := ∃ cur : Array Value, w.heap[g]? = some (.cells cur 3 (0, 0)) ∧ cur.size = cap ∧ zs.length ≤ cap ∧ cur.toList.take zs.length = zs.map (Value.int .i64)
theorem PartS.cell {w : World} {g cap : Nat} {zs : List Int} (h : PartS w g cap zs) (i : Nat) (hi : i < zs.length) : w.cell? ⟨g, i, none⟩ = some (.int .i64 (zs.getD i 0)) := by
 obtain ⟨cur, hh, hs, hl, ht⟩ := h
 have e : w.cell? ⟨g, i, none⟩ = cur[i]? := cell_of_row w g i _ 3 (0, 0) hh
 rw [e]
 have h1 : (cur.toList.take zs.length)[i]? = cur[i]? := by rw [List.getElem?_take_of_lt hi]; simp
 rw [← h1, ht]
 simp [hi]
theorem PartS.free {w : World} {g cap : Nat} {zs : List Int} (h : PartS w g cap zs) (i : Nat) : w.frozen? ⟨g, i, none⟩ = false := by
 obtain ⟨cur, hh, _⟩ := h
 exact frozen_of_row w g i _ 3 hh
theorem PartS.lt {w : World} {g cap : Nat} {zs : List Int} (h : PartS w g cap zs) : g < w.heap.size := by obtain ⟨cur, hh, _⟩ := h; exact lt_of_block hh
theorem PartS.le {w : World} {g cap : Nat} {zs : List Int} (h : PartS w g cap zs) : zs.length ≤ cap := by obtain ⟨_, _, _, h, _⟩ := h; exact h
theorem PartS.same {w w' : World} {g cap : Nat} {zs : List Int} (h : PartS w g cap zs) (e : w'.heap[g]? = w.heap[g]?) : PartS w' g cap zs := by
 obtain ⟨cur, hh, r⟩ := h
 exact ⟨cur, e.trans hh, r⟩
theorem PartS.later {w w' : World} {g cap : Nat} {zs : List Int} (h : PartS w g cap zs) (k : Below w.heap.size w w') : PartS w' g cap zs := h.same (k.block g h.lt)
theorem PartS.far {w : World} {g cap : Nat} {zs : List Int} (h : PartS w g cap zs) {p : Addr} (hne : g ≠ p.block) (u : Value) : PartS (w.setCell p u) g cap zs := h.same (Below.heap_setCell _ _ _ _ hne)
theorem PartS.set {w : World} {g cap : Nat} {zs : List Int} (h : PartS w g cap zs) (i : Nat) (hi : i < zs.length) (x : Int) : PartS (w.setCell ⟨g, i, none⟩ (.int .i64 x)) g cap (zs.set i x) := by
 obtain ⟨cur, hh, hs, hl, ht⟩ := h
 refine ⟨cur.setIfInBounds i (.int .i64 x), ?_, by simpa using hs, by simpa using hl, ?_⟩
 · have e := heap_setCell_same w g i _ 3 (.int .i64 x) hh
   rw [e]
 · rw [List.length_set, Array.toList_setIfInBounds, List.take_set, ht, List.map_set]
theorem PartS.num {base g cap : Nat} {w : World} {zs : List Int} (h : PartS w g cap zs) (hb : base ≤ g) (hm : cap ≤ maxLen) : NumS base w (.slice (some ⟨g, 0, none⟩) zs.length cap) zs := by
 obtain ⟨cur, hh, hs, hl, ht⟩ := h
 exact ⟨by simp, .inr ⟨g, cap, cur, rfl, hb, hh, hl, hm, by simpa using hs, by simpa using ht⟩⟩
theorem ResS.grown {base : Nat} {w w' : World} {u : Value} {xs : List Int} {row : Option Nat} (h : ResS base w u xs) (k : w.grownBy w' row) (hb : ∀ g, u.ownBlock = some g → some g ≠ row) : ResS base w' u xs := by
 refine ⟨?_, h.wf⟩
 obtain ⟨h1, h2⟩ := h.num
 refine ⟨h1, ?_⟩
 rcases h2 with h2 | ⟨r, cap, cur, rfl, hr, hh, hrest⟩
 · exact .inl h2
 · exact .inr ⟨r, cap, cur, rfl, hr, (k.block r (lt_of_block hh) (hb r rfl)).trans hh, hrest⟩
def RowsS (base : Nat) (w : World) (v : Value) (L : List (List Int)) : Prop :=
 ∃ vals : List Value, w.ownsRow base 22 1 v vals.length vals ∧ vals.length = L.length ∧ ∀ i, i < L.length → ∃ u, vals[i]? = some u ∧ ResS base w u (L.getD i [])
theorem RowsS.later {base : Nat} {w w' : World} {v : Value} {L : List (List Int)} (h : RowsS base w v L) (hb : Below w.heap.size w w') : RowsS base w' v L := by
 obtain ⟨vals, h1, h2, h3⟩ := h
 refine ⟨vals, ?_, h2, fun i hi => ?_⟩
 · obtain ⟨m1, m2⟩ := h1
   refine ⟨m1, ?_⟩
   rcases m2 with m2 | ⟨r, cap, cur, rfl, hr, hh, hrest⟩
   · exact .inl m2
   · exact .inr ⟨r, cap, cur, rfl, hr, (hb.block r (lt_of_block hh)).trans hh, hrest⟩
 · obtain ⟨u, e, R⟩ := h3 i hi
   exact ⟨u, e, R.later hb⟩
theorem RowsS.slice {base : Nat} {w : World} {v : Value} {L : List (List Int)} (h : RowsS base w v L) (hn : L ≠ []) : ∃ g cap, v = .slice (some ⟨g, 0, none⟩) L.length cap ∧ base ≤ g ∧ L.length ≤ cap ∧ cap ≤ maxLen ∧
 ∀ i, i < L.length → ∃ u, w.cell? ⟨g, i, none⟩ = some u ∧ ResS base w u (L.getD i []) := by
 obtain ⟨vals, h1, h2, h3⟩ := h
 obtain ⟨m1, m2⟩ := h1
 rcases m2 with ⟨e, h0⟩ | ⟨r, cap, cur, rfl, hr, hh, hc, hm, hs, ht⟩
 · exact absurd (List.eq_nil_of_length_eq_zero (by omega)) hn
 · refine ⟨r, cap, by rw [h2], hr, by omega, hm, fun i hi => ?_⟩
   obtain ⟨u, e, R⟩ := h3 i hi
   refine ⟨u, ?_, R⟩
   have hj := World.ownsRow.cellAt (w := w) (base := base) (e := 22) (size := 1) (g := r) (n := vals.length) (cap := cap) (xs := vals) ⟨m1, .inr ⟨r, cap, cur, rfl, hr, hh, hc, hm, hs, ht⟩⟩ i (by omega)
   rw [hj, e]
theorem RowsS.apart {base : Nat} {w : World} {v u : Value} {vals : List Value} {n : Nat} {xs : List Int} (h : w.ownsRow base 22 1 v n vals) (R : ResS base w u xs) : ∀ g, u.ownBlock = some g → some g ≠ v.ownBlock := by
 intro g hg he
 obtain ⟨_, m2⟩ := h
 obtain ⟨_, r2⟩ := R.num
 rcases r2 with ⟨rfl, _⟩ | ⟨r, cap, cur, rfl, _, hh, _⟩
 · cases hg
 · simp [Value.ownBlock] at hg
   subst hg
   rcases m2 with ⟨rfl, _⟩ | ⟨q, cap2, cur2, rfl, _, hh2, _⟩
   · cases he
   · simp [Value.ownBlock] at he
     subst he
     have := hh.symm.trans hh2
     simp at this
end
section
open Go.RowKit Go.Shelf
attribute [local go_sem] Oper.semAt_some
theorem wideCallS {n : Nat} {P : Program} {f : FuncId} {args : Array Value} {w : World} {R : Ending → World → Prop} (h : Calls P f args w R) :
 Fence.wide.fn f ∧ (Fence.wide.depth.isSome = true → 1 ≤ n) ∧ CallsIn Fence.wide (n - 1) P f args w R := ⟨trivial, (fun h => by cases h), callsIn_wide.2 h⟩
def numAt (xs : List Int) {n : Nat} (x : Fin n) : Array Value := #[.int .i64 (x.val : Int), .int .i64 (xs[x.val]?.getD 0)]
def DowntoS {n : Nat} (pre : List (Fin n)) (k : Nat) : Prop := pre.length = k ∧ ∀ i (h : i < pre.length), (pre[i]).val + i + 1 = n
theorem DowntoS.nil {n : Nat} : DowntoS ([] : List (Fin n)) 0 := ⟨rfl, fun i h => by simp at h⟩
theorem DowntoS.snoc {n k : Nat} {pre : List (Fin n)} (h : DowntoS pre k) (x : Fin n) (hx : x.val + k + 1 = n) : DowntoS (pre ++ [x]) (k + 1) := by
 obtain ⟨h1, h2⟩ := h
 refine ⟨by simp [h1], fun i hi => ?_⟩
 by_cases hlt : i < pre.length
 · rw [List.getElem_append_left hlt]; exact h2 i hlt
 · have : i = k := by simp at hi; omega
   subst this
   rw [List.getElem_append_right (by omega)]
   simp [h1, hx]
structure KpS (G Bs : Nat) (W W' : World) : Prop where
 below : Below G W W'
 box : W'.heap[Bs]? = W.heap[Bs]?
theorem KpS.refl (G Bs : Nat) (W : World) : KpS G Bs W W := ⟨Below.refl _ _, rfl⟩
theorem KpS.trans {G Bs : Nat} {A B C : World} (h : KpS G Bs A B) (k : KpS G Bs B C) : KpS G Bs A C := ⟨h.below.trans k.below, k.box.trans h.box⟩
theorem KpS.b {G Bs : Nat} {w : World} (hg : G ≤ w.heap.size) (hn : Bs < w.heap.size) (W : World) (l : Nat) (o o' : Obj) (hl : w.heap.size ≤ l) (h : W.heap[l]? = some o) (h1 : o.isCells = false) (h2 : o.isWalk = false) : KpS G Bs W (W.putObj l o') :=
 ⟨belowK_b hg W l o o' hl h h1 h2, World.putObj_heap_other (by omega)⟩
theorem backS1_in (n l Bs n₀ : Nat) (ad : Option Addr) (xs : List Int) (cap : Nat) (hm : xs.length ≤ 35184372088832) (hb : xs ≠ [] → ∀ a, ad = some a → a.block < n₀) (J Jx : List (Fin xs.length) → World → Prop)
 (hY : ∀ pre x W, J pre W → pre.length < xs.length → YieldAt Fence.wide (n - 1) Tryz.prog l (numAt xs x) W fun e W' =>
  (e = .returned (.bool true) ∧ J (pre ++ [x]) W' ∧ KpS n₀ Bs W W') ∨ (e = .returned (.bool false) ∧ Jx (pre ++ [x]) W'))
 (W : World) (hBs : W.cell? ⟨Bs, 0, none⟩ = some (.slice ad xs.length cap)) (hl : LimS W ad xs) (h0 : J [] W) :
 CallsIn Fence.wide n Tryz.prog 174 #[.func (.yield l) #[] #[], .pointer (some ⟨Bs, 0, none⟩)] W fun e W' => (∃ v, e = .returned v) ∧
  ((∃ ys, DowntoS ys xs.length ∧ J ys W') ∨ (∃ pre, (∃ k, k ≤ xs.length ∧ DowntoS pre k) ∧ Jx pre W')) := by
 refine callsIn_of_wp Tryz.func174 rfl trivial ?_ rfl
 simp only [Tryz.ntmps174, List.size_toArray, List.length_cons, List.length_nil, Nat.reduceAdd, Nat.reduceSub, Array.replicate_succ, Array.replicate_zero, List.push_toArray, List.append_toArray, List.nil_append, List.cons_append]
 gi_wp2_with fail
 gi_loopw [3] (fun i wr => ∃ (k : Nat) (pre : List (Fin xs.length)), k ≤ xs.length ∧ i = .int .i64 ((xs.length : Int) - 1 - k) ∧ DowntoS pre k ∧ J pre wr ∧ KpS n₀ Bs W wr)
  (fun i _ => (intOf i + 1).toNat)
 case atStart => exact ⟨0, [], Nat.zero_le _, by simp, DowntoS.nil, h0, KpS.refl _ _ _⟩
 case round =>
  obtain ⟨k, pre, hk, rfl, hdn, hJs, hnx⟩ := hrel
  have hBr := (World.cell?_of_block (a := ⟨Bs, 0, none⟩) hnx.box).trans hBs
  by_cases hlt : k < xs.length
  · rcases hl with rfl | ⟨b, off, rfl, hc⟩
    · simp at hlt
    · obtain ⟨j, hj⟩ : ∃ j, j + k + 1 = xs.length := ⟨xs.length - k - 1, by omega⟩
      have hji : ((xs.length : Int) - 1 - k) = (j : Int) := by omega
      rw [hji]
      have hjl : j < xs.length := by omega
      obtain ⟨fn, tmps, assign, body, hy, hR⟩ := hY pre ⟨j, hjl⟩ wr hJs (by rw [hdn.1]; exact hlt)
      simp only [numAt] at hy
      have hcx := (hnx.below.cell (p := ⟨b, off + j, none⟩) (hb (by rintro rfl; simp at hlt) ⟨b, off, none⟩ rfl)).trans (hc j (by omega))
      have ej : xs[j]?.getD 0 = xs[j] := by simp [hjl]
      rw [ej] at hy
      have HJ := Lib.hid hj
      clear hc hj hji ej
      gi_wp2
      refine ⟨(fun h => by cases h), hR.mono ?_⟩
      rintro e W3 (⟨rfl, hJ3, hk3⟩ | ⟨rfl, hJx3⟩)
      · gi_wp2
        go_roundw
        case rel => exact ⟨k + 1, _, by omega, by have := HJ.out; congr 1; omega, hdn.snoc ⟨j, hjl⟩ HJ.out, hJ3, hnx.trans hk3⟩
        case measure => simp [intOf]
      · gi_wp2
        refine bodyPost_ret (results_none rfl _ _ _) rfl ?_
        exact ⟨⟨_, rfl⟩, .inr ⟨_, ⟨k + 1, by omega, hdn.snoc ⟨j, hjl⟩ HJ.out⟩, hJx3⟩⟩
  · obtain rfl : k = xs.length := by omega
    have hji : ((xs.length : Int) - 1 - xs.length) = -1 := by omega
    rw [hji]
    clear hji
    gi_wp2
    go_end0
    exact ⟨⟨_, rfl⟩, .inl ⟨_, hdn, hJs⟩⟩
theorem backI_any (ad : Option Addr) (n cap : Nat) (w : World) :
 Calls Tryz.prog 155 #[.slice ad n cap] w fun e w' => e = .returned (.func (.func 174) #[] #[.pointer (some ⟨w.heap.size, 0, none⟩)]) ∧ w' = w.alloc (.cells #[.slice ad n cap] 23) := by
 go_enter Tryz.func155, Tryz.ntmps155
 go_wp2
 go_ret
 exact ⟨rfl, rfl⟩
theorem backI_stops (n Bs n₀ : Nat) (ad : Option Addr) (xs : List Int) (cap : Nat) (hm : xs.length ≤ 35184372088832) (hb : xs ≠ [] → ∀ a, ad = some a → a.block < n₀) (w : World) (hBs : Bs < w.heap.size)
 (hc : w.cell? ⟨Bs, 0, none⟩ = some (.slice ad xs.length cap)) (hl : LimS w ad xs) :
 SeqStopsK Fence.wide n Tryz.prog 174 #[.pointer (some ⟨Bs, 0, none⟩)] (numAt xs (n := xs.length)) (KpS n₀ Bs) (fun ys => DowntoS ys xs.length) (fun pre => ∃ k, k ≤ xs.length ∧ DowntoS pre k) xs.length w := fun l J Jx W hW _ _ hY h0 =>
 backS1_in n l Bs n₀ ad xs cap hm hb J Jx hY W ((hW.cell (p := ⟨Bs, 0, none⟩) hBs).trans hc) (hl.later hW) h0
theorem blkS_own {β : Type} (g : Nat) (f : β → List Int) : Own (fun s W => BlkS W g (f s)) := fun s X Y row hs hg hrow =>
 hs.grown hg (fun e' => by obtain ⟨o, ho, hc⟩ := hrow g e'.symm; rw [show X.heap[g]? = _ from hs] at ho; cases ho; cases hc)
theorem boxS_far {W : World} {B : Nat} {t : TypeId} {v : Value} (h : Boxed W B t v) {p : Addr} (hne : B ≠ p.block) (u : Value) : Boxed (W.setCell p u) B t v := (Below.heap_setCell _ _ _ _ hne).trans h
theorem ownS_and2 {β : Type} {I J : β → World → Prop} (h : Own I) (k : Own J) : Own (fun s W => I s W ∧ J s W) := fun s X Y row hs hg hr => ⟨h s X Y row hs.1 hg hr, k s X Y row hs.2 hg hr⟩
theorem BlkS.far {w : World} {g : Nat} {zs : List Int} (h : BlkS w g zs) {p : Addr} (hne : g ≠ p.block) (u : Value) : BlkS (w.setCell p u) g zs := h.same (Below.heap_setCell _ _ _ _ hne)
def downs (L k : Nat) : List Nat := (List.range k).map fun i => L - 1 - i
theorem downs_next (L k : Nat) : downs L (k + 1) = downs L k ++ [L - 1 - k] := by
 unfold downs
 rw [List.range_succ, List.map_append]; rfl
theorem DowntoS.downs {n k : Nat} {pre : List (Fin n)} (h : DowntoS pre k) : pre.map Fin.val = downs n k := by
 obtain ⟨h1, h2⟩ := h
 apply List.ext_getElem
 · simp [Proofs.YtengpgodmbfmkaaGreat.downs, h1]
 · intro i g1 g2
   have h3 := h2 i (by simpa using g1)
   simp only [List.getElem_map, Proofs.YtengpgodmbfmkaaGreat.downs, List.getElem_range]
   omega
end
section
open Go.RowKit
structure E3 where
 a : Value
 b : Value
 c : Value
def E3.agg (e : E3) : Value := .agg #[e.a, e.b, e.c]
def flat3 : List E3 → List Value
 | [] => []
 | e :: r => e.a :: e.b :: e.c :: flat3 r
theorem flat3_append (a b : List E3) : flat3 (a ++ b) = flat3 a ++ flat3 b := by
 induction a with
 | nil => rfl
 | cons e r ih => simp only [List.cons_append, flat3, ih]
theorem flat3_at {es : List E3} {i : Nat} {e : E3} (h : es[i]? = some e) : (flat3 es)[i * 3]? = some e.a ∧ (flat3 es)[i * 3 + 1]? = some e.b ∧ (flat3 es)[i * 3 + 2]? = some e.c := by
 induction es generalizing i with
 | nil => simp at h
 | cons d r ih =>
  cases i with
  | zero =>
   simp only [List.getElem?_cons_zero, Option.some.injEq] at h
   subst h
   exact ⟨rfl, rfl, rfl⟩
  | succ i =>
   have h2 := ih (i := i) (by simpa using h)
   rw [show (i + 1) * 3 = i * 3 + 1 + 1 + 1 by omega]
   simp only [flat3]
   exact h2
def CellsE (w : World) (b o : Nat) (es : List E3) : Prop := ∀ i e, es[i]? = some e → w.cell? ⟨b, o + i * 3, none⟩ = some e.a ∧ w.cell? ⟨b, o + i * 3 + 1, none⟩ = some e.b ∧ w.cell? ⟨b, o + i * 3 + 2, none⟩ = some e.c
def OwnE (base : Nat) (T : TypeId) (w : World) (v : Value) (es : List E3) : Prop := w.ownsRow base T 3 v es.length (flat3 es)
theorem OwnE.nil (base : Nat) (T : TypeId) (w : World) : OwnE base T w (.slice none 0 0) [] := ⟨rfl, .inl ⟨rfl, rfl⟩⟩
theorem OwnE.lt {base : Nat} {T : TypeId} {w : World} {v : Value} {es : List E3} (h : OwnE base T w v es) : ∀ k, v.ownBlock = some k → base ≤ k ∧ k < w.heap.size := World.ownsRow.lt h
theorem OwnE.same {base : Nat} {T : TypeId} {w w' : World} {v : Value} {es : List E3} (h : OwnE base T w v es) (hk : ∀ k, v.ownBlock = some k → w'.heap[k]? = w.heap[k]?) : OwnE base T w' v es := by
 obtain ⟨h1, h2⟩ := h
 refine ⟨h1, ?_⟩
 rcases h2 with h2 | ⟨g, cap, cur, rfl, hg0, hg, hc, hm, hs, ht⟩
 · exact .inl h2
 · exact .inr ⟨g, cap, cur, rfl, hg0, (hk g rfl).trans hg, hc, hm, hs, ht⟩
theorem OwnE.later {base : Nat} {T : TypeId} {w w' : World} {v : Value} {es : List E3} (h : OwnE base T w v es) (hb : Below w.heap.size w w') : OwnE base T w' v es := h.same fun k hk => hb.block k (h.lt k hk).2
theorem OwnE.mono {base base' : Nat} {T : TypeId} {w : World} {v : Value} {es : List E3} (h : OwnE base T w v es) (hb : base' ≤ base) : OwnE base' T w v es := by
 obtain ⟨h1, h2⟩ := h
 refine ⟨h1, ?_⟩
 rcases h2 with h2 | ⟨g, cap, cur, rfl, hg0, hr⟩
 · exact .inl h2
 · exact .inr ⟨g, cap, cur, rfl, Nat.le_trans hb hg0, hr⟩
theorem OwnE.row {base : Nat} {T : TypeId} {w : World} {v : Value} {es : List E3} (h : OwnE base T w v es) : (v = .slice none 0 0 ∧ es = []) ∨ ∃ g cap, v = .slice (some ⟨g, 0, none⟩) es.length cap ∧ base ≤ g ∧ g < w.heap.size ∧ es.length ≤ cap ∧ cap ≤ maxLen ∧ CellsE w g 0 es := by
 obtain ⟨h1, h2⟩ := h
 rcases h2 with ⟨hv, hn⟩ | ⟨g, cap, cur, hv, hb, hg, hc, hm, hs, ht⟩
 · exact .inl ⟨hv, List.eq_nil_of_length_eq_zero hn⟩
 · refine .inr ⟨g, cap, hv, hb, lt_of_block hg, hc, hm, fun i e he => ?_⟩
   have hi : i < es.length := by
    rcases Nat.lt_or_ge i es.length with k | k
    · exact k
    · rw [List.getElem?_eq_none k] at he; cases he
   have hat : ∀ j, j < es.length * 3 → w.cell? ⟨g, j, none⟩ = (flat3 es)[j]? := fun j hj =>
    World.ownsRow.cellAt (w := w) (base := base) (e := T) (size := 3) (g := g) (n := es.length) (cap := cap) (xs := flat3 es) ⟨h1, .inr ⟨g, cap, cur, rfl, hb, hg, hc, hm, hs, ht⟩⟩ j hj
   obtain ⟨f0, f1, f2⟩ := flat3_at he
   simp only [Nat.zero_add]
   exact ⟨(hat _ (by omega)).trans f0, (hat _ (by omega)).trans f1, (hat _ (by omega)).trans f2⟩
theorem CellsE.later {w w' : World} {b o : Nat} {es : List E3} (h : CellsE w b o es) (hb : Below w.heap.size w w') : CellsE w' b o es := fun i e he => by
 obtain ⟨h0, h1, h2⟩ := h i e he
 exact ⟨(hb.cell (World.block_lt_of_cell? w _ h0)).trans h0, (hb.cell (World.block_lt_of_cell? w _ h1)).trans h1, (hb.cell (World.block_lt_of_cell? w _ h2)).trans h2⟩
def AllE {α : Type} (P : Value → α → Prop) (es : List E3) (L : List α) : Prop := es.length = L.length ∧ ∀ (i : Nat) (e : E3) (x : α), es[i]? = some e → L[i]? = some x → P e.agg x
theorem AllE.nil {α : Type} (P : Value → α → Prop) : AllE P [] ([] : List α) := ⟨rfl, fun i e x h => by simp at h⟩
theorem AllE.imp {α : Type} {P Q : Value → α → Prop} {es : List E3} {L : List α} (h : AllE P es L) (k : ∀ v x, x ∈ L → P v x → Q v x) : AllE Q es L := ⟨h.1, fun i e x h1 h2 => k _ _ (List.mem_of_getElem? h2) (h.2 i e x h1 h2)⟩
theorem AllE.snoc {α : Type} {P : Value → α → Prop} {es : List E3} {L : List α} {e : E3} {x : α} (h : AllE P es L) (hx : P e.agg x) : AllE P (es ++ [e]) (L ++ [x]) := by
 refine ⟨by simp [h.1], fun i d y h1 h2 => ?_⟩
 by_cases hlt : i < es.length
 · rw [List.getElem?_append_left hlt] at h1
   rw [List.getElem?_append_left (by rw [← h.1]; exact hlt)] at h2
   exact h.2 i d y h1 h2
 · have hi : i = es.length := by
    rcases Nat.lt_or_ge i (es ++ [e]).length with k | k
    · simp at k; omega
    · rw [List.getElem?_eq_none k] at h1; cases h1
   subst hi
   rw [List.getElem?_append_right (Nat.le_refl _), Nat.sub_self] at h1
   rw [List.getElem?_append_right (by rw [h.1]; exact Nat.le_refl _), h.1, Nat.sub_self] at h2
   simp only [List.getElem?_cons_zero, Option.some.injEq] at h1 h2
   subst h1
   subst h2
   exact hx
theorem AllE.at {α : Type} {P : Value → α → Prop} {es : List E3} {L : List α} (h : AllE P es L) {i : Nat} (hi : i < L.length) : ∃ e x, es[i]? = some e ∧ L[i]? = some x ∧ P e.agg x := by
 have h1 : i < es.length := by rw [h.1]; exact hi
 exact ⟨es[i], L[i], List.getElem?_eq_getElem h1, List.getElem?_eq_getElem hi, h.2 i _ _ (List.getElem?_eq_getElem h1) (List.getElem?_eq_getElem hi)⟩
structure RowA {α : Type} (P : World → Value → α → Prop) (w : World) (u : Value) (L : List α) (ad : Option Addr) (cap : Nat) : Prop where
 is : u = .slice ad L.length cap
 le : L.length ≤ cap
 els : L = [] ∨ ∃ b o es, ad = some ⟨b, o, none⟩ ∧ CellsE w b o es ∧ AllE (P w) es L
theorem RowA.later {α : Type} {P : World → Value → α → Prop} {w w' : World} {u : Value} {L : List α} {ad : Option Addr} {cap : Nat} (h : RowA P w u L ad cap) (hb : Below w.heap.size w w') (hP : ∀ v x, x ∈ L → P w v x → P w' v x) : RowA P w' u L ad cap := by
 refine ⟨h.is, h.le, ?_⟩
 rcases h.els with e | ⟨b, o, es, e, c, k⟩
 · exact .inl e
 · exact .inr ⟨b, o, es, e, c.later hb, k.imp hP⟩
theorem RowA.at {α : Type} {P : World → Value → α → Prop} {w : World} {u : Value} {L : List α} {ad : Option Addr} {cap : Nat} (h : RowA P w u L ad cap) {i : Nat} (hi : i < L.length) :
 ∃ b o x y z q, ad = some ⟨b, o, none⟩ ∧ L[i]? = some q ∧ w.cell? ⟨b, o + i * 3, none⟩ = some x ∧ w.cell? ⟨b, o + i * 3 + 1, none⟩ = some y ∧ w.cell? ⟨b, o + i * 3 + 2, none⟩ = some z ∧ P w (.agg #[x, y, z]) q := by
 rcases h.els with e | ⟨b, o, es, e, c, k⟩
 · rw [e] at hi; simp at hi
 · obtain ⟨d, q, h1, h2, h3⟩ := k.at hi
   obtain ⟨c0, c1, c2⟩ := c i d h1
   exact ⟨b, o, d.a, d.b, d.c, q, e, h2, c0, c1, c2, h3⟩
def RowO {α : Type} (base : Nat) (T : TypeId) (P : World → Value → α → Prop) (w : World) (u : Value) (L : List α) : Prop := ∃ es, OwnE base T w u es ∧ AllE (P w) es L
theorem RowO.nil {α : Type} (base : Nat) (T : TypeId) (P : World → Value → α → Prop) (w : World) : RowO base T P w (.slice none 0 0) ([] : List α) := ⟨[], OwnE.nil _ _ _, AllE.nil _⟩
theorem RowO.later {α : Type} {base : Nat} {T : TypeId} {P : World → Value → α → Prop} {w w' : World} {u : Value} {L : List α} (h : RowO base T P w u L) (hb : Below w.heap.size w w') (hP : ∀ v x, P w v x → P w' v x) : RowO base T P w' u L := by
 obtain ⟨es, h1, h2⟩ := h
 exact ⟨es, h1.later hb, h2.imp fun v x _ => hP v x⟩
theorem RowO.mono {α : Type} {base base' : Nat} {T : TypeId} {P Q : World → Value → α → Prop} {w : World} {u : Value} {L : List α} (h : RowO base T P w u L) (hb : base' ≤ base) (hP : ∀ v x, P w v x → Q w v x) : RowO base' T Q w u L := by
 obtain ⟨es, h1, h2⟩ := h
 exact ⟨es, h1.mono hb, h2.imp fun v x _ => hP v x⟩
theorem RowO.arg {α : Type} {base : Nat} {T : TypeId} {P : World → Value → α → Prop} {w : World} {u : Value} {L : List α} (h : RowO base T P w u L) : ∃ ad cap, RowA P w u L ad cap ∧ (ad = none → cap = 0) ∧ cap ≤ maxLen := by
 obtain ⟨es, h1, h2⟩ := h
 rcases h1.row with ⟨rfl, rfl⟩ | ⟨g, cap, rfl, _, _, hc, hm, hcells⟩
 · have e : L = [] := List.eq_nil_of_length_eq_zero h2.1.symm
   subst e
   exact ⟨none, 0, ⟨rfl, Nat.le_refl _, .inl rfl⟩, fun _ => rfl, by unfold maxLen; omega⟩
 · exact ⟨some ⟨g, 0, none⟩, cap, ⟨by rw [h2.1], by rw [← h2.1]; exact hc, .inr ⟨g, 0, es, rfl, hcells, h2⟩⟩, (fun h => by cases h), hm⟩
theorem OwnE.typed {base : Nat} {T : TypeId} {w : World} {v : Value} {es : List E3} (h : OwnE base T w v es) {g : Nat} (hg : v.ownBlock = some g) : ∃ cur, w.heap[g]? = some (.cells cur T (0, 0)) := by
 obtain ⟨_, h2⟩ := h
 rcases h2 with ⟨rfl, _⟩ | ⟨g', cap, cur, rfl, _, hh, _⟩
 · cases hg
 · simp [Value.ownBlock] at hg
   subst hg
   exact ⟨cur, hh⟩
theorem apartV {base base' size n sz m : Nat} {T t : TypeId} {w w' : World} {v u : Value} {ys : List Value} {xs : List Value} {o : Obj} (h : w.ownsRow base T sz v m ys) (hg : (w.alloc o).grownBy w' v.ownBlock) (hT : T ≠ t) (k : w.ownsRow base' t size u n xs) : w'.ownsRow base' t size u n xs := by
 obtain ⟨k1, k2⟩ := k
 refine ⟨k1, ?_⟩
 rcases k2 with k2 | ⟨g, cap, cur, rfl, hg0, hh, hrest⟩
 · exact .inl k2
 · refine .inr ⟨g, cap, cur, rfl, hg0, ?_, hrest⟩
   have hlt := lt_of_block hh
   rw [hg.block g (by rw [World.size_alloc]; omega) (fun e => by
    obtain ⟨_, h2⟩ := h
    rcases h2 with ⟨rfl, _⟩ | ⟨g', cap', cur', rfl, _, hc, _⟩
    · cases e
    · simp only [Value.ownBlock, Option.some.injEq] at e
      subst e
      rw [hh] at hc
      simp only [Option.some.injEq, Obj.cells.injEq] at hc
      exact hT hc.2.1.symm), Below.heap_alloc _ _ _ hlt]
   exact hh
theorem apartE {base base' size n : Nat} {T t : TypeId} {w w' : World} {v u : Value} {es : List E3} {xs : List Value} {o : Obj} (h : OwnE base T w v es) (hg : (w.alloc o).grownBy w' v.ownBlock) (hT : T ≠ t) (k : w.ownsRow base' t size u n xs) : w'.ownsRow base' t size u n xs := apartV h hg hT k
theorem pushE {α : Type} {base : Nat} {T : TypeId} {P : World → Value → α → Prop} {w wr w1 : World} {v v' : Value} {es : List E3} {L : List α} {e : E3} {x : α} {o : Obj} (hb : Below base w wr) (hbase : base ≤ wr.heap.size)
 (hown : OwnE base T wr v es) (hall : AllE (P wr) es L) (hx : P wr e.agg x) (hst : ∀ u y, P wr u y → P w1 u y)
 (hown' : w1.ownsRow base T 3 v' (es.length + 1) (flat3 es ++ [e.a, e.b, e.c])) (hgrow : (wr.alloc o).grownBy w1 v.ownBlock) : RowO base T P w1 v' (L ++ [x]) ∧ Below base w w1 := by
 refine ⟨⟨es ++ [e], ?_, (hall.snoc hx).imp fun u y _ => hst u y⟩, (hb.alloc hbase o).grown hgrow (by simp; omega) (fun k hk => (hown.lt k hk).1)⟩
 unfold OwnE
 rw [List.length_append, flat3_append]
 exact hown'
theorem cell_three_new (w : World) (a b c : Value) (t : TypeId) : ∀ j u, [a, b, c][j]? = some u → (w.alloc (.cells #[a, b, c] t)).cell? ((⟨w.heap.size, 0, none⟩ : Addr).add j) = some u := by
 intro j u hj
 match j, hj with
 | 0, hj => simp at hj; subst hj; simp [Addr.add]
 | 1, hj => simp at hj; subst hj; simp [Addr.add]
 | 2, hj => simp at hj; subst hj; simp [Addr.add]
 | j + 3, hj => simp at hj
theorem step_append_ownT {P : Program} {ops : Array Oper} {o : Oper} {a : Act} {w : World} {K : Act → World → Prop} {Q : Exit → Act → World → Prop} {E : Prop} (hgd : o.guard = none) (s x : Operand) (t : TypeId)
 (ho : o.op = .call { callee := .builtin .append, args := #[s, x], argTypes := #[t, t] })
 (base : Nat) (e : TypeId) (i : TypeInfo) (z : Value) (size bytes : Nat) (ht : P.underlying t = some (.slice e)) (hi : P.info? e = some i) (hz : i.zero = some z)
 (hsize : i.size = size) (hby : i.bytes = bytes) (hzs : z.cells.size = size) (hsz : 0 < size)
 (v : Value) (n : Nat) (xs : List Value) (hs : a.eval s = v) (hown : w.ownsRow base e size v n xs)
 (ad : Addr) (m c : Nat) (news : List Value) (hx : a.eval x = .slice (some ad) m c) (hl : news.length = m * size) (hnews : ∀ j u, news[j]? = some u → w.cell? (ad.add j) = some u) (h1 : ∀ u ∈ news, u.oneCell' = true)
 (h63 : n + m ≤ maxLen) (hbytes : (n + m) * bytes ≤ 140737488355328) (hbase : base ≤ w.heap.size)
 (h : ∀ v' w', w'.ownsRow base e size v' (n + m) (xs ++ news) → w.grownBy w' v.ownBlock → (v' = .slice none 0 0 ↔ v = .slice none 0 0 ∧ m = 0) → K (a.put o.dst v') w') :
 if Region.wanted o (yielded ops a.tmps) = true then Oper.wp P o a w K Q else E := by
 have hw : Region.wanted o (yielded ops a.tmps) = true := by simp [Region.wanted, hgd]
 rw [if_pos hw]
 exact wp_append_own w s x t ho base e i z size bytes ht hi hz hsize hby hzs hsz v n xs hs hown ad m c news hx hl hnews h1 h63 hbytes hbase h
end
section
open Go.RowKit
theorem NumI.far {base : Nat} {w w' : World} {u : Value} {zs : List Int} {g : Nat} {t : TypeId} {cs : Array Value} (h : NumI base w u zs) (R : Row w g t cs) (ht : t ≠ 3) (hk : ∀ k, k ≠ g → w'.heap[k]? = w.heap[k]?) : NumI base w' u zs := by
 obtain ⟨h1, h2⟩ := h
 refine ⟨h1, ?_⟩
 rcases h2 with h2 | ⟨k, cap, cur, rfl, hg0, hg', hc, hm, hs, ht'⟩
 · exact .inl h2
 · refine .inr ⟨k, cap, cur, rfl, hg0, (hk k ?_).trans hg', hc, hm, hs, ht'⟩
   rintro rfl
   have e := hg'.symm.trans R
   injection e with e
   injection e with _ e
   exact ht e.symm
theorem Num.far {base : Nat} {w w' : World} {u : Value} {zs : List Int} {g : Nat} {t : TypeId} {cs : Array Value} (h : Num base w u zs) (R : Row w g t cs) (ht : t ≠ 144) (hk : ∀ k, k ≠ g → w'.heap[k]? = w.heap[k]?) : Num base w' u zs := by
 obtain ⟨h1, h2⟩ := h
 refine ⟨h1, ?_⟩
 rcases h2 with h2 | ⟨k, cap, cur, rfl, hg0, hg', hc, hm, hs, ht'⟩
 · exact .inl h2
 · refine .inr ⟨k, cap, cur, rfl, hg0, (hk k ?_).trans hg', hc, hm, hs, ht'⟩
   rintro rfl
   have e := hg'.symm.trans R
   injection e with e
   injection e with _ e
   exact ht e.symm
theorem ResD.far {base : Nat} {w w' : World} {u : Value} {zs : List Int} {n : Int} {g : Nat} {t : TypeId} {cs : Array Value} (h : ResD base w u zs n) (R : Row w g t cs) (ht : t ≠ 3) (hk : ∀ k, k ≠ g → w'.heap[k]? = w.heap[k]?) : ResD base w' u zs n :=
 ⟨h.num.far R ht hk, h.wf, h.full, h.eq⟩
theorem ResD.eqTo {base : Nat} {w : World} {u : Value} {zs : List Int} {n m : Int} (h : ResD base w u zs n) (e : valD zs = m) : ResD base w u zs m := ⟨h.num, h.wf, h.full, e⟩
theorem ResD.one {base : Nat} (W : World) (hb : base ≤ W.heap.size) : ResD base (W.alloc (.cells #[.int .i64 1] 3)) (.slice (some ⟨W.heap.size, 0, none⟩) 1 1) [1] 1 := by
 have L := digit_lit (Row.new W 3 #[.int .i64 1]) (by omega)
 exact ⟨⟨rfl, .inr ⟨W.heap.size, 1, _, rfl, hb, heap_alloc_new W _, Nat.le_refl _, by unfold maxLen; omega, rfl, rfl⟩⟩, L.wf, L.full, rfl⟩
def ResR (base : Nat) (w : World) (v : Value) (x : Rat) (n : Nat) : Prop :=
 ∃ (zs ys : List Int) (ad bd : Option Addr) (ca cb : Nat), v = .agg #[.bool (decide (x.num < 0)), .slice ad zs.length ca, .slice bd ys.length cb] ∧
  ResD base w (.slice ad zs.length ca) zs (x.num.natAbs : Int) ∧ ResD base w (.slice bd ys.length cb) ys (x.den : Int) ∧ zs.length ≤ n ∧ ys.length ≤ n
theorem ResD.at_ {base : Nat} {w : World} {ad : Option Addr} {n cap : Nat} {zs : List Int} {N : Int} (h : ResD base w (.slice ad n cap) zs N) : n = zs.length ∧ ArgD w (.slice ad n cap) zs ad cap := by
 obtain ⟨ad', cap', A⟩ := h.arg
 have e := A.is
 simp only [Value.slice.injEq] at e
 obtain ⟨rfl, rfl, rfl⟩ := e
 exact ⟨rfl, A⟩
theorem ResR.arg {base : Nat} {w : World} {v : Value} {x : Rat} {n : Nat} (h : ResR base w v x n) : ArgR w v x n := by
 obtain ⟨zs, ys, ad, bd, ca, cb, rfl, A, B, h1, h2⟩ := h
 exact ⟨zs, ys, ad, bd, ca, cb, rfl, A.at_.2, B.at_.2, A.eq, B.eq, h1, h2⟩
theorem ResR.later {base : Nat} {w w' : World} {v : Value} {x : Rat} {n : Nat} (h : ResR base w v x n) (hb : Below w.heap.size w w') : ResR base w' v x n := by
 obtain ⟨zs, ys, ad, bd, ca, cb, rfl, A, B, h⟩ := h
 exact ⟨zs, ys, ad, bd, ca, cb, rfl, A.later hb, B.later hb, h⟩
theorem ResR.more {base : Nat} {w : World} {v : Value} {x : Rat} {n m : Nat} (h : ResR base w v x n) (hm : n ≤ m) : ResR base w v x m := by
 obtain ⟨zs, ys, ad, bd, ca, cb, rfl, A, B, h1, h2⟩ := h
 exact ⟨zs, ys, ad, bd, ca, cb, rfl, A, B, by omega, by omega⟩
theorem ResR.mono {base base' : Nat} {w : World} {v : Value} {x : Rat} {n : Nat} (h : ResR base w v x n) (hb : base' ≤ base) : ResR base' w v x n := by
 obtain ⟨zs, ys, ad, bd, ca, cb, rfl, A, B, h⟩ := h
 exact ⟨zs, ys, ad, bd, ca, cb, rfl, A.mono hb, B.mono hb, h⟩
theorem ResR.far {base : Nat} {w w' : World} {v : Value} {x : Rat} {n : Nat} {g : Nat} {t : TypeId} {cs : Array Value} (h : ResR base w v x n) (R : Row w g t cs) (ht : t ≠ 3) (hk : ∀ k, k ≠ g → w'.heap[k]? = w.heap[k]?) : ResR base w' v x n := by
 obtain ⟨zs, ys, ad, bd, ca, cb, rfl, A, B, h⟩ := h
 exact ⟨zs, ys, ad, bd, ca, cb, rfl, A.far R ht hk, B.far R ht hk, h⟩
theorem ResR.apart {base base' : Nat} {T : TypeId} {w w' : World} {v u : Value} {es : List E3} {x : Rat} {n : Nat} {o : Obj} (h : OwnE base T w v es) (hg : (w.alloc o).grownBy w' v.ownBlock) (hT : T ≠ 3) (k : ResR base' w u x n) : ResR base' w' u x n := by
 obtain ⟨zs, ys, ad, bd, ca, cb, rfl, A, B, k⟩ := k
 exact ⟨zs, ys, ad, bd, ca, cb, rfl, ⟨apartE h hg hT A.num, A.wf, A.full, A.eq⟩, ⟨apartE h hg hT B.num, B.wf, B.full, B.eq⟩, k⟩
structure Q3 where
 neg : Bool
 num : List Int
 den : List Int
def Q3.rat (q : Q3) : Rat := ratOf q.neg (val q.num) (val q.den)
def RawQ (w : World) (v : Value) (q : Q3) : Prop := ∃ (ad bd : Option Addr) (ca cb : Nat), v = .agg #[.bool q.neg, .slice ad q.num.length ca, .slice bd q.den.length cb] ∧
 Arg w (.slice ad q.num.length ca) q.num ad ca ∧ Arg w (.slice bd q.den.length cb) q.den bd cb ∧ (ad = none → ca = 0) ∧ (bd = none → cb = 0)
theorem RawQ.later {w w' : World} {v : Value} {q : Q3} (h : RawQ w v q) (hb : Below w.heap.size w w') : RawQ w' v q := by
 obtain ⟨ad, bd, ca, cb, rfl, A, B, h⟩ := h
 exact ⟨ad, bd, ca, cb, rfl, A.later hb, B.later hb, h⟩
theorem RawQ.arg {w : World} {v : Value} {q : Q3} {n : Nat} (h : RawQ w v q) (h1 : q.num.length ≤ n) (h2 : q.den.length ≤ n) : ArgQ w v q.rat n := by
 obtain ⟨ad, bd, ca, cb, rfl, A, B, _⟩ := h
 exact ⟨q.neg, q.num, q.den, ad, bd, ca, cb, rfl, A, B, rfl, h1, h2⟩
def RawO (base : Nat) (w : World) (v : Value) (q : Q3) : Prop := ∃ (ad bd : Option Addr) (ca cb : Nat), v = .agg #[.bool q.neg, .slice ad q.num.length ca, .slice bd q.den.length cb] ∧
 Num base w (.slice ad q.num.length ca) q.num ∧ Num base w (.slice bd q.den.length cb) q.den ∧ Wf q.num ∧ Wf q.den
theorem Num.at_ {base : Nat} {w : World} {ad : Option Addr} {n cap : Nat} {zs : List Int} (h : Num base w (.slice ad n cap) zs) (hw : Wf zs) : n = zs.length ∧ Arg w (.slice ad n cap) zs ad cap ∧ (ad = none → cap = 0) := by
 obtain ⟨ad', cap', e, h2, h3, _, _⟩ := h.read
 simp only [Value.slice.injEq] at e
 obtain ⟨rfl, rfl, rfl⟩ := e
 refine ⟨rfl, ⟨rfl, h2, h3, hw⟩, fun hn => ?_⟩
 subst hn
 exact h.nil_slice.2.2
theorem RawO.raw {base : Nat} {w : World} {v : Value} {q : Q3} (h : RawO base w v q) : RawQ w v q := by
 obtain ⟨ad, bd, ca, cb, rfl, A, B, h1, h2⟩ := h
 exact ⟨ad, bd, ca, cb, rfl, (A.at_ h1).2.1, (B.at_ h2).2.1, (A.at_ h1).2.2, (B.at_ h2).2.2⟩
theorem RawO.later {base : Nat} {w w' : World} {v : Value} {q : Q3} (h : RawO base w v q) (hb : Below w.heap.size w w') : RawO base w' v q := by
 obtain ⟨ad, bd, ca, cb, rfl, A, B, h⟩ := h
 exact ⟨ad, bd, ca, cb, rfl, A.later hb, B.later hb, h⟩
theorem RawO.mono {base base' : Nat} {w : World} {v : Value} {q : Q3} (h : RawO base w v q) (hb : base' ≤ base) : RawO base' w v q := by
 obtain ⟨ad, bd, ca, cb, rfl, A, B, h⟩ := h
 exact ⟨ad, bd, ca, cb, rfl, A.mono hb, B.mono hb, h⟩
theorem RawO.far {base : Nat} {w w' : World} {v : Value} {q : Q3} {g : Nat} {t : TypeId} {cs : Array Value} (h : RawO base w v q) (R : Row w g t cs) (ht : t ≠ 144) (hk : ∀ k, k ≠ g → w'.heap[k]? = w.heap[k]?) : RawO base w' v q := by
 obtain ⟨ad, bd, ca, cb, rfl, A, B, h⟩ := h
 exact ⟨ad, bd, ca, cb, rfl, A.far R ht hk, B.far R ht hk, h⟩
theorem RawO.apart {base base' : Nat} {T : TypeId} {w w' : World} {v u : Value} {es : List E3} {q : Q3} {o : Obj} (h : OwnE base T w v es) (hg : (w.alloc o).grownBy w' v.ownBlock) (hT : T ≠ 144) (k : RawO base' w u q) : RawO base' w' u q := by
 obtain ⟨ad, bd, ca, cb, rfl, A, B, k⟩ := k
 exact ⟨ad, bd, ca, cb, rfl, apartE h hg hT A, apartE h hg hT B, k⟩
theorem ResQ.apart {base base' : Nat} {T : TypeId} {w w' : World} {v u : Value} {es : List E3} {x : Rat} {n : Nat} {o : Obj} (h : OwnE base T w v es) (hg : (w.alloc o).grownBy w' v.ownBlock) (hT : T ≠ 144) (k : ResQ base' w u x n) : ResQ base' w' u x n := by
 obtain ⟨zs, ys, ad, bd, ca, cb, rfl, A, B, k⟩ := k
 exact ⟨zs, ys, ad, bd, ca, cb, rfl, ⟨apartE h hg hT A.num, A.wf, A.full, A.eq⟩, ⟨apartE h hg hT B.num, B.wf, B.full, B.eq⟩, k⟩
end
end Go.Proofs.YtengpgodmbfmkaaGreat
