/-
  Part 3 of 39: contracts and what they rest on (Nat2, Sub, Row).
-/
import Derived.Test.YtengpgodmbfmkaaGreatG0
import Derived.Test.YtengpgodmbfmkaaGreatG1
import Derived.Test.YtengpgodmbfmkaaGreatG2
namespace Go.Proofs.YtengpgodmbfmkaaGreat
set_option linter.unusedVariables false
set_option linter.unusedSimpArgs false
set_option maxRecDepth 100000
set_option maxHeartbeats 40000000
section
open Go.RowKit
theorem infoLimb : (Tryz.prog.info? 144).map (fun i => (i.zero, i.size, i.bytes)) = some (some (.int .u32 0), 1, 4) := by kernel_rfl
theorem make_run (n c : Int) (h0 : 0 ≤ n) (hnc : n ≤ c) (hc : c ≤ 70368744177664) (w : World) :
 (Instr.makeSlice 52 (.int .i64 n) (.int .i64 c)).run Tryz.prog w = .ok (.slice (some ⟨w.heap.size, 0, none⟩) n.toNat c.toNat) (w.alloc (.cells (madeCells #[.int .u32 0] c.toNat) 144)) := by
 obtain ⟨i0, hi, hz0, hz1, hz2⟩ := info_parts infoLimb
 have h := run_make (P := Tryz.prog) w 52 144 i0 (.int .u32 0) Tryz.underlying52 hi hz0 .i64 .i64 n c h0 hnc (by rw [hz2]; omega) (by omega)
 simpa [hz1, Value.cells] using h
theorem make_runN (n c : Nat) (hnc : n ≤ c) (hc : c ≤ 70368744177664) (w : World) :
 (Instr.makeSlice 52 (.int .i64 n) (.int .i64 c)).run Tryz.prog w = .ok (.slice (some ⟨w.heap.size, 0, none⟩) n c) (w.alloc (.cells (madeCells #[.int .u32 0] c) 144)) := by
 simpa using make_run n c (by omega) (by omega) (by omega) w
theorem make_run0 (c : Nat) (hc : c ≤ 70368744177664) (w : World) :
 (Instr.makeSlice 52 (.int .i64 0) (.int .i64 c)).run Tryz.prog w = .ok (.slice (some ⟨w.heap.size, 0, none⟩) 0 c) (w.alloc (.cells (madeCells #[.int .u32 0] c) 144)) := by
 simpa using make_run 0 c (by omega) (by omega) (by omega) w
def addTo (xs ys : List Int) : Nat → List Int × Int
 | 0 => ([], 0)
 | k + 1 => ((addTo xs ys k).1 ++ [((addTo xs ys k).2 + xs.getD k 0 + ys.getD k 0) % 4294967296], ((addTo xs ys k).2 + xs.getD k 0 + ys.getD k 0) / 4294967296)
def addN (xs ys : List Int) : Nat := max (trimN xs xs.length) (trimN ys ys.length)
def addL (xs ys : List Int) : List Int := (addTo xs ys (addN xs ys)).1 ++ [(addTo xs ys (addN xs ys)).2]
theorem addTo_length (xs ys : List Int) (k : Nat) : (addTo xs ys k).1.length = k := by
 induction k with
 | zero => rfl
 | succ k ih => simp [addTo, ih]
theorem addTo_carry (xs ys : List Int) (hx : Wf xs) (hy : Wf ys) (k : Nat) : 0 ≤ (addTo xs ys k).2 ∧ (addTo xs ys k).2 ≤ 1 := by
 induction k with
 | zero => simp [addTo]
 | succ k ih => have h1 := hx.getD k; have h2 := hy.getD k; simp only [addTo]; omega
theorem addTo_wf (xs ys : List Int) (k : Nat) : Wf (addTo xs ys k).1 := by
 induction k with
 | zero => exact Wf.nil
 | succ k ih => exact ih.append (Wf.cons (by omega) Wf.nil)
theorem addL_length (xs ys : List Int) : (addL xs ys).length = addN xs ys + 1 := by simp [addL, addTo_length]
theorem add_any (a b : Option Addr) (xs ys : List Int) (capa capb : Nat) (w : World) (hla : Lim w a xs) (hlb : Lim w b ys) (hma : xs.length ≤ 35184372088832) (hmb : ys.length ≤ 35184372088832)
 (hca : xs.length ≤ capa) (hcb : ys.length ≤ capb) (hwa : Wf xs) (hwb : Wf ys) :
 Calls Tryz.prog 149 #[.slice a xs.length capa, .slice b ys.length capb] w fun e w' => ∃ v, e = .returned v ∧ Num w.heap.size w' v (trim (addL xs ys)) ∧ Below w.heap.size w w' := by
 have hta := trim_le xs
 have htb := trim_le ys
 go_enter Tryz.func149, Tryz.ntmps149
 go_wp2_with fail
 refine (cut_any a xs capa _ hla (by unfold maxLen; omega) hca).mono ?_
 rintro e w' ⟨rfl, rfl⟩
 go_wp2_with fail
 refine (cut_any b ys capb _ hlb (by unfold maxLen; omega) hcb).mono ?_
 rintro e w' ⟨rfl, rfl⟩
 obtain ⟨m, hm⟩ : ∃ m, addN xs ys = m := ⟨_, rfl⟩
 have hx : max (trimN xs xs.length : Int) (trimN ys ys.length : Int) = (m : Int) := by rw [← hm]; unfold addN; omega
 have hm2 : m ≤ 35184372088832 := by rw [← hm]; unfold addN; omega
 have HM := Lib.hid hm
 clear hm
 have hmk := make_runN m (m + 1) (by omega) (by omega)
 simp only [Int.natCast_succ] at hmk
 go_wp2_with fail
 refine (carrier_any _ _).mono ?_
 rintro e w' ⟨rfl, rfl⟩
 go_wp2_with fail
 go_loopw [8, 23] (fun _ i wr => ∃ k : Nat, k ≤ m ∧ i = .int .i64 k ∧ Blk wr w.heap.size ((addTo xs ys k).1 ++ List.replicate (m + 1 - k) 0) ∧
  wr.heap[w.heap.size + 1]? = some (.cells #[.int .u64 (addTo xs ys k).2] 171 (0, 0)) ∧ Below w.heap.size w wr) (fun _ i _ => m - (intOf i).toNat)
 case atStart =>
  refine ⟨0, Nat.zero_le _, rfl, ?_, ?_, ?_⟩
  · exact (Blk.made w (m + 1)).alloc _
  · have h := heap_alloc_new (w.alloc (Obj.cells (madeCells #[Value.int IntKind.u32 0] (m + 1)) 144)) (Obj.cells #[Value.int IntKind.u64 0] 171)
    simpa [addTo] using h
  · exact ((Below.refl _ w).alloc (Nat.le_refl _) _).alloc (by simp) _
 case round =>
  obtain ⟨k, hk, rfl, hblk, hcar, hbel⟩ := hrel
  by_cases hlt : k < m
  · obtain ⟨x, hxk⟩ : ∃ x, xs.getD k 0 = x := ⟨_, rfl⟩
    obtain ⟨y, hyk⟩ : ∃ y, ys.getD k 0 = y := ⟨_, rfl⟩
    obtain ⟨c, hck⟩ : ∃ c, (addTo xs ys k).2 = c := ⟨_, rfl⟩
    have bx : 0 ≤ x ∧ x < 4294967296 := hxk ▸ hwa.getD k
    have by' : 0 ≤ y ∧ y < 4294967296 := hyk ▸ hwb.getD k
    have bc : 0 ≤ c ∧ c ≤ 1 := hck ▸ addTo_carry xs ys hwa hwb k
    obtain ⟨bx0, bx1⟩ := bx
    obtain ⟨by0, by1⟩ := by'
    rw [hck] at hcar
    have HX := Lib.hid hxk
    have HY := Lib.hid hyk
    have HC := Lib.hid hck
    clear hxk hyk hck hx
    have hla' := hla.later hbel
    have hlb' := hlb.later hbel
    have hsz := hbel.size
    have hg1 := lt_of_block hcar
    go_wp2_with fail
    refine (at_nat a xs capa k x _ hla' (by unfold maxLen; omega) HX.out).mono ?_
    rintro e w' ⟨rfl, rfl⟩
    go_wp2_with fail
    refine (at_nat b ys capb k y _ hlb' (by unfold maxLen; omega) HY.out).mono ?_
    rintro e w' ⟨rfl, rfl⟩
    go_wp2_with fail
    refine (carry2 c x y _ wr bc.1 bx0 by0 (by omega) hcar).mono ?_
    rintro e w2 ⟨rfl, hcar2, hgr⟩
    have hblk2 := hblk.grown hgr (by simp)
    have hlz : ((addTo xs ys k).1 ++ List.replicate (m + 1 - k) 0).length = m + 1 := by rw [List.length_append, addTo_length, List.length_replicate]; omega
    have hcell := hblk2.cell k (by omega)
    have hfree := hblk2.free k
    go_wp2_with fail
    go_roundw
    case rel =>
     have hset := hblk2.set k ((c + x + y) % 4294967296)
     refine ⟨k + 1, by omega, by go_num, ?_, ?_, ?_⟩
     · have e : ((addTo xs ys k).1 ++ List.replicate (m + 1 - k) 0).set k ((c + x + y) % 4294967296) = (addTo xs ys (k + 1)).1 ++ List.replicate (m + 1 - (k + 1)) 0 := by
        rw [set_mid _ _ _ _ (addTo_length xs ys k) (by omega)]
        simp only [addTo, HX.out, HY.out, HC.out]
       rw [← e]
       exact hset
     · rw [Below.heap_setCell _ _ _ _ (by simp)]
       simp only [addTo, HX.out, HY.out, HC.out]
       exact hcar2
     · exact (hbel.grown hgr (by omega) (fun j ej => by cases ej; omega)).setCell (p := ⟨w.heap.size, k, none⟩) (Nat.le_refl _) _
    case measure => simp [intOf]; omega
  · have hke : k = m := by omega
    subst hke
    obtain ⟨c, hck⟩ : ∃ c, (addTo xs ys k).2 = c := ⟨_, rfl⟩
    have bc : 0 ≤ c ∧ c ≤ 1 := hck ▸ addTo_carry xs ys hwa hwb k
    rw [hck] at hcar
    have HC := Lib.hid hck
    clear hck hx
    have hsz := hbel.size
    have hg1 := lt_of_block hcar
    obtain ⟨i0, hi, hz0, hz1, hz2⟩ := info_parts infoLimb
    go_wp2_with fail
    refine (carry0 c _ wr bc.1 (by omega) hcar).mono ?_
    rintro e w2 ⟨rfl, hcar2, hgr⟩
    have hblk2 := hblk.grown hgr (by simp)
    have hown : w2.ownsRow w.heap.size 144 1 (.slice (some ⟨w.heap.size, 0, none⟩) k (k + 1)) k ((addTo xs ys k).1.map (Value.int .u32)) := by
     have hnum := Num.ofBlk hblk2 (Nat.le_refl _) k (by simp [addTo_length]) (by simp [addTo_length]; unfold maxLen; omega)
     have e1 : ((addTo xs ys k).1 ++ List.replicate (k + 1 - k) 0).length = k + 1 := by rw [List.length_append, addTo_length, List.length_replicate]; omega
     have e2 : ((addTo xs ys k).1 ++ List.replicate (k + 1 - k) 0).take k = (addTo xs ys k).1 := List.take_left' (addTo_length xs ys k)
     rw [e1, e2] at hnum
     unfold Num at hnum
     rw [addTo_length] at hnum
     exact hnum
    go_wp2_with (at_builtin; refine wpList_append_fits _ rfl _ _ 52 rfl w.heap.size 144 i0 1 Tryz.underlying52 hi hz1 w.heap.size k (k + 1) ((addTo xs ys k).1.map (Value.int .u32)) rfl (hown.alloc _) ⟨w2.heap.size, 0, none⟩ 1 1 [.int .u32 (c % 4294967296)] rfl rfl (cell_one_new _ _ _) (by simp [Value.oneCell']) (by omega) ?_; intro w3 hown3 hgr3)
    have hnum : Num w.heap.size w3 (.slice (some ⟨w.heap.size, 0, none⟩) (k + 1) (k + 1)) (addL xs ys) := by
     have e : addL xs ys = (addTo xs ys k).1 ++ [c % 4294967296] := by
      unfold addL
      rw [HM.out, HC.out, Int.emod_eq_of_lt bc.1 (by omega)]
     rw [e]
     unfold Num
     rw [List.length_append, addTo_length, List.map_append]
     exact hown3
    have hb3 : Below w.heap.size w w3 := ((hbel.grown hgr (by omega) (fun j ej => by cases ej; omega)).alloc (by have := hgr.size; omega) _).grown hgr3 (by have := hgr.size; simp; omega) (fun j ej => by cases ej; exact Nat.le_refl _)
    refine (cut_num hnum).mono ?_
    rintro e w4 ⟨u, rfl, hu, rfl⟩
    go_wp2_with fail
    go_ret
    exact ⟨_, rfl, hu, hb3⟩
end
section
open Go.RowKit Go.Shelf
attribute [local go_sem] Oper.semAt_some
def subStep (xs ys : List Int) (s : List Int × Int) (k : Nat) : List Int × Int :=
 (s.1.set k ((s.2 + xs.getD k 0 + (4294967295 - ys.getD k 0)) % 4294967296), (s.2 + xs.getD k 0 + (4294967295 - ys.getD k 0)) / 4294967296)
def subOf (xs ys : List Int) (m : Nat) (ks : List Nat) : List Int × Int := ks.foldl (subStep xs ys) (List.replicate m 0, 1)
def subL (xs ys : List Int) : List Int := (subOf xs ys (trimN xs xs.length) (List.range (trimN xs xs.length))).1
theorem subOf_snoc (xs ys : List Int) (m : Nat) (ks : List Nat) (k : Nat) : subOf xs ys m (ks ++ [k]) = subStep xs ys (subOf xs ys m ks) k := by simp [subOf]
theorem subOf_ok (xs ys : List Int) (m : Nat) (hx : Wf xs) (hy : Wf ys) (ks : List Nat) : (subOf xs ys m ks).1.length = m ∧ 0 ≤ (subOf xs ys m ks).2 ∧ (subOf xs ys m ks).2 < 4294967296 := by
 suffices h : ∀ s : List Int × Int, s.1.length = m ∧ 0 ≤ s.2 ∧ s.2 < 4294967296 → ((ks.foldl (subStep xs ys) s).1.length = m ∧ 0 ≤ (ks.foldl (subStep xs ys) s).2 ∧ (ks.foldl (subStep xs ys) s).2 < 4294967296) from
  h _ ⟨by simp, by simp, by simp⟩
 induction ks with
 | nil => exact fun s h => h
 | cons k ks ih =>
   intro s h
   refine ih _ ?_
   have h1 := hx.getD k
   have h2 := hy.getD k
   simp only [subStep, List.length_set]
   omega
theorem blk_own {β : Type} (g : Nat) (f : β → List Int) : Own (fun s W => Blk W g (f s)) := fun s X Y row hs hg hrow =>
 hs.grown hg (fun e' => by obtain ⟨o, ho, hc⟩ := hrow g e'.symm; rw [show X.heap[g]? = _ from hs] at ho; cases ho; cases hc)
theorem Boxed.far {W : World} {B : Nat} {t : TypeId} {v : Value} (h : Boxed W B t v) {p : Addr} (hne : B ≠ p.block) (u : Value) : Boxed (W.setCell p u) B t v := (Below.heap_setCell _ _ _ _ hne).trans h
theorem Own.and2 {β : Type} {I J : β → World → Prop} (h : Own I) (k : Own J) : Own (fun s W => I s W ∧ J s W) := fun s X Y row hs hg hr => ⟨h s X Y row hs.1 hg hr, k s X Y row hs.2 hg hr⟩
set_option linter.unusedSimpArgs false in
theorem sub_any (a b : Option Addr) (xs ys : List Int) (capa capb : Nat) (w : World) (hla : Lim w a xs) (hlb : Lim w b ys) (hma : xs.length ≤ 35184372088832) (hmb : ys.length ≤ 35184372088832)
 (hca : xs.length ≤ capa) (hcb : ys.length ≤ capb) (hwa : Wf xs) (hwb : Wf ys) :
 Calls Tryz.prog 151 #[.slice a xs.length capa, .slice b ys.length capb] w fun e w' => ∃ r, CmpT (trim xs) (trim ys) r ∧ Below w.heap.size w w' ∧
  (r < 0 → e = .returned (.tuple #[.slice none 0 0, .int .i64 20])) ∧ (0 ≤ r → ∃ v, e = .returned (.tuple #[v, .int .i64 0]) ∧ Num w.heap.size w' v (trim (subL xs ys))) := by
 have hta := trim_le xs
 obtain ⟨n, hn⟩ : ∃ n : Nat, Hid (3 ≤ n) := ⟨3, Nat.le_refl 3⟩
 refine (callsIn_wide (n := n)).1 ?_
 refine callsIn_of_wp_marks Tryz.func151 rfl trivial ?_ rfl
 simp only [Tryz.ntmps151, List.size_toArray, List.length_cons, List.length_nil, Nat.reduceAdd, Nat.reduceSub, Array.replicate_succ, Array.replicate_zero, List.push_toArray, List.append_toArray, List.nil_append, List.cons_append]
 gi_wp2_with fail
 have bB0 := Boxed.new w 52 (.slice b ys.length capb)
 have hB0 : Below w.heap.size w (w.alloc (.cells #[.slice b ys.length capb] 52)) := (Below.refl _ w).alloc (Nat.le_refl _) _
 have hla0 := hla.later hB0
 have hlb0 := hlb.later hB0
 have hs0 : (w.alloc (.cells #[.slice b ys.length capb] 52)).heap.size = w.heap.size + 1 := by simp
 refine wideCall ((cmp_any a b xs ys capa capb _ hla0 hlb0 hma hmb hca hcb).mono ?_)
 rintro e V ⟨r, rfl, hr, hBV⟩
 rw [hs0] at hBV
 have bB : Boxed V w.heap.size 52 (.slice b ys.length capb) := (hBV.block _ (by omega)).trans bB0
 have hV : Below w.heap.size w V := hB0.trans (hBV.mono (by omega))
 have hlaV := hla.later hV
 have hlbV := hlb.later hV
 have hsV : w.heap.size + 1 ≤ V.heap.size := by have := hBV.size; omega
 clear hBV hla0 hlb0 hB0 bB0 hs0
 by_cases hneg : r < 0
 · gi_wp2_with fail
   refine ⟨_, results_tmp2 rfl _ _ _, r, hr, hV, fun _ => rfl, fun h => by omega⟩
 · have hneg2 : 0 ≤ r := by omega
   have hdec : decide (r < 0) = false := decide_eq_false hneg
   have HR := Lib.hid hr
   clear hr hneg
   gi_wp2_with fail
   refine wideCall ((cut_any a xs capa _ hlaV (by unfold maxLen; omega) hca).mono ?_)
   rintro e w' ⟨rfl, rfl⟩
   obtain ⟨m, hmm⟩ : ∃ m, trimN xs xs.length = m := ⟨_, rfl⟩
   have hmk := make_runN m m (Nat.le_refl _) (by omega)
   rw [hmm]
   rw [hmm] at hta
   have HM := Lib.hid hmm
   clear hmm
   gi_wp2_with fail
   refine wideCall ((carrier_any _ _).mono ?_)
   rintro e w' ⟨rfl, rfl⟩
   have k1 := (((Blk.made V m).alloc (Obj.cells #[Value.slice (some ⟨V.heap.size, 0, none⟩) m m] 52)).alloc (Obj.cells #[Value.int .u64 1] 171))
   have k2 := (Boxed.new (V.alloc (Obj.cells (madeCells #[Value.int .u32 0] m) 144)) 52 (Value.slice (some ⟨V.heap.size, 0, none⟩) m m)).alloc (Obj.cells #[Value.int .u64 1] 171)
   have k3 := Boxed.new ((V.alloc (Obj.cells (madeCells #[Value.int .u32 0] m) 144)).alloc (Obj.cells #[Value.slice (some ⟨V.heap.size, 0, none⟩) m m] 52)) 171 (.int .u64 1)
   have k4 : Below V.heap.size V (((V.alloc (Obj.cells (madeCells #[Value.int .u32 0] m) 144)).alloc (Obj.cells #[Value.slice (some ⟨V.heap.size, 0, none⟩) m m] 52)).alloc (Obj.cells #[Value.int .u64 1] 171)) :=
    (((Below.refl _ V).alloc (Nat.le_refl _) _).alloc (by simp) _).alloc (by simp; omega) _
   have k5 : (((V.alloc (Obj.cells (madeCells #[Value.int .u32 0] m) 144)).alloc (Obj.cells #[Value.slice (some ⟨V.heap.size, 0, none⟩) m m] 52)).alloc (Obj.cells #[Value.int .u64 1] 171)).heap.size = V.heap.size + 1 + 1 + 1 := by simp
   simp only [World.size_alloc] at k2 k3
   simp only [World.size_alloc]
   generalize (((V.alloc (Obj.cells (madeCells #[Value.int .u32 0] m) 144)).alloc (Obj.cells #[Value.slice (some ⟨V.heap.size, 0, none⟩) m m] 52)).alloc (Obj.cells #[Value.int .u64 1] 171)) = W3 at *
   have k6 := Boxed.new W3 206 .nilFunc
   rw [k5] at k6
   have k6c := k6.cell
   have k6f := k6.frozen
   have K5 := Lib.hid k5
   have k5' := k5
   clear k5
   gi_wp2_with fail
   refine wideCall ((limbs_any a xs.length capa _).mono ?_)
   rintro e w' ⟨rfl, rfl⟩
   gi_wp2_with fail
   have j1 := (k1.alloc (Obj.cells #[Value.func (.func 184) #[] #[.pointer (some ⟨V.heap.size + 1 + 1, 0, none⟩)]] 206)).alloc (Obj.cells #[Value.slice a xs.length capa] 52)
   have j2 := (k2.alloc (Obj.cells #[Value.func (.func 184) #[] #[.pointer (some ⟨V.heap.size + 1 + 1, 0, none⟩)]] 206)).alloc (Obj.cells #[Value.slice a xs.length capa] 52)
   have j3 := (k3.alloc (Obj.cells #[Value.func (.func 184) #[] #[.pointer (some ⟨V.heap.size + 1 + 1, 0, none⟩)]] 206)).alloc (Obj.cells #[Value.slice a xs.length capa] 52)
   have j4 := (Boxed.new W3 206 (Value.func (.func 184) #[] #[.pointer (some ⟨V.heap.size + 1 + 1, 0, none⟩)])).alloc (Obj.cells #[Value.slice a xs.length capa] 52)
   have j5 := Boxed.new (W3.alloc (Obj.cells #[Value.func (.func 184) #[] #[.pointer (some ⟨V.heap.size + 1 + 1, 0, none⟩)]] 206)) 52 (Value.slice a xs.length capa)
   have j6 : Below V.heap.size V ((W3.alloc (Obj.cells #[Value.func (.func 184) #[] #[.pointer (some ⟨V.heap.size + 1 + 1, 0, none⟩)]] 206)).alloc (Obj.cells #[Value.slice a xs.length capa] 52)) :=
    (k4.alloc (by omega) _).alloc (by simp; omega) _
   have j7 : ((W3.alloc (Obj.cells #[Value.func (.func 184) #[] #[.pointer (some ⟨V.heap.size + 1 + 1, 0, none⟩)]] 206)).alloc (Obj.cells #[Value.slice a xs.length capa] 52)).heap.size = V.heap.size + 5 := by simp; omega
   rw [k5'] at j4
   rw [World.size_alloc, k5'] at j5
   generalize ((W3.alloc (Obj.cells #[Value.func (.func 184) #[] #[.pointer (some ⟨V.heap.size + 1 + 1, 0, none⟩)]] 206)).alloc (Obj.cells #[Value.slice a xs.length capa] 52)) = W5 at *
   clear k1 k2 k3 k4 k6 k6c k6f K5 k5' hmk hneg2
   have h3 : 3 ≤ n := hn
   refine wpIn_rangeFunc_ownF rfl (by omega) (gf := 188) (lb := #[.pointer (some ⟨V.heap.size + 1 + 1 + 1 + 1, 0, none⟩)]) rfl trivial (enters_of Tryz.func188 (by kernel_rfl) rfl)
    (limbs_stops (n - 1) (V.heap.size + 1 + 1 + 1 + 1) V.heap.size a xs capa hma hca hlaV.lt _ (by omega) j5.cell (hlaV.later j6)) belowK_t (belowK_b (by omega)) (Below.refl _ _) (fun _ => rfl)
    (fun (pre : List (Fin (trimN xs xs.length))) X => (((Blk X V.heap.size (subOf xs ys m (pre.map Fin.val)).1 ∧ Boxed X (V.heap.size + 1) 52 (.slice (some ⟨V.heap.size, 0, none⟩) m m)) ∧ Boxed X (V.heap.size + 1 + 1) 171 (.int .u64 (subOf xs ys m (pre.map Fin.val)).2)) ∧
      Boxed X (V.heap.size + 1 + 1 + 1) 206 (Value.func (.func 184) #[] #[.pointer (some ⟨V.heap.size + 1 + 1, 0, none⟩)])) ∧ Below V.heap.size V X)
    (fun _ _ _ => False)
    (OwnFrom.and (Own.from (Own.and2 (Own.and2 (Own.and2 (blk_own _ _) (boxed_own _ _ _)) (boxed_own _ _ _)) (boxed_own _ _ _)) _) (ownFrom_below (Nat.le_refl _) (by omega)))
    (fun _ _ _ _ _ hs _ _ => hs)
    ⟨⟨⟨⟨j1, j2⟩, j3⟩, j4⟩, j6⟩
    (fun (x : Fin (trimN xs xs.length)) => { tmps := #[.slice a xs.length capa, .slice b ys.length capb, undef, .pointer (some ⟨w.heap.size, 0, none⟩), .slice none 0 0, .int .i64 0, .pointer (some ⟨V.heap.size + 1, 0, none⟩), .pointer (some ⟨V.heap.size + 1 + 1 + 1, 0, none⟩), .int .i64 (x.val : Int), .int .u32 (xs[x.val]?.getD 0),
      .slice a xs.length capa, .slice b ys.length capb, .int .i64 r, .bool false, .slice a xs.length capa, .slice a m capa, .int .i64 m, .slice (some ⟨V.heap.size, 0, none⟩) m m, .func (.func 184) #[] #[.pointer (some ⟨V.heap.size + 1 + 1, 0, none⟩)],
      .slice a xs.length capa, .func (.func 188) #[] #[.pointer (some ⟨V.heap.size + 1 + 1 + 1 + 1, 0, none⟩)], .int .i64 (x.val : Int), .int .u32 (xs[x.val]?.getD 0), undef, undef, undef, undef, undef, undef, undef, undef, undef, undef, undef, undef, undef, undef, undef], defers := [] }) ?assign ?body ?done ?stop
   case assign =>
    intro l x X K hK
    simp only [limbAt]
    gi_wp2
    exact hK
   case body =>
    rintro l pre ⟨k, hk⟩ X ⟨⟨⟨⟨hblk, q1⟩, q2⟩, q3⟩, hB⟩ hlt
    have hkm : k < m := by have := HM.out; omega
    obtain ⟨ok1, ok2, ok3⟩ := subOf_ok xs ys m hwa hwb (pre.map Fin.val)
    obtain ⟨st, hst⟩ : ∃ st, subOf xs ys m (pre.map Fin.val) = st := ⟨_, rfl⟩
    rw [hst] at hblk q2 ok1 ok2 ok3
    obtain ⟨zs, c⟩ := st
    obtain ⟨x, hxk⟩ : ∃ x, xs.getD k 0 = x := ⟨_, rfl⟩
    obtain ⟨y, hyk⟩ : ∃ y, ys.getD k 0 = y := ⟨_, rfl⟩
    have bx : 0 ≤ x ∧ x < 4294967296 := hxk ▸ hwa.getD k
    have by' : 0 ≤ y ∧ y < 4294967296 := hyk ▸ hwb.getD k
    obtain ⟨bx0, bx1⟩ := bx
    obtain ⟨by0, by1⟩ := by'
    have hxk2 : xs[k]?.getD 0 = x := hxk
    simp only [hxk2]
    have HX := Lib.hid hxk
    have HY := Lib.hid hyk
    have HS := Lib.hid hst
    clear hxk hyk hxk2 hst
    simp only at hblk q2 ok1 ok2 ok3
    have hlbX := (hlbV.later hB).later (show Below X.heap.size X X.drew from (Below.refl _ _).drew)
    have c1 := q1.cell
    have c3 := q3.cell
    have bX : Boxed X w.heap.size 52 (.slice b ys.length capb) := (hB.block w.heap.size (by omega)).trans bB
    have c0 := bX.cell
    have hsX := hB.size
    refine wpIn_block ?_
    refine region_round (fun X' => X'.cell? ⟨V.heap.size + 1, 0, none⟩ = some (.slice (some ⟨V.heap.size, 0, none⟩) m m) ∧ X'.cell? ⟨V.heap.size + 1 + 1 + 1, 0, none⟩ = some (Value.func (.func 184) #[] #[.pointer (some ⟨V.heap.size + 1 + 1, 0, none⟩)]) ∧ X'.cell? ⟨w.heap.size, 0, none⟩ = some (.slice b ys.length capb))
     (by kernel_rfl) (by kernel_rfl) (by rintro ⟨a', w', h⟩; exact h) ⟨c1, c3, c0⟩ (fun hHeld => ?_)
    refine todo [0, 1, 2, 3, 4, 5, 6] ?_
    iterate 7
     refine todoH (v := ?_) rfl (by kernel_rfl) (fun _ _ _ h => h) (by assumption) (Or.inl ⟨by rfl, ?_⟩) ?_
     rotate_left
     · intro w hSw; (try dsimp only at hSw); go_simp; (try with_reducible rfl)
     try simp only [Act.put, nA, nB, nC, nD, nE, nF]
    refine todone ?_
    refine wpAnyH_ready (rs := [7]) (by kernel_rfl) (by simp) ?_
    refine AllReadyH.cons rfl (fun K hK => ?sb7) AllReadyH.nil
    go_simp
    refine (at_nat b ys capb k y _ hlbX (by unfold maxLen; omega) HY.out).mono ?_
    rintro e w' ⟨rfl, rfl⟩
    go_simp
    refine hK.out _ _ ?kb7 (fun hHeld => ?mb7)
    case kb7 =>
     try dsimp only
     exact hHeld
    clear hK K
    try simp only [Act.put, nD, nE, nF]
    refine todo [8, 9] ?_
    iterate 2
     refine todoH (v := ?_) rfl (by kernel_rfl) (fun _ _ _ h => h) (by assumption) (Or.inl ⟨by rfl, ?_⟩) ?_
     rotate_left
     · intro w hSw; (try dsimp only at hSw); go_simp; (try with_reducible rfl)
     try simp only [Act.put, nA, nB, nC, nD, nE, nF]
    refine todone ?_
    refine wpAnyH_ready (rs := [10]) (by kernel_rfl) (by simp) ?_
    refine AllReadyH.cons rfl (fun K hK => ?sb10) AllReadyH.nil
    go_simp
    refine hK.out _ _ ?kb10 (fun hHeld => ?mb10)
    case kb10 =>
     try dsimp only
     simp [*, World.cell?_alloc_some]
    clear hK K
    try simp only [Act.put, nD, nE, nF]
    refine wpAnyH_ready (rs := [11]) (by kernel_rfl) (by simp) ?_
    refine AllReadyH.cons rfl (fun K hK => ?sb11) AllReadyH.nil
    go_simp
    rw [wrap_u64 bx0 (by omega), not_limb ⟨by0, by1⟩]
    refine (carry2 c x (4294967295 - y) (V.heap.size + 1 + 1) X.drew ok2 bx0 (by omega) (by omega) q2).mono ?_
    rintro e w2 ⟨rfl, hcar2, hgr⟩
    go_simp
    refine hK.out _ _ ?kb11 (fun hHeld => ?mb11)
    case kb11 =>
     try dsimp only
     exact ⟨hgr.cell c1 (by simp <;> omega), hgr.cell c3 (by simp <;> omega), hgr.cell c0 (by simp <;> omega)⟩
    clear hK K
    try simp only [Act.put, nD, nE, nF]
    have hblk2 : Blk w2 V.heap.size zs := Blk.grown (w := X.drew) hblk hgr (by simp <;> omega)
    have hcell2 := hblk2.cell k (by omega)
    have hfree2 := hblk2.free k
    refine wpAnyH_take (i := 12) (v := ?va12) rfl (by kernel_rfl) (by kernel_rfl) (by kernel_rfl) (fun _ _ _ h => h) (Or.inl ⟨by rfl, ?ha12⟩) (by assumption) ?ra12
    case ha12 =>
     intro w hSw
     try dsimp only at hSw
     go_simp
     try with_reducible rfl
    try simp only [Act.put, nD, nE, nF]
    refine wpAnyH_ready (rs := [13]) (by kernel_rfl) (by simp) ?_
    refine AllReadyH.cons rfl (fun K hK => ?sb13) AllReadyH.nil
    go_simp
    refine hK.out _ _ ?kb13 (fun hHeld => ?mb13)
    case kb13 =>
     try dsimp only
     exact ⟨(World.cell?_setCell_far _ _ _ _ (by simp)).trans hHeld.1, (World.cell?_setCell_far _ _ _ _ (by simp <;> omega)).trans hHeld.2.1, (World.cell?_setCell_far _ _ _ _ (by simp <;> omega)).trans hHeld.2.2⟩
    clear hK K
    try simp only [Act.put, nD, nE, nF]
    refine wpAnyH_done (by kernel_rfl) ?_ _
    have hko : KeepsOthers X w2 := (KeepsOthers.drew X).trans (KeepsOthers.of_grownBy hgr (fun j o ej hj => by cases ej; rw [show X.drew.heap[V.heap.size + 1 + 1]? = _ from q2] at hj; cases hj; rfl))
    have hbo : Below V.heap.size X w2 := (Below.refl _ X).drew.grown hgr hsX (fun j ej => by cases ej; omega)
    have u1 : Boxed w2 (V.heap.size + 1) _ _ := Boxed.kept (W := X.drew) q1 hgr (by simp <;> omega)
    have u3 : Boxed w2 (V.heap.size + 1 + 1 + 1) _ _ := Boxed.kept (W := X.drew) q3 hgr (by simp <;> omega)
    have ub := hblk2.set k ((c + x + (4294967295 - y)) % 4294967296)
    have es : subOf xs ys m ((pre ++ [(⟨k, hk⟩ : Fin (trimN xs xs.length))]).map Fin.val) = (zs.set k ((c + x + (4294967295 - y)) % 4294967296), (c + x + (4294967295 - y)) / 4294967296) := by
     rw [List.map_append, List.map_cons, List.map_nil, subOf_snoc, HS.out]
     simp only [subStep, HX.out, HY.out]
    refine ⟨hko.trans (KeepsOthers.setCell _ _ _), hbo.setCell (p := ⟨V.heap.size, k, none⟩) (Nat.le_refl _) _, ?_, (hB.trans hbo).setCell (p := ⟨V.heap.size, k, none⟩) (Nat.le_refl _) _⟩
    rw [es]
    exact ⟨⟨⟨ub, Boxed.far u1 (by simp) _⟩, Boxed.far (t := 171) hcar2 (by simp <;> omega) _⟩, Boxed.far u3 (by simp <;> omega) _⟩
   case done =>
    rintro D ks X hD hup ⟨⟨⟨⟨hblk, q1⟩, q2⟩, q3⟩, hB⟩ hK
    have ok1 := (subOf_ok xs ys m hwa hwb (ks.map Fin.val)).1
    have hnum := Num.ofBlk hblk (Nat.le_refl _) m (by omega) (by rw [ok1]; unfold maxLen; omega)
    rw [ok1, List.take_of_length_le (by omega)] at hnum
    have es : subL xs ys = (subOf xs ys m (ks.map Fin.val)).1 := by unfold subL; rw [hup, HM.out]
    rw [← es] at hnum
    have c1 := q1.cell
    gi_wp2_with fail
    refine wideCall ((cut_num hnum).mono ?_)
    rintro e w' ⟨u, rfl, hu, rfl⟩
    gi_wp2_with fail
    refine ⟨by simp, .inl ⟨_, _, rfl, run_takeDeferred hK, ?_⟩⟩
    refine ⟨_, results_tmp2 rfl _ _ _, r, HR.out, (hV.trans (hB.mono (by omega))).trans (belowK_b (w := w) (Nat.le_refl _) X D _ _ (by omega) hK rfl rfl), fun h => by simp at hdec; omega, fun _ => ⟨u, rfl, ?_⟩⟩
    exact ownsRow_putObj (hu.mono (by omega)) (.deferred none) hK rfl
   case stop =>
    rintro D c pre X _ _ h _
    exact h.elim
end
section
open Go.RowKit Go.Shelf
attribute [local go_sem] Oper.semAt_some
def rowStep (off : Nat) (x : Int) (vs : List Int) (s : List Int × Int) (k : Nat) : List Int × Int :=
 (s.1.set (off + k) ((s.2 + x * vs.getD k 0 + s.1.getD (off + k) 0) % 4294967296), (s.2 + x * vs.getD k 0 + s.1.getD (off + k) 0) / 4294967296)
def rowOf (zs : List Int) (off : Nat) (x : Int) (vs : List Int) (ks : List Nat) : List Int × Int := ks.foldl (rowStep off x vs) (zs, 0)
def rowL (zs : List Int) (off : Nat) (x : Int) (vs : List Int) : List Int :=
 (rowOf zs off x vs (List.range vs.length)).1.set (off + vs.length) (rowOf zs off x vs (List.range vs.length)).2
theorem rowOf_snoc (zs : List Int) (off : Nat) (x : Int) (vs : List Int) (ks : List Nat) (k : Nat) : rowOf zs off x vs (ks ++ [k]) = rowStep off x vs (rowOf zs off x vs ks) k := by simp [rowOf]
theorem Wf.set {xs : List Int} (h : Wf xs) (k : Nat) {x : Int} (hx : 0 ≤ x ∧ x < 4294967296) : Wf (xs.set k x) := by
 intro y hy
 rcases List.mem_or_eq_of_mem_set hy with hy | rfl
 · exact h y hy
 · exact hx
theorem prod_limbs {x y : Int} (hx : 0 ≤ x ∧ x < 4294967296) (hy : 0 ≤ y ∧ y < 4294967296) : 0 ≤ x * y ∧ x * y ≤ 18446744065119617025 :=
 prod_bound x y hx.1 (by omega) hy.1 (by omega)
theorem rowOf_ok (zs : List Int) (off : Nat) (x : Int) (vs : List Int) (hz : Wf zs) (hx : 0 ≤ x ∧ x < 4294967296) (hv : Wf vs) (ks : List Nat) :
 (rowOf zs off x vs ks).1.length = zs.length ∧ Wf (rowOf zs off x vs ks).1 ∧ 0 ≤ (rowOf zs off x vs ks).2 ∧ (rowOf zs off x vs ks).2 < 4294967296 := by
 suffices h : ∀ s : List Int × Int, s.1.length = zs.length ∧ Wf s.1 ∧ 0 ≤ s.2 ∧ s.2 < 4294967296 → ((ks.foldl (rowStep off x vs) s).1.length = zs.length ∧ Wf (ks.foldl (rowStep off x vs) s).1 ∧ 0 ≤ (ks.foldl (rowStep off x vs) s).2 ∧ (ks.foldl (rowStep off x vs) s).2 < 4294967296) from
  h _ ⟨rfl, hz, by simp, by simp⟩
 induction ks with
 | nil => exact fun s h => h
 | cons k ks ih =>
   intro s ⟨g1, g2, g3, g4⟩
   refine ih _ ?_
   have h1 := g2.getD (off + k)
   have h2 := prod_limbs hx (hv.getD k)
   refine ⟨by simp [rowStep, g1], g2.set _ (by omega), ?_, ?_⟩
   · simp only [rowStep]; omega
   · simp only [rowStep]; omega
theorem grown_trans {a b c : World} {row row' : Option Nat} (h : a.grownBy b row) (k : b.grownBy c row') (hr : ∀ r, row' = some r → some r = row ∨ a.heap.size ≤ r) : a.grownBy c row :=
 ⟨k.os.trans h.os, k.tape.trans h.tape, k.output.trans h.output, Nat.le_trans h.size k.size, fun i hi hne => by
  refine (k.block i (Nat.lt_of_lt_of_le hi h.size) fun e => ?_).trans (h.block i hi hne)
  rcases hr i e.symm with h1 | h1
  · exact hne h1
  · omega⟩
theorem grown_drew {a b : World} {row : Option Nat} (h : a.drew.grownBy b row) : a.grownBy b row := ⟨h.os, h.tape, h.output, h.size, h.block⟩
theorem ownFrom_grown {β : Type} {B : Nat} {w : World} {row : Option Nat} (hB : w.heap.size ≤ B) : OwnFrom B (fun (_ : β) X => w.grownBy X row) := fun _ _ _ _ hs hg hr =>
 grown_trans hs hg fun q e => .inr (Nat.le_trans hB (hr q e).1)
theorem Below.grownBy {B : Nat} {a b : World} (h : Below B a b) (hB : a.heap.size ≤ B) (row : Option Nat) : a.grownBy b row := ⟨h.os, h.tape, h.output, h.size, fun k hk _ => h.block k (by omega)⟩
set_option linter.unusedSimpArgs false in
theorem row_any (g off L cap : Nat) (b : Option Addr) (zs vs : List Int) (x : Int) (capb : Nat) (w : World) (hz : Blk w g zs) (hL : off + L = zs.length) (hv : vs.length < L) (hlb : Lim w b vs) (hmb : vs.length ≤ 35184372088832)
 (hcb : vs.length ≤ capb) (htr : trimN vs vs.length = vs.length) (hbg : vs ≠ [] → ∀ p, b = some p → p.block < g) (hwz : Wf zs) (hwv : Wf vs) (hx : 0 ≤ x ∧ x < 4294967296) :
 Calls Tryz.prog 183 #[.slice (some ⟨g, off, none⟩) L cap, .int .u32 x, .slice b vs.length capb] w fun e w' => e = .returned (.tuple #[]) ∧ Blk w' g (rowL zs off x vs) ∧ w.grownBy w' (some g) := by
 obtain ⟨n, hn⟩ : ∃ n : Nat, Hid (3 ≤ n) := ⟨3, Nat.le_refl 3⟩
 have hg := hz.lt
 refine (callsIn_wide (n := n)).1 ?_
 refine callsIn_of_wp_marks Tryz.func183 rfl trivial ?_ rfl
 simp only [Tryz.ntmps183, List.size_toArray, List.length_cons, List.length_nil, Nat.reduceAdd, Nat.reduceSub, Array.replicate_succ, Array.replicate_zero, List.push_toArray, List.append_toArray, List.nil_append, List.cons_append]
 gi_wp2_with fail
 refine wideCall ((carrier_any _ _).mono ?_)
 rintro e w' ⟨rfl, rfl⟩
 have k1 := ((Boxed.new w 52 (.slice (some ⟨g, off, none⟩) L cap)).alloc (Obj.cells #[Value.int .u32 x] 144)).alloc (Obj.cells #[Value.int .u64 0] 171)
 have k2 := (Boxed.new (w.alloc (Obj.cells #[Value.slice (some ⟨g, off, none⟩) L cap] 52)) 144 (.int .u32 x)).alloc (Obj.cells #[Value.int .u64 0] 171)
 have k3 := Boxed.new ((w.alloc (Obj.cells #[Value.slice (some ⟨g, off, none⟩) L cap] 52)).alloc (Obj.cells #[Value.int .u32 x] 144)) 171 (.int .u64 0)
 have k4 : Below w.heap.size w (((w.alloc (Obj.cells #[Value.slice (some ⟨g, off, none⟩) L cap] 52)).alloc (Obj.cells #[Value.int .u32 x] 144)).alloc (Obj.cells #[Value.int .u64 0] 171)) :=
  (((Below.refl _ w).alloc (Nat.le_refl _) _).alloc (by simp) _).alloc (by simp; omega) _
 have k5 : (((w.alloc (Obj.cells #[Value.slice (some ⟨g, off, none⟩) L cap] 52)).alloc (Obj.cells #[Value.int .u32 x] 144)).alloc (Obj.cells #[Value.int .u64 0] 171)).heap.size = w.heap.size + 1 + 1 + 1 := by simp
 simp only [World.size_alloc] at k2 k3
 simp only [World.size_alloc]
 generalize (((w.alloc (Obj.cells #[Value.slice (some ⟨g, off, none⟩) L cap] 52)).alloc (Obj.cells #[Value.int .u32 x] 144)).alloc (Obj.cells #[Value.int .u64 0] 171)) = W3 at *
 have k6 := Boxed.new W3 206 .nilFunc
 rw [k5] at k6
 have k6c := k6.cell
 have k6f := k6.frozen
 have k5' := k5
 clear k5
 gi_wp2_with fail
 refine wideCall ((limbs_any b vs.length capb _).mono ?_)
 rintro e w' ⟨rfl, rfl⟩
 gi_wp2_with fail
 have j2 := (k2.alloc (Obj.cells #[Value.func (.func 184) #[] #[.pointer (some ⟨w.heap.size + 1 + 1, 0, none⟩)]] 206)).alloc (Obj.cells #[Value.slice b vs.length capb] 52)
 have j1 := (k1.alloc (Obj.cells #[Value.func (.func 184) #[] #[.pointer (some ⟨w.heap.size + 1 + 1, 0, none⟩)]] 206)).alloc (Obj.cells #[Value.slice b vs.length capb] 52)
 have j3 := (k3.alloc (Obj.cells #[Value.func (.func 184) #[] #[.pointer (some ⟨w.heap.size + 1 + 1, 0, none⟩)]] 206)).alloc (Obj.cells #[Value.slice b vs.length capb] 52)
 have j4 := (Boxed.new W3 206 (Value.func (.func 184) #[] #[.pointer (some ⟨w.heap.size + 1 + 1, 0, none⟩)])).alloc (Obj.cells #[Value.slice b vs.length capb] 52)
 have j5 := Boxed.new (W3.alloc (Obj.cells #[Value.func (.func 184) #[] #[.pointer (some ⟨w.heap.size + 1 + 1, 0, none⟩)]] 206)) 52 (Value.slice b vs.length capb)
 have j6 : Below w.heap.size w ((W3.alloc (Obj.cells #[Value.func (.func 184) #[] #[.pointer (some ⟨w.heap.size + 1 + 1, 0, none⟩)]] 206)).alloc (Obj.cells #[Value.slice b vs.length capb] 52)) :=
  (k4.alloc (by omega) _).alloc (by simp; omega) _
 have j7 : ((W3.alloc (Obj.cells #[Value.func (.func 184) #[] #[.pointer (some ⟨w.heap.size + 1 + 1, 0, none⟩)]] 206)).alloc (Obj.cells #[Value.slice b vs.length capb] 52)).heap.size = w.heap.size + 5 := by simp; omega
 rw [k5'] at j4
 rw [World.size_alloc, k5'] at j5
 generalize ((W3.alloc (Obj.cells #[Value.func (.func 184) #[] #[.pointer (some ⟨w.heap.size + 1 + 1, 0, none⟩)]] 206)).alloc (Obj.cells #[Value.slice b vs.length capb] 52)) = W5 at *
 clear k1 k2 k3 k4 k6 k6c k6f k5'
 have h3 : 3 ≤ n := hn
 refine wpIn_rangeFunc_ownF rfl (by omega) (gf := 188) (lb := #[.pointer (some ⟨w.heap.size + 1 + 1 + 1 + 1, 0, none⟩)]) rfl trivial (enters_of Tryz.func188 (by kernel_rfl) rfl)
  (limbs_stops (n - 1) (w.heap.size + 1 + 1 + 1 + 1) g b vs capb hmb hcb hbg _ (by omega) j5.cell (hlb.later j6)) belowK_t (belowK_b (by omega)) (Below.refl _ _) (fun _ => rfl)
  (fun (pre : List (Fin (trimN vs vs.length))) X => ((((Blk X g (rowOf zs off x vs (pre.map Fin.val)).1 ∧ Boxed X w.heap.size 52 (.slice (some ⟨g, off, none⟩) L cap)) ∧ Boxed X (w.heap.size + 1) 144 (.int .u32 x)) ∧ Boxed X (w.heap.size + 1 + 1) 171 (.int .u64 (rowOf zs off x vs (pre.map Fin.val)).2)) ∧
    Boxed X (w.heap.size + 1 + 1 + 1) 206 (Value.func (.func 184) #[] #[.pointer (some ⟨w.heap.size + 1 + 1, 0, none⟩)])) ∧ w.grownBy X (some g))
  (fun _ _ _ => False)
  (OwnFrom.and (Own.from (Own.and2 (Own.and2 (Own.and2 (Own.and2 (blk_own _ _) (boxed_own _ _ _)) (boxed_own _ _ _)) (boxed_own _ _ _)) (boxed_own _ _ _)) _) (ownFrom_grown (by omega)))
  (fun _ _ _ _ _ hs _ _ => hs)
  ⟨⟨⟨⟨⟨hz.below j6 hg, j1⟩, j2⟩, j3⟩, j4⟩, Below.grownBy j6 (Nat.le_refl _) _⟩
  (fun (y : Fin (trimN vs vs.length)) => { tmps := #[.slice (some ⟨g, off, none⟩) L cap, .int .u32 x, .slice b vs.length capb, .pointer (some ⟨w.heap.size, 0, none⟩), .pointer (some ⟨w.heap.size + 1, 0, none⟩), undef, .pointer (some ⟨w.heap.size + 1 + 1 + 1, 0, none⟩), .int .i64 (y.val : Int), .int .u32 (vs[y.val]?.getD 0),
    .func (.func 184) #[] #[.pointer (some ⟨w.heap.size + 1 + 1, 0, none⟩)], .slice b vs.length capb, .func (.func 188) #[] #[.pointer (some ⟨w.heap.size + 1 + 1 + 1 + 1, 0, none⟩)], .int .i64 (y.val : Int), .int .u32 (vs[y.val]?.getD 0),
    undef, undef, undef, undef, undef, undef, undef, undef, undef, undef, undef, undef, undef, undef, undef, undef, undef, undef, undef, undef, undef, undef], defers := [] }) ?assign ?body ?done ?stop
 case assign =>
  intro l y X K hK
  simp only [limbAt]
  gi_wp2
  exact hK
 case body =>
  rintro l pre ⟨k, hk⟩ X ⟨⟨⟨⟨⟨hblk, q0⟩, q1⟩, q2⟩, q3⟩, hB⟩ hlt
  have hkm : k < vs.length := by omega
  obtain ⟨ok1, okw, ok2, ok3⟩ := rowOf_ok zs off x vs hwz hx hwv (pre.map Fin.val)
  obtain ⟨st, hst⟩ : ∃ st, rowOf zs off x vs (pre.map Fin.val) = st := ⟨_, rfl⟩
  rw [hst] at hblk q2 ok1 okw ok2 ok3
  obtain ⟨z, c⟩ := st
  simp only at hblk q2 ok1 okw ok2 ok3
  obtain ⟨y, hyk⟩ : ∃ y, vs.getD k 0 = y := ⟨_, rfl⟩
  obtain ⟨t, htk⟩ : ∃ t, z.getD (off + k) 0 = t := ⟨_, rfl⟩
  have by' : 0 ≤ y ∧ y < 4294967296 := hyk ▸ hwv.getD k
  have bt : 0 ≤ t ∧ t < 4294967296 := htk ▸ okw.getD (off + k)
  have bxy := prod_limbs hx by'
  obtain ⟨by0, by1⟩ := by'
  obtain ⟨bt0, bt1⟩ := bt
  obtain ⟨bx0, bx1⟩ := hx
  have hyk2 : vs[k]?.getD 0 = y := hyk
  simp only [hyk2]
  have hct := hblk.cell (off + k) (by omega)
  rw [htk] at hct
  have HY := Lib.hid hyk
  have HT := Lib.hid htk
  have HS := Lib.hid hst
  clear hyk htk hyk2 hst
  have c0 := q0.cell
  have c1 := q1.cell
  have c3 := q3.cell
  have hsX := hB.size
  have hkL : k < L := by omega
  refine wpIn_block ?_
  refine region_round (fun X' => X'.cell? ⟨w.heap.size, 0, none⟩ = some (.slice (some ⟨g, off, none⟩) L cap) ∧ X'.cell? ⟨w.heap.size + 1, 0, none⟩ = some (.int .u32 x) ∧ X'.cell? ⟨w.heap.size + 1 + 1 + 1, 0, none⟩ = some (Value.func (.func 184) #[] #[.pointer (some ⟨w.heap.size + 1 + 1, 0, none⟩)]))
   (by kernel_rfl) (by kernel_rfl) (by rintro ⟨a', w', h⟩; exact h) ⟨c0, c1, c3⟩ (fun hHeld => ?_)
  refine todo [0, 1, 2, 3, 4, 5, 6, 7, 8, 9, 10] ?_
  iterate 11
   refine todoH (v := ?_) rfl (by kernel_rfl) (fun _ _ _ h => h) (by assumption) (Or.inl ⟨by rfl, ?_⟩) ?_
   rotate_left
   · intro w hSw; (try dsimp only at hSw); go_simp; (try with_reducible rfl)
   try simp only [Act.put, nA, nB, nC, nD, nE, nF]
  refine todone ?_
  refine wpAnyH_ready (rs := [11]) (by kernel_rfl) (by simp) ?_
  refine AllReadyH.cons rfl (fun K hK => ?sb11) AllReadyH.nil
  go_simp
  refine hK.out _ _ ?kb11 (fun hHeld => ?mb11)
  case kb11 =>
   try dsimp only
   exact hHeld
  clear hK K
  try simp only [Act.put, nD, nE, nF]
  refine wpAnyH_take (i := 12) (v := ?va12) rfl (by kernel_rfl) (by kernel_rfl) (by kernel_rfl) (fun _ _ _ h => h) (Or.inl ⟨by rfl, ?ha12⟩) (by assumption) ?ra12
  case ha12 =>
   intro w hSw
   try dsimp only at hSw
   go_simp
   try with_reducible rfl
  try simp only [Act.put, nD, nE, nF]
  refine wpAnyH_ready (rs := [13]) (by kernel_rfl) (by simp) ?_
  refine AllReadyH.cons rfl (fun K hK => ?sb13) AllReadyH.nil
  go_simp
  refine hK.out _ _ ?kb13 (fun hHeld => ?mb13)
  case kb13 =>
   try dsimp only
   simp [*, World.cell?_alloc_some]
  clear hK K
  try simp only [Act.put, nD, nE, nF]
  refine wpAnyH_ready (rs := [14]) (by kernel_rfl) (by simp) ?_
  refine AllReadyH.cons rfl (fun K hK => ?sb14) AllReadyH.nil
  go_simp
  rw [wrap_u64 bx0 (by omega), wrap_u64 by0 (by omega), wrap_u64 (x := x * y) bxy.1 (by omega), wrap_u64 bt0 (by omega)]
  refine (carry2 c (x * y) t (w.heap.size + 1 + 1) X.drew ok2 bxy.1 bt0 (by omega) q2).mono ?_
  rintro e w2 ⟨rfl, hcar2, hgr⟩
  go_simp
  refine hK.out _ _ ?kb14 (fun hHeld => ?mb14)
  case kb14 =>
   try dsimp only
   exact ⟨hgr.cell c0 (by simp <;> omega), hgr.cell c1 (by simp <;> omega), hgr.cell c3 (by simp <;> omega)⟩
  clear hK K
  try simp only [Act.put, nD, nE, nF]
  have hblk2 : Blk w2 g z := Blk.grown (w := X.drew) hblk hgr (by simp <;> omega)
  have hcell2 := hblk2.cell (off + k) (by omega)
  have hfree2 := hblk2.free (off + k)
  refine wpAnyH_take (i := 15) (v := ?va15) rfl (by kernel_rfl) (by kernel_rfl) (by kernel_rfl) (fun _ _ _ h => h) (Or.inl ⟨by rfl, ?ha15⟩) (by assumption) ?ra15
  case ha15 =>
   intro w hSw
   try dsimp only at hSw
   go_simp
   try with_reducible rfl
  try simp only [Act.put, nD, nE, nF]
  refine wpAnyH_ready (rs := [16]) (by kernel_rfl) (by simp) ?_
  refine AllReadyH.cons rfl (fun K hK => ?sb16) AllReadyH.nil
  go_simp
  refine hK.out _ _ ?kb16 (fun hHeld => ?mb16)
  case kb16 =>
   try dsimp only
   exact ⟨(World.cell?_setCell_far _ _ _ _ (by simp <;> omega)).trans hHeld.1, (World.cell?_setCell_far _ _ _ _ (by simp <;> omega)).trans hHeld.2.1, (World.cell?_setCell_far _ _ _ _ (by simp <;> omega)).trans hHeld.2.2⟩
  clear hK K
  try simp only [Act.put, nD, nE, nF]
  refine wpAnyH_done (by kernel_rfl) ?_ _
  have hko : KeepsOthers X w2 := (KeepsOthers.drew X).trans (KeepsOthers.of_grownBy hgr (fun j o ej hj => by cases ej; rw [show X.drew.heap[w.heap.size + 1 + 1]? = _ from q2] at hj; cases hj; rfl))
  have hbo : Below g X w2 := (Below.refl _ X).drew.grown hgr (show g ≤ X.heap.size by omega) (fun j ej => by cases ej; omega)
  have u0 : Boxed w2 w.heap.size _ _ := Boxed.kept (W := X.drew) q0 hgr (by simp <;> omega)
  have u1 : Boxed w2 (w.heap.size + 1) _ _ := Boxed.kept (W := X.drew) q1 hgr (by simp <;> omega)
  have u3 : Boxed w2 (w.heap.size + 1 + 1 + 1) _ _ := Boxed.kept (W := X.drew) q3 hgr (by simp <;> omega)
  have ub := hblk2.set (off + k) ((c + x * y + t) % 4294967296)
  have es : rowOf zs off x vs ((pre ++ [(⟨k, hk⟩ : Fin (trimN vs vs.length))]).map Fin.val) = (z.set (off + k) ((c + x * y + t) % 4294967296), (c + x * y + t) / 4294967296) := by
   rw [List.map_append, List.map_cons, List.map_nil, rowOf_snoc, HS.out]
   simp only [rowStep, HY.out, HT.out]
  have hgw : w.grownBy w2 (some g) := grown_trans hB (grown_drew hgr) (fun r e => by cases e; exact .inr (by omega))
  refine ⟨hko.trans (KeepsOthers.setCell _ _ _), hbo.setCell (p := ⟨g, off + k, none⟩) (Nat.le_refl _) _, ?_, ?_⟩
  · rw [es]
    exact ⟨⟨⟨⟨ub, Boxed.far u0 (by simp <;> omega) _⟩, Boxed.far u1 (by simp <;> omega) _⟩, Boxed.far (t := 171) hcar2 (by simp <;> omega) _⟩, Boxed.far u3 (by simp <;> omega) _⟩
  · exact grown_trans hgw (Only.set w2 g (off + k) _).grown (fun r e => .inl e.symm)
 case done =>
  rintro D ks X hD hup ⟨⟨⟨⟨⟨hblk, q0⟩, q1⟩, q2⟩, q3⟩, hB⟩ hK
  obtain ⟨ok1, okw, ok2, ok3⟩ := rowOf_ok zs off x vs hwz hx hwv (ks.map Fin.val)
  have hst : rowOf zs off x vs (ks.map Fin.val) = rowOf zs off x vs (List.range vs.length) := by rw [hup, htr]
  rw [hst] at hblk q2 ok1 okw ok2 ok3
  have hrow : rowL zs off x vs = (rowOf zs off x vs (List.range vs.length)).1.set (off + vs.length) (rowOf zs off x vs (List.range vs.length)).2 := rfl
  generalize rowOf zs off x vs (List.range vs.length) = st at hblk q2 ok1 okw ok2 ok3 hrow
  obtain ⟨z, c⟩ := st
  simp only at hblk q2 ok1 okw ok2 ok3 hrow
  have HR := Lib.hid hrow
  have hstep : z.length = zs.length := ok1
  clear hst hrow
  have c0 := q0.cell
  have c3 := q3.cell
  have hsX := hB.size
  gi_wp2_with fail
  refine wpIn_wide.2 ?_
  go_region_held3 (fun X' => X'.cell? ⟨w.heap.size, 0, none⟩ = some (.slice (some ⟨g, off, none⟩) L cap) ∧ X'.cell? ⟨w.heap.size + 1 + 1 + 1, 0, none⟩ = some (Value.func (.func 184) #[] #[.pointer (some ⟨w.heap.size + 1 + 1, 0, none⟩)]))
   (first | exact ⟨hgr.cell c0 (by simp <;> omega), hgr.cell c3 (by simp <;> omega)⟩ | exact ⟨(World.cell?_setCell_far _ _ _ _ (by simp <;> omega)).trans (hgr.cell c0 (by simp <;> omega)), (World.cell?_setCell_far _ _ _ _ (by simp <;> omega)).trans (hgr.cell c3 (by simp <;> omega))⟩ | go_keep)
   (first | (go_at_call 184; refine (carry0 c (w.heap.size + 1 + 1) X.drew ok2 (by omega) q2).mono ?_; rintro e w2 ⟨rfl, hcar2, hgr⟩; have hblk2 : Blk w2 g z := Blk.grown (w := X.drew) hblk hgr (by simp <;> omega); have hcell2 := hblk2.cell (off + vs.length) (by omega); have hfree2 := hblk2.free (off + vs.length)))
  have hDX : D < X.heap.size := (Array.getElem?_eq_some_iff.1 hK).1
  have hK2 : w2.heap[D]? = some (.deferred (some [])) := (hgr.block D hDX (by simp <;> omega)).trans hK
  have hK3 : (w2.setCell ⟨g, off + vs.length, none⟩ (.int .u32 (c % 4294967296))).heap[D]? = some (.deferred (some [])) := (Below.heap_setCell _ _ _ _ (by simp <;> omega)).trans hK2
  refine ⟨by simp, .inl ⟨_, _, rfl, run_takeDeferred hK3, ?_⟩⟩
  have ub := hblk2.set (off + vs.length) (c % 4294967296)
  rw [Int.emod_eq_of_lt ok2 ok3, ← HR.out] at ub
  refine ⟨_, results_none rfl _ _ _, rfl, ?_, ?_⟩
  · rw [Int.emod_eq_of_lt ok2 ok3]
    exact Blk.grown ub (grownBy_putObj' _ D (.deferred none)) (by simp <;> omega)
  · refine grown_trans (grown_trans (grown_trans hB (grown_drew hgr) (fun r e => by cases e; exact .inr (by omega))) (Only.set w2 g (off + vs.length) _).grown (fun r e => .inl e.symm)) (grownBy_putObj' _ D (.deferred none)) (fun r e => by cases e; exact .inr (by omega))
 case stop =>
  rintro D c pre X _ _ h _
  exact h.elim
end
end Go.Proofs.YtengpgodmbfmkaaGreat
