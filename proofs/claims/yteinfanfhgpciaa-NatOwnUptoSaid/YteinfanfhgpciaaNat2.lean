/-
  Contracts of package nat: Of, Add, Shr.
-/
import Derived.Test.YteinfanfhgpciaaNat1
import Derived.Test.YteinfanfhgpciaaMem
namespace Go.Proofs.Yteinfanfhgpciaa
open Go.RowKit

theorem infoLimb : (Try.prog.info? 56).map (fun i => (i.zero, i.size, i.bytes)) = some (some (.int .u32 0), 1, 4) := by kernel_rfl

/-- make([]limb, n, c) -/
theorem make_run (n c : Int) (h0 : 0 ≤ n) (hnc : n ≤ c) (hc : c ≤ 70368744177664) (w : World) :
    (Instr.makeSlice 24 (.int .i64 n) (.int .i64 c)).run Try.prog w = .ok (.slice (some ⟨w.heap.size, 0, none⟩) n.toNat c.toNat) (w.alloc (.cells (madeCells #[.int .u32 0] c.toNat) 56)) := by
  obtain ⟨i0, hi, hz0, hz1, hz2⟩ := info_parts infoLimb
  have h := run_make (P := Try.prog) w 24 56 i0 (.int .u32 0) Try.underlying24 hi hz0 .i64 .i64 n c h0 hnc (by rw [hz2]; omega) (by omega)
  simpa [hz1, Value.cells] using h

theorem make_runN (n c : Nat) (hnc : n ≤ c) (hc : c ≤ 70368744177664) (w : World) :
    (Instr.makeSlice 24 (.int .i64 n) (.int .i64 c)).run Try.prog w = .ok (.slice (some ⟨w.heap.size, 0, none⟩) n c) (w.alloc (.cells (madeCells #[.int .u32 0] c) 56)) := by
  simpa using make_run n c (by omega) (by omega) (by omega) w

theorem make_run0 (c : Nat) (hc : c ≤ 70368744177664) (w : World) :
    (Instr.makeSlice 24 (.int .i64 0) (.int .i64 c)).run Try.prog w = .ok (.slice (some ⟨w.heap.size, 0, none⟩) 0 c) (w.alloc (.cells (madeCells #[.int .u32 0] c) 56)) := by
  simpa using make_run 0 c (by omega) (by omega) (by omega) w

/-! ## sums -/
/-- the state behind k limbs of a sum: the limbs, the carry -/
def addTo (xs ys : List Int) : Nat → List Int × Int
  | 0 => ([], 0)
  | k + 1 => ((addTo xs ys k).1 ++ [((addTo xs ys k).2 + xs.getD k 0 + ys.getD k 0) % 4294967296], ((addTo xs ys k).2 + xs.getD k 0 + ys.getD k 0) / 4294967296)
/-- the sum's limbs -/
def addN (xs ys : List Int) : Nat := max (trimN xs xs.length) (trimN ys ys.length)
def addL (xs ys : List Int) : List Int := (addTo xs ys (addN xs ys)).1 ++ [(addTo xs ys (addN xs ys)).2]

theorem addTo_length (xs ys : List Int) (k : Nat) : (addTo xs ys k).1.length = k := by
  induction k with
  | zero => rfl
  | succ k ih => simp [addTo, ih]
theorem addTo_carry (xs ys : List Int) (hx : Wf xs) (hy : Wf ys) (k : Nat) : 0 ≤ (addTo xs ys k).2 ∧ (addTo xs ys k).2 ≤ 1 := by
  induction k with
  | zero => simp [addTo]
  | succ k ih => have h1 := hx.getD k; have h2 := hy.getD k; simp only [addTo]; omega
theorem addTo_wf (xs ys : List Int) (k : Nat) : Wf (addTo xs ys k).1 := by
  induction k with
  | zero => exact Wf.nil
  | succ k ih => exact ih.append (Wf.cons (by omega) Wf.nil)
theorem addL_length (xs ys : List Int) : (addL xs ys).length = addN xs ys + 1 := by simp [addL, addTo_length]

set_option maxHeartbeats 1000000 in
theorem add_any (a b : Option Addr) (xs ys : List Int) (capa capb : Nat) (w : World) (hla : Lim w a xs) (hlb : Lim w b ys) (hma : xs.length ≤ 35184372088832) (hmb : ys.length ≤ 35184372088832)
    (hca : xs.length ≤ capa) (hcb : ys.length ≤ capb) (hwa : Wf xs) (hwb : Wf ys) :
    Calls Try.prog 28 #[.slice a xs.length capa, .slice b ys.length capb] w fun e w' => ∃ v, e = .returned v ∧ Num w.heap.size w' v (trim (addL xs ys)) ∧ Below w.heap.size w w' := by
  have hta := trim_le xs
  have htb := trim_le ys
  go_enter Try.func28, Try.ntmps28
  go_wp2_with fail
  refine (cut_any a xs capa _ hla (by unfold maxLen; omega) hca).mono ?_
  rintro e w' ⟨rfl, rfl⟩
  go_wp2_with fail
  refine (cut_any b ys capb _ hlb (by unfold maxLen; omega) hcb).mono ?_
  rintro e w' ⟨rfl, rfl⟩
  obtain ⟨m, hm⟩ : ∃ m, addN xs ys = m := ⟨_, rfl⟩
  have hx : max (trimN xs xs.length : Int) (trimN ys ys.length : Int) = (m : Int) := by rw [← hm]; unfold addN; omega
  have hm2 : m ≤ 35184372088832 := by rw [← hm]; unfold addN; omega
  have HM := Lib.hid hm
  clear hm
  have hmk := make_runN m (m + 1) (by omega) (by omega)
  simp only [Int.natCast_succ] at hmk
  go_wp2_with fail
  refine (carrier_any _ _).mono ?_
  rintro e w' ⟨rfl, rfl⟩
  go_wp2_with fail
  go_loopw [8, 23] (fun _ i wr => ∃ k : Nat, k ≤ m ∧ i = .int .i64 k ∧ Blk wr w.heap.size ((addTo xs ys k).1 ++ List.replicate (m + 1 - k) 0) ∧
      wr.heap[w.heap.size + 1]? = some (.cells #[.int .u64 (addTo xs ys k).2] 22 (0, 0)) ∧ Below w.heap.size w wr) (fun _ i _ => m - (intOf i).toNat)
  case atStart =>
    refine ⟨0, Nat.zero_le _, rfl, ?_, ?_, ?_⟩
    · exact (Blk.made w (m + 1)).alloc _
    · have h := heap_alloc_new (w.alloc (Obj.cells (madeCells #[Value.int IntKind.u32 0] (m + 1)) 56)) (Obj.cells #[Value.int IntKind.u64 0] 22)
      simpa [addTo] using h
    · exact ((Below.refl _ w).alloc (Nat.le_refl _) _).alloc (by simp) _
  case round =>
    obtain ⟨k, hk, rfl, hblk, hcar, hbel⟩ := hrel
    by_cases hlt : k < m
    · obtain ⟨x, hxk⟩ : ∃ x, xs.getD k 0 = x := ⟨_, rfl⟩
      obtain ⟨y, hyk⟩ : ∃ y, ys.getD k 0 = y := ⟨_, rfl⟩
      obtain ⟨c, hck⟩ : ∃ c, (addTo xs ys k).2 = c := ⟨_, rfl⟩
      have bx : 0 ≤ x ∧ x < 4294967296 := hxk ▸ hwa.getD k
      have by' : 0 ≤ y ∧ y < 4294967296 := hyk ▸ hwb.getD k
      have bc : 0 ≤ c ∧ c ≤ 1 := hck ▸ addTo_carry xs ys hwa hwb k
      obtain ⟨bx0, bx1⟩ := bx
      obtain ⟨by0, by1⟩ := by'
      rw [hck] at hcar
      have HX := Lib.hid hxk
      have HY := Lib.hid hyk
      have HC := Lib.hid hck
      clear hxk hyk hck hx
      have hla' := hla.later hbel
      have hlb' := hlb.later hbel
      have hsz := hbel.size
      have hg1 := lt_of_block hcar
      go_wp2_with fail
      refine (at_nat a xs capa k x _ hla' (by unfold maxLen; omega) HX.out).mono ?_
      rintro e w' ⟨rfl, rfl⟩
      go_wp2_with fail
      refine (at_nat b ys capb k y _ hlb' (by unfold maxLen; omega) HY.out).mono ?_
      rintro e w' ⟨rfl, rfl⟩
      go_wp2_with fail
      refine (carry2 c x y _ wr bc.1 bx0 by0 (by omega) hcar).mono ?_
      rintro e w2 ⟨rfl, hcar2, hgr⟩
      have hblk2 := hblk.grown hgr (by simp)
      have hlz : ((addTo xs ys k).1 ++ List.replicate (m + 1 - k) 0).length = m + 1 := by rw [List.length_append, addTo_length, List.length_replicate]; omega
      have hcell := hblk2.cell k (by omega)
      have hfree := hblk2.free k
      go_wp2_with fail
      go_roundw
      case rel =>
        have hset := hblk2.set k ((c + x + y) % 4294967296)
        refine ⟨k + 1, by omega, by go_num, ?_, ?_, ?_⟩
        · have e : ((addTo xs ys k).1 ++ List.replicate (m + 1 - k) 0).set k ((c + x + y) % 4294967296) = (addTo xs ys (k + 1)).1 ++ List.replicate (m + 1 - (k + 1)) 0 := by
            rw [set_mid _ _ _ _ (addTo_length xs ys k) (by omega)]
            simp only [addTo, HX.out, HY.out, HC.out]
          rw [← e]
          exact hset
        · rw [Below.heap_setCell _ _ _ _ (by simp)]
          simp only [addTo, HX.out, HY.out, HC.out]
          exact hcar2
        · exact (hbel.grown hgr (by omega) (fun j ej => by cases ej; omega)).setCell (p := ⟨w.heap.size, k, none⟩) (Nat.le_refl _) _
      case measure => simp [intOf]; omega
    · have hke : k = m := by omega
      subst hke
      obtain ⟨c, hck⟩ : ∃ c, (addTo xs ys k).2 = c := ⟨_, rfl⟩
      have bc : 0 ≤ c ∧ c ≤ 1 := hck ▸ addTo_carry xs ys hwa hwb k
      rw [hck] at hcar
      have HC := Lib.hid hck
      clear hck hx
      have hsz := hbel.size
      have hg1 := lt_of_block hcar
      obtain ⟨i0, hi, hz0, hz1, hz2⟩ := info_parts infoLimb
      go_wp2_with fail
      refine (carry0 c _ wr bc.1 (by omega) hcar).mono ?_
      rintro e w2 ⟨rfl, hcar2, hgr⟩
      have hblk2 := hblk.grown hgr (by simp)
      have hown : w2.ownsRow w.heap.size 56 1 (.slice (some ⟨w.heap.size, 0, none⟩) k (k + 1)) k ((addTo xs ys k).1.map (Value.int .u32)) := by
        have hnum := Num.ofBlk hblk2 (Nat.le_refl _) k (by simp [addTo_length]) (by simp [addTo_length]; unfold maxLen; omega)
        have e1 : ((addTo xs ys k).1 ++ List.replicate (k + 1 - k) 0).length = k + 1 := by rw [List.length_append, addTo_length, List.length_replicate]; omega
        have e2 : ((addTo xs ys k).1 ++ List.replicate (k + 1 - k) 0).take k = (addTo xs ys k).1 := List.take_left' (addTo_length xs ys k)
        rw [e1, e2] at hnum
        unfold Num at hnum
        rw [addTo_length] at hnum
        exact hnum
      go_wp2_with (at_builtin; refine wpList_append_fits _ rfl _ _ 24 rfl w.heap.size 56 i0 1 Try.underlying24 hi hz1 w.heap.size k (k + 1) ((addTo xs ys k).1.map (Value.int .u32)) rfl (hown.alloc _) ⟨w2.heap.size, 0, none⟩ 1 1 [.int .u32 (c % 4294967296)] rfl rfl (cell_one_new _ _ _) (by simp [Value.oneCell']) (by omega) ?_; intro w3 hown3 hgr3)
      have hnum : Num w.heap.size w3 (.slice (some ⟨w.heap.size, 0, none⟩) (k + 1) (k + 1)) (addL xs ys) := by
        have e : addL xs ys = (addTo xs ys k).1 ++ [c % 4294967296] := by
          unfold addL
          rw [HM.out, HC.out, Int.emod_eq_of_lt bc.1 (by omega)]
        rw [e]
        unfold Num
        rw [List.length_append, addTo_length, List.map_append]
        exact hown3
      have hb3 : Below w.heap.size w w3 := ((hbel.grown hgr (by omega) (fun j ej => by cases ej; omega)).alloc (by have := hgr.size; omega) _).grown hgr3 (by have := hgr.size; simp; omega) (fun j ej => by cases ej; exact Nat.le_refl _)
      refine (cut_num hnum).mono ?_
      rintro e w4 ⟨u, rfl, hu, rfl⟩
      go_wp2_with fail
      go_ret
      exact ⟨_, rfl, hu, hb3⟩
end Go.Proofs.Yteinfanfhgpciaa
