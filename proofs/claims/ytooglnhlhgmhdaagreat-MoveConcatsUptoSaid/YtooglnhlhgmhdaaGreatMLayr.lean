/-
  Package move as it landed: layers. (Made by wip/gen/gen_mconc.py.)
-/
import Derived.Test.YtooglnhlhgmhdaaGreatMJoinB
namespace Go.Proofs.YtooglnhlhgmhdaaGreat
open Go.RowKit
set_option linter.unusedVariables false
set_option linter.unusedSimpArgs false

theorem infoLay : (Tryz.prog.info? 97).map (fun i => (i.zero, i.size, i.bytes)) = some (some (.agg #[.slice none 0 0, .slice none 0 0, .int .i64 0]), 3, 56) := by kernel_rfl
/-- the layers of tensors along an axis: the tensor, the number there -/
def layL (a : Nat) (xs : List X2) : List (X2 × Int) := xs.flatMap fun x => (List.range (x.s.getD a 0).toNat).map fun n : Nat => (x, (n : Int))
theorem layL_snoc (a : Nat) (l : List X2) (x : X2) : layL a (l ++ [x]) = layL a l ++ (List.range (x.s.getD a 0).toNat).map fun n : Nat => (x, (n : Int)) := by
  unfold layL
  rw [List.flatMap_append]
  simp
theorem layL_len {a : Nat} {l : List X2} (h : ∀ x ∈ l, 0 ≤ x.s.getD a 0) : ((layL a l).length : Int) = sumD a l := by
  induction l with
  | nil => rfl
  | cons x l ih =>
    have h1 := ih fun y hy => h y (List.mem_cons_of_mem _ hy)
    have h2 := h x List.mem_cons_self
    have e : layL a (x :: l) = ((List.range (x.s.getD a 0).toNat).map fun n : Nat => (x, (n : Int))) ++ layL a l := by unfold layL; rw [List.flatMap_cons]
    rw [e, List.length_append, List.length_map, List.length_range]
    simp only [sumD]
    omega
theorem layL_mem {a : Nat} {l : List X2} {x : X2} {n : Int} (h : (x, n) ∈ layL a l) : x ∈ l ∧ 0 ≤ n ∧ n < x.s.getD a 0 := by
  obtain ⟨y, hy, hm⟩ := List.mem_flatMap.1 h
  obtain ⟨k, hk, e⟩ := List.mem_map.1 hm
  have := List.mem_range.1 hk
  simp only [Prod.mk.injEq] at e
  obtain ⟨rfl, rfl⟩ := e
  exact ⟨hy, by omega, by omega⟩
/-- a layer, as it stands in a row -/
def LayP (w : World) (v : Value) (l : X2 × Int) : Prop := ∃ (a e : Option Addr) (ca ce : Nat), v = .agg #[.slice a l.1.s.length ca, .slice e l.1.q.length ce, .int .i64 l.2] ∧ TensQ w (.agg #[.slice a l.1.s.length ca, .slice e l.1.q.length ce]) l.1.s l.1.q a ca e ce
theorem LayP.later {w w' : World} {v : Value} {l : X2 × Int} (h : LayP w v l) (hb : Below w.heap.size w w') : LayP w' v l := by
  obtain ⟨a, e, ca, ce, hv, T⟩ := h
  exact ⟨a, e, ca, ce, hv, T.later hb⟩
set_option maxRecDepth 100000 in
set_option maxHeartbeats 40000000 in
theorem layers_any {w : World} {v : Value} {xs : List X2} {ad : Option Addr} {cap a : Nat} (R : RowT w v xs ad cap) (hn : xs.length ≤ 1048576) (hx : ∀ x ∈ xs, OkS x.s ∧ a < x.s.length) :
    Calls Tryz.prog 69 #[.int .i64 (a : Int), v] w fun e w' => ∃ r, e = .returned r ∧ RowO w.heap.size 97 (fun _ u l => LayP w u l) w' r (layL a xs) ∧ Below w.heap.size w w' := by
  obtain rfl := R.is
  have HR := Lib.hid R
  have HX := Lib.hid hx
  obtain ⟨i0, hiL, hz0, hz1, hz2⟩ := info_parts infoLay
  obtain ⟨N, hN⟩ : ∃ N, xs.length = N := ⟨_, rfl⟩
  have HN := Lib.hid hN
  obtain ⟨res, hres⟩ : ∃ l, layL a xs = l := ⟨_, rfl⟩
  have HRES := Lib.hid hres
  rw [hres]
  rw [hN] at hn ⊢
  clear R hx hN hres
  go_enter Tryz.func69, Tryz.ntmps69
  go_wp2_with fail
  go_loopw [5, 7, 8, 11, 20] (fun u _ _ i _ wr => ∃ (k : Nat), i = .int .i64 (k : Int) ∧ k ≤ N ∧ RowO w.heap.size 97 (fun _ u l => LayP w u l) wr u (layL a (xs.take k)) ∧ Below w.heap.size w wr) (fun _ _ _ i _ _ => N - (intOf i).toNat)
  case atStart => exact ⟨0, rfl, Nat.zero_le _, RowO.nil _ _ _ _, Below.refl _ _⟩
  case round =>
    rename World => wr
    obtain ⟨k, rfl, hk, hO, hb⟩ := hrel
    have hsz := hb.size
    have HO := Lib.hid hO
    clear hO
    by_cases hlt : k < N
    · have hltI : (k : Int) < (N : Int) := by omega
      obtain ⟨x, hx⟩ : ∃ x, xs[k]? = some x := ⟨_, List.getElem?_eq_getElem (by rw [HN.out]; omega)⟩
      have hmx := HX.out x (List.mem_of_getElem? hx)
      obtain ⟨b, o, rfl, _, ax, ex, cx, dx, _, _, TX0⟩ := HR.out.at hx
      obtain ⟨b', o', e', _, ax', ex', cx', dx', c0, c1, TX⟩ := (HR.out.later hb).at hx
      cases e'
      obtain ⟨bx, ox, rfl, c2⟩ := TX.sh.at (i := a) hmx.2
      obtain ⟨d, hd⟩ : ∃ d, x.s.getD a 0 = d := ⟨_, rfl⟩
      rw [hd] at c2
      have hd3 := hmx.1.pos.getD hmx.2
      have hd4 := getD_le_prod hmx.1.pos hmx.2
      have hd5 := hmx.1.few
      rw [hd] at hd3 hd4
      obtain ⟨D, rfl⟩ : ∃ D : Nat, d = (D : Int) := ⟨d.toNat, by omega⟩
      have haxI : (a : Int) < (x.s.length : Int) := by have := hmx.2; omega
      have hpre : ∀ y ∈ xs.take k, OkS y.s ∧ a < y.s.length := fun y hy => HX.out y (List.mem_of_mem_take hy)
      have hbd := sumD_bound hpre
      have hln := layL_len (a := a) (l := xs.take k) (fun y hy => by have := (hpre y hy).1.pos.getD (hpre y hy).2; omega)
      rw [List.length_take, HN.out, show min k N = k by omega] at hbd
      have hlay : (layL a (xs.take k)).length ≤ 1024 * k := by omega
      have HLAY := Lib.hid hlay
      have hnx : layL a (xs.take (k + 1)) = layL a (xs.take k) ++ (List.range D).map fun n : Nat => (x, (n : Int)) := by
        rw [take_nextL hx, layL_snoc, hd]
        rfl
      have HNX := Lib.hid hnx
      obtain ⟨W2, hW2⟩ : ∃ Y, wr.alloc (.cells #[.slice (some ⟨bx, ox, none⟩) x.s.length cx', .slice ex' x.q.length dx'] 26) = Y := ⟨_, rfl⟩
      have b2 : Below wr.heap.size wr W2 := by rw [← hW2]; exact (Below.refl _ _).alloc (Nat.le_refl _) _
      have RX : Row W2 wr.heap.size 26 #[.slice (some ⟨bx, ox, none⟩) x.s.length cx', .slice ex' x.q.length dx'] := by rw [← hW2]; exact Row.new _ _ _
      have hTb : ∃ (a1 e1 : Option Addr) (c1' c2' : Nat), (Value.agg #[.slice (some ⟨bx, ox, none⟩) x.s.length cx', .slice ex' x.q.length dx']) = .agg #[.slice a1 x.s.length c1', .slice e1 x.q.length c2'] ∧ TensQ w (.agg #[.slice a1 x.s.length c1', .slice e1 x.q.length c2']) x.s x.q a1 c1' e1 c2' := by
        obtain ⟨b9, o9, e9, hlt9, a9, e8, ca9, ce9, c90, c91, T9⟩ := HR.out.at hx
        cases e9
        have g0 := ((hb.cell (World.block_lt_of_cell? _ _ c90)).trans c90).symm.trans c0
        have g1 := ((hb.cell (World.block_lt_of_cell? _ _ c91)).trans c91).symm.trans c1
        simp only [Option.some.injEq] at g0 g1
        exact ⟨a9, e8, ca9, ce9, by rw [g0, g1], T9⟩
      have HTB := Lib.hid hTb
      have d2 := (b2.cell (World.block_lt_of_cell? _ _ c2)).trans c2
      have HRX := Lib.hid RX
      have hb2 : Below w.heap.size w W2 := hb.trans (b2.mono hsz)
      have HB2 := Lib.hid hb2
      have HO2 := Lib.hid (HO.out.later b2 (fun u l h => h))
      obtain ⟨d0, d1, _, _⟩ := RX.two
      clear TX TX0 hd hpre hbd hln hlay hnx RX hTb hx
      go_wp2_with fail
      (try rw [hW2])
      clear hW2 c0 c1 c2 d0 d1 d2
      go_loopw [5, 8, 20] (fun u _ i wi => ∃ (j : Nat), i = .int .i64 (j : Int) ∧ j ≤ D ∧ RowO w.heap.size 97 (fun _ u l => LayP w u l) wi u (layL a (xs.take k) ++ (List.range j).map fun n : Nat => (x, (n : Int))) ∧ Row wi wr.heap.size 26 #[.slice (some ⟨bx, ox, none⟩) x.s.length cx', .slice ex' x.q.length dx'] ∧ Below w.heap.size w wi) (fun _ _ i _ => D - (intOf i).toNat)
      case atStart => exact ⟨0, rfl, Nat.zero_le _, by simpa using HO2.out, HRX.out, HB2.out⟩
      case round =>
        rename World => wi
        obtain ⟨j, rfl, hj, ⟨es, hown, hall⟩, hrx, hbi⟩ := hrel
        have hszi := hbi.size
        obtain ⟨d0, d1, _, _⟩ := hrx.two
        have hel : es.length ≤ 1024 * k + D := by rw [hall.1, List.length_append, List.length_map, List.length_range]; have := HLAY.out; omega
        obtain ⟨av, cv, rfl⟩ := ownT_slice hown
        have HALL := Lib.hid hall
        have HRW := Lib.hid hrx
        by_cases hltj : j < D
        · have hltjI : (j : Int) < (D : Int) := by omega
          clear hall
          go_wp2_with (at_builtin; (refine wpList_append_own _ rfl _ _ 93 rfl w.heap.size 97 i0 _ 3 56 Tryz.underlying93 hiL hz0 hz1 hz2 rfl (by decide) _ es.length (flat3 es) rfl (hown.later ((Below.refl _ _).alloc (Nat.le_refl _) _)) ⟨wi.heap.size, 0, none⟩ 1 1 [.slice (some ⟨bx, ox, none⟩) x.s.length cx', .slice ex' x.q.length dx', .int .i64 (j : Int)] rfl rfl (cell_three_new _ _ _ _ _) (by simp [Value.oneCell']) (by unfold maxLen; omega) (by omega) (by simp; omega) ?_; intro v' w6 hown' hgrow _))
          have hLP : LayP w (E3.agg ⟨.slice (some ⟨bx, ox, none⟩) x.s.length cx', .slice ex' x.q.length dx', .int .i64 (j : Int)⟩) (x, (j : Int)) := by
            obtain ⟨a1, e1, c1', c2', hv, T9⟩ := HTB.out
            simp only [Value.agg.injEq, Array.mk.injEq, List.cons.injEq, and_true] at hv
            obtain ⟨hv1, hv2⟩ := hv
            exact ⟨a1, e1, c1', c2', by show Value.agg #[_, _, _] = _; rw [hv1, hv2], T9⟩
          obtain ⟨hrow6, hb6⟩ := pushE (P := fun _ u l => LayP w u l) (e := ⟨.slice (some ⟨bx, ox, none⟩) x.s.length cx', .slice ex' x.q.length dx', .int .i64 (j : Int)⟩) hbi hszi hown HALL.out hLP (fun u y h => h) hown' hgrow
          have hne : ∃ r, ((Value.slice av es.length cv).ownBlock = none ∨ (Value.slice av es.length cv).ownBlock = some r) ∧ w.heap.size ≤ r ∧ wr.heap.size ≠ r := by
            obtain ⟨r, h1, h2, h3⟩ := OwnE.hits hown hszi
            exact ⟨r, h1, h2, h3 _ _ _ HRW.out (by decide)⟩
          obtain ⟨r, hr1, hr2, hr3⟩ := hne
          have hk6 : Kept r wi w6 := ((Kept.refl r wi).alloc _).grown hgrow hr1
          have hrx6 := HRW.out.kept hk6 hr3
          have HROW := Lib.hid hrow6
          have HRX6 := Lib.hid hrx6
          clear hown' hgrow hrow6 hrx6 hLP hk6 hr1 hr2 hr3
          (try go_wp2_with fail)
          go_roundw
          case rel =>
            refine ⟨j + 1, by go_num, by omega, ?_, HRX6.out, hb6⟩
            rw [List.range_succ, List.map_append, ← List.append_assoc]
            exact HROW.out
          case measure => simp [intOf]; omega
        · obtain rfl : j = D := by omega
          have hltjI : ¬ (j : Int) < (j : Int) := by omega
          have hfin : RowO w.heap.size 97 (fun _ u l => LayP w u l) wi (.slice av es.length cv) (layL a (xs.take (k + 1))) := by rw [HNX.out]; exact ⟨es, hown, HALL.out⟩
          have HFIN := Lib.hid hfin
          clear hfin hall
          go_wp2_with fail
          go_roundw
          case rel => exact ⟨k + 1, by go_num, by omega, HFIN.out, hbi⟩
          case measure => simp [intOf]; omega
    · obtain rfl : k = N := by omega
      have hltI : ¬ (k : Int) < (k : Int) := by omega
      have hfin := HO.out
      rw [List.take_of_length_le (by rw [HN.out]; exact Nat.le_refl _), HRES.out] at hfin
      have HFIN := Lib.hid hfin
      clear hfin
      go_wp2_with fail
      go_ret
      exact ⟨_, rfl, HFIN.out, hb⟩
end Go.Proofs.YtooglnhlhgmhdaaGreat
