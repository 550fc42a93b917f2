/-
  Part 22 of 39: contracts and what they rest on (SCode4, SCode7, TCopy, TCode0, MMath2).
-/
import Derived.Test.YtengpgodmbfmkaaGreatG20
namespace Go.Proofs.YtengpgodmbfmkaaGreat
set_option linter.unusedVariables false
set_option linter.unusedSimpArgs false
set_option maxRecDepth 100000
set_option maxHeartbeats 40000000
section
open Go.RowKit
def MrkS (w : World) (g : Nat) (zs : List Bool) : Prop := w.heap[g]? = some (.cells (zs.map Value.bool).toArray 4 (0, 0))
theorem MrkS.cell {w : World} {g : Nat} {zs : List Bool} (h : MrkS w g zs) (i : Nat) (hi : i < zs.length) : w.cell? ⟨g, i, none⟩ = some (.bool (zs.getD i false)) := by
 have e : w.cell? ⟨g, i, none⟩ = ((zs.map Value.bool).toArray)[i]? := cell_of_row w g i _ 4 (0, 0) h
 rw [e]; simp [hi]
theorem MrkS.free {w : World} {g : Nat} {zs : List Bool} (h : MrkS w g zs) (i : Nat) : w.frozen? ⟨g, i, none⟩ = false := frozen_of_row w g i _ 4 h
theorem MrkS.lt {w : World} {g : Nat} {zs : List Bool} (h : MrkS w g zs) : g < w.heap.size := lt_of_block h
theorem MrkS.same {w w' : World} {g : Nat} {zs : List Bool} (h : MrkS w g zs) (e : w'.heap[g]? = w.heap[g]?) : MrkS w' g zs := e.trans h
theorem MrkS.alloc {w : World} {g : Nat} {zs : List Bool} (h : MrkS w g zs) (o : Obj) : MrkS (w.alloc o) g zs := h.same (Below.heap_alloc _ _ _ h.lt)
theorem MrkS.set {w : World} {g : Nat} {zs : List Bool} (h : MrkS w g zs) (i : Nat) (x : Bool) : MrkS (w.setCell ⟨g, i, none⟩ (.bool x)) g (zs.set i x) := by
 have hh := heap_setCell_same w g i _ 4 (.bool x) h
 unfold MrkS
 rw [hh]
 congr 2
 simp [List.map_set]
theorem MrkS.made (w : World) (n : Nat) : MrkS (w.alloc (.cells (madeCells #[.bool false] n) 4)) w.heap.size (List.replicate n false) := by
 have h := heap_alloc_new w (.cells (madeCells #[.bool false] n) 4)
 unfold MrkS
 rw [h]
 congr 2
 apply Array.ext
 · simp [madeCells]
 · intro i h1 h2
   simp [madeCells, Nat.mod_one]
theorem infoM : (Tryz.prog.info? 4).map (fun i => (i.zero, i.size, i.bytes)) = some (some (.bool false), 1, 1) := by kernel_rfl
theorem make_runM (n : Nat) (hc : n ≤ 17592186044416) (w : World) :
 (Instr.makeSlice 187 (.int .i64 (n : Int)) (.int .i64 (n : Int))).run Tryz.prog w = .ok (.slice (some ⟨w.heap.size, 0, none⟩) n n) (w.alloc (.cells (madeCells #[.bool false] n) 4)) := by
 obtain ⟨i0, hi, hz0, hz1, hz2⟩ := info_parts infoM
 have h := run_make (P := Tryz.prog) w 187 4 i0 (.bool false) Tryz.underlying187 hi hz0 .i64 .i64 n n (by omega) (by omega) (by rw [hz2]; omega) (by omega)
 simpa [hz1, Value.cells] using h
theorem make_runH (n m : Nat) (hm : n ≤ m) (hc : m ≤ 17592186044416) (w : World) :
 (Instr.makeSlice 23 (.int .i64 (n : Int)) (.int .i64 (m : Int))).run Tryz.prog w = .ok (.slice (some ⟨w.heap.size, 0, none⟩) n m) (w.alloc (.cells (madeCells #[.int .i64 0] m) 3)) := by
 obtain ⟨i0, hi, hz0, hz1, hz2⟩ := info_parts infoS
 have h := run_make (P := Tryz.prog) w 23 3 i0 (.int .i64 0) Tryz.underlying23 hi hz0 .i64 .i64 n m (by omega) (by omega) (by rw [hz2]; omega) (by omega)
 simpa [hz1, Value.cells] using h
def MarkS (w : World) (p n : Nat) (l : List Int) : Prop := ∃ g, w.cell? ⟨p, 0, none⟩ = some (.slice (some ⟨g, 0, none⟩) n n) ∧ ∀ i, i < n → w.cell? ⟨g, i, none⟩ = some (.bool (decide ((i : Int) ∈ l)))
theorem MarkS.later {w w' : World} {p n : Nat} {l : List Int} (h : MarkS w p n l) (hb : Below w.heap.size w w') : MarkS w' p n l := by
 obtain ⟨g, h1, h2⟩ := h
 exact ⟨g, (hb.cell (World.block_lt_of_cell? w _ h1)).trans h1, fun i hi => (hb.cell (World.block_lt_of_cell? w _ (h2 i hi))).trans (h2 i hi)⟩
def SeenM (l : List Int) (n k : Nat) (M : List Bool) : Prop := M.length = n ∧ ∀ i, i < n → M.getD i false = decide ((i : Int) ∈ l.take k)
theorem SeenM.nil (l : List Int) (n : Nat) : SeenM l n 0 (List.replicate n false) := ⟨by simp, fun i hi => by simp [List.getD_eq_getElem?_getD, hi]⟩
theorem mem_next {l : List Int} {k : Nat} {x y : Int} (hx : l[k]? = some x) : y ∈ l.take (k + 1) ↔ y ∈ l.take k ∨ y = x := by
 rw [List.take_add_one, hx, Option.toList_some, List.mem_append, List.mem_singleton]
theorem SeenM.skip {l : List Int} {n k : Nat} {M : List Bool} {x : Int} (h : SeenM l n k M) (hx : l[k]? = some x) (ho : x < 0 ∨ (n : Int) ≤ x) : SeenM l n (k + 1) M := by
 refine ⟨h.1, fun i hi => ?_⟩
 rw [h.2 i hi]
 apply decide_eq_decide.2
 rw [mem_next hx]
 exact ⟨.inl, fun h => h.elim id fun e => by omega⟩
theorem SeenM.mark {l : List Int} {n k j : Nat} {M : List Bool} (h : SeenM l n k M) (hx : l[k]? = some (j : Int)) (hj : j < n) : SeenM l n (k + 1) (M.set j true) := by
 refine ⟨by rw [List.length_set]; exact h.1, fun i hi => ?_⟩
 by_cases e : i = j
 · subst e
   rw [List.getD_eq_getElem?_getD, List.getElem?_set_self (by rw [h.1]; exact hi)]
   exact (decide_eq_true ((mem_next hx).2 (.inr rfl))).symm
 · rw [List.getD_eq_getElem?_getD, List.getElem?_set_ne (by omega), ← List.getD_eq_getElem?_getD, h.2 i hi]
   apply decide_eq_decide.2
   rw [mem_next hx]
   exact ⟨.inl, fun h => h.elim id fun e2 => by omega⟩
theorem amongL_any {p n i : Nat} {l : List Int} {w : World} (M : MarkS w p n l) (hi : i < n) :
 Calls Tryz.prog 154 #[.int .i64 (i : Int), .pointer (some ⟨p, 0, none⟩)] w fun e w' => e = .returned (.bool (decide ((i : Int) ∈ l))) ∧ w = w' := by
 obtain ⟨g, h1, h2⟩ := M
 have h3 := h2 i hi
 have hiI : (i : Int) < (n : Int) := by omega
 obtain ⟨b, hb⟩ : ∃ b, decide ((i : Int) ∈ l) = b := ⟨_, rfl⟩
 rw [hb] at h3 ⊢
 clear h2 hb
 go_enter Tryz.func154, Tryz.ntmps154
 go_wp2
 go_ret
 exact ⟨rfl, rfl⟩
theorem among_any {u : Value} {l : List Int} {a : Option Addr} {ca : Nat} {w : World} (n : Nat) (A : ArgS w u l a ca) (hn : n ≤ 17592186044416) (hl : l.length ≤ 17592186044416) :
 Calls Tryz.prog 125 #[u, .int .i64 (n : Int)] w fun e w' => ∃ p, e = .returned (.func (.func 154) #[] #[.pointer (some ⟨p, 0, none⟩)]) ∧ MarkS w' p n l ∧ Below w.heap.size w w' := by
 have HA := Lib.hid A
 obtain rfl := A.is
 obtain ⟨L, hL⟩ : ∃ L, l.length = L := ⟨_, rfl⟩
 have HL := Lib.hid hL
 have hmk := make_runM n hn
 have hmf : ∀ (fn : Fn) (first cap : Array Value) (w : World), (Instr.makeFunc fn first cap).run Tryz.prog w = .ok (.func fn first cap) w := fun _ _ _ _ => rfl
 rw [hL] at hl ⊢
 clear A hL
 go_enter Tryz.func125, Tryz.ntmps125
 go_wp2
 have hb0 : Below w.heap.size w ((w.alloc (.cells (madeCells #[.bool false] n) 4)).alloc (.cells #[.slice (some ⟨w.heap.size, 0, none⟩) n n] 187)) := ((Below.refl _ w).alloc (Nat.le_refl _) _).alloc (by simp) _
 have hm0 : MrkS ((w.alloc (.cells (madeCells #[.bool false] n) 4)).alloc (.cells #[.slice (some ⟨w.heap.size, 0, none⟩) n n] 187)) w.heap.size (List.replicate n false) := (MrkS.made w n).alloc _
 have hc0 : ((w.alloc (.cells (madeCells #[.bool false] n) 4)).alloc (.cells #[.slice (some ⟨w.heap.size, 0, none⟩) n n] 187)).cell? ⟨w.heap.size + 1, 0, none⟩ = some (.slice (some ⟨w.heap.size, 0, none⟩) n n) := by
  simp
 have HB0 := Lib.hid hb0
 have HM0 := Lib.hid hm0
 have HC0 := Lib.hid hc0
 clear hb0 hm0 hc0
 go_loopw [7, 12] (fun _ i wr => ∃ (k : Nat) (M : List Bool), i = .int .i64 (k : Int) ∧ k ≤ L ∧ MrkS wr w.heap.size M ∧ SeenM l n k M ∧ wr.cell? ⟨w.heap.size + 1, 0, none⟩ = some (.slice (some ⟨w.heap.size, 0, none⟩) n n) ∧ Below w.heap.size w wr) (fun _ i _ => L - (intOf i).toNat)
 case atStart => exact ⟨0, _, rfl, Nat.zero_le _, HM0.out, SeenM.nil l n, HC0.out, HB0.out⟩
 case round =>
  obtain ⟨k, M, rfl, hk, hM, hS, hc, hb⟩ := hrel
  have hsz := hb.size
  have HMK := Lib.hid hM
  have HS := Lib.hid hS
  have HCC := Lib.hid hc
  by_cases hlt : k < L
  · obtain ⟨b1, o1, rfl, c1⟩ := (HA.out.later hb).at (i := k) (by rw [HL.out]; exact hlt)
    have hxx := getD_some (xs := l) (k := k) (by rw [HL.out]; exact hlt)
    obtain ⟨x, hxe⟩ : ∃ x, l.getD k 0 = x := ⟨_, rfl⟩
    rw [hxe] at c1 hxx
    have HX := Lib.hid hxx
    have hbw := below_any x (n : Int) wr
    have hltI : (k : Int) < (L : Int) := by omega
    clear hxx hxe hS
    by_cases hg : 0 ≤ x ∧ x < n
    · obtain ⟨g0, g1⟩ := hg
      rw [belowB_yes g0 g1] at hbw
      obtain ⟨j, rfl⟩ : ∃ j : Nat, x = (j : Int) := ⟨x.toNat, by omega⟩
      have hj : j < n := by omega
      have hf := hM.free j
      have hcj := hM.cell j (by rw [HS.out.1]; exact hj)
      clear hM
      go_wp2_with (go_at_call 153; refine hbw.mono ?_; rintro e w1 ⟨rfl, rfl⟩)
      go_roundw
      case rel =>
       refine ⟨k + 1, _, by go_num, by omega, HMK.out.set j true, HS.out.mark HX.out hj, ?_, ?_⟩
       · rw [World.cell?_of_block (Below.heap_setCell _ _ _ _ (by show w.heap.size + 1 ≠ w.heap.size; omega))]; exact HCC.out
       · exact hb.setCell (Nat.le_refl _) _
      case measure => simp [intOf]; omega
    · rw [belowB_no (by omega)] at hbw
      clear hM
      go_wp2_with (go_at_call 153; refine hbw.mono ?_; rintro e w1 ⟨rfl, rfl⟩)
      go_roundw
      case rel => exact ⟨k + 1, M, by go_num, by omega, HMK.out, HS.out.skip HX.out (by omega), HCC.out, hb⟩
      case measure => simp [intOf]; omega
  · obtain rfl : k = L := by omega
    have hltI : ¬ (k : Int) < (k : Int) := by omega
    clear hM hS hc
    go_wp2
    go_ret
    refine ⟨_, rfl, ⟨_, HCC.out, fun i hi => ?_⟩, hb⟩
    have h1 := HMK.out.cell i (by rw [HS.out.1]; exact hi)
    have h2 := HS.out.2 i hi
    rw [take_all HL.out] at h2
    rw [h1, h2]
theorem dropC_any {u v : Value} {xs ys : List Int} {a b : Option Addr} {ca cb : Nat} {w : World} (A : ArgS w u xs a ca) (B : ArgS w v ys b cb) (ha : a = none → ca = 0) (hb : b = none → cb = 0) (hx : xs.length ≤ 17592186044416) (hy : ys.length ≤ 17592186044416) :
 Calls Tryz.prog 83 #[u, v] w fun e w' => ∃ r, e = .returned r ∧ ResS w.heap.size w' r (dropS xs ys) ∧ Below w.heap.size w w' := by
 obtain ⟨i0, hi, hz0, hz1, hz2⟩ := info_parts infoS
 have hms := among_any xs.length B hx hy
 have HA := Lib.hid A
 obtain rfl := A.is
 obtain rfl := B.is
 obtain ⟨L, hL⟩ : ∃ L, xs.length = L := ⟨_, rfl⟩
 obtain ⟨T, hT⟩ : ∃ T, ys.length = T := ⟨_, rfl⟩
 obtain ⟨r, hr⟩ : ∃ r, dropS xs ys = r := ⟨_, rfl⟩
 have HL := Lib.hid hL
 have hr2 : dropL xs ys L = r := by rw [← hr]; unfold dropS; rw [hL]
 have HR := Lib.hid hr2
 have hmk : ∀ w : World, (Instr.makeSlice 23 (.int .i64 0) (.int .i64 (L : Int))).run Tryz.prog w = .ok (.slice (some ⟨w.heap.size, 0, none⟩) 0 L) (w.alloc (.cells (madeCells #[.int .i64 0] L) 3)) := make_runH 0 L (Nat.zero_le _) (by omega)
 rw [hL] at hx hms
 rw [hT] at hms
 rw [hL, hT, hr]
 clear A B ha hb hL hT hr hr2 hy
 go_enter Tryz.func83, Tryz.ntmps83
 go_wp2_with (go_at_call 125; refine hms.mono ?_; rintro e w1 ⟨p, rfl, hM1, hb1⟩)
 have hbA : Below w1.heap.size w1 (w1.alloc (.cells (madeCells #[.int .i64 0] L) 3)) := (Below.refl _ w1).alloc (Nat.le_refl _) _
 have hRA : ResS w1.heap.size (w1.alloc (.cells (madeCells #[.int .i64 0] L) 3)) (.slice (some ⟨w1.heap.size, 0, none⟩) 0 L) [] := by
  have h := NumS.ofBlk (BlkS.made w1 L) (Nat.le_refl _) 0 (Nat.zero_le _) (by rw [List.length_replicate]; unfold maxLen; omega)
  rw [List.length_replicate, List.take_zero] at h
  exact ⟨h, Wid.nil⟩
 have HMA := Lib.hid hM1
 have HBA := Lib.hid hbA
 have HRA := Lib.hid hRA
 have hs1 := hb1.size
 clear hM1 hbA hRA hms hmk
 go_loopw [6, 7, 8, 18] (fun s _ _ i wr => ∃ (k : Nat) (zs : List Int), i = .int .i64 (k : Int) ∧ k ≤ L ∧ ResS w1.heap.size wr s zs ∧ zs.length ≤ k ∧ dropL xs ys k = zs ∧ Below w1.heap.size w1 wr) (fun _ _ _ i _ => L - (intOf i).toNat)
 case atStart => exact ⟨0, [], rfl, Nat.zero_le _, HRA.out, Nat.le_refl _, rfl, HBA.out⟩
 case round =>
  obtain ⟨k, zs, rfl, hkL, R, hzl, hz, hb⟩ := hrel
  have hsz := hb.size
  have HZ := Lib.hid hz
  clear hz
  by_cases hlt : k < L
  · have hk := amongL_any (HMA.out.later hb) hlt
    have hltI : (k : Int) < (L : Int) := by omega
    obtain ⟨b1, o1, rfl, hc1⟩ := (HA.out.later (hb1.trans (hb.mono hs1))).at (i := k) (by rw [HL.out]; exact hlt)
    have hwx := HA.out.wf.getD k
    obtain ⟨x, hxe⟩ : ∃ x, xs.getD k 0 = x := ⟨_, rfl⟩
    rw [hxe] at hc1 hwx
    have HW := Lib.hid hwx
    have HRES := Lib.hid R
    have hrow : wr.ownsRow w1.heap.size 3 1 _ zs.length (zs.map (Value.int .i64)) := R.num
    by_cases hm : (k : Int) ∈ ys
    · rw [decide_eq_true hm] at hk
      have hst : dropL xs ys (k + 1) = zs := by simp only [dropL]; rw [if_pos hm, HZ.out, List.append_nil]
      have HST := Lib.hid hst
      clear hm hst hxe hwx R
      go_wp2_with fail
      refine hk.mono ?_
      rintro e w3 ⟨rfl, rfl⟩
      go_wp2
      go_roundw
      case rel => exact ⟨k + 1, zs, by go_num, by omega, HRES.out, by omega, HST.out, hb⟩
      case measure => simp [intOf]; omega
    · rw [decide_eq_false hm] at hk
      have hst : dropL xs ys (k + 1) = zs ++ [x] := by simp only [dropL]; rw [if_neg hm, HZ.out, hxe]
      have HST := Lib.hid hst
      clear hm hst hxe hwx R
      go_wp2_with fail
      refine hk.mono ?_
      rintro e w3 ⟨rfl, rfl⟩
      go_wp2_with (at_builtin; refine wpList_append_own _ rfl _ _ 23 rfl w1.heap.size 3 i0 (.int .i64 0) 1 8 Tryz.underlying23 hi hz0 hz1 hz2 rfl (by decide) _ _ _ rfl (hrow.alloc _) ⟨wr.heap.size, 0, none⟩ 1 1 [.int .i64 x] rfl rfl (cell_one_new _ _ _) (by simp [Value.oneCell']) (by unfold maxLen; omega) (by omega) (by simp; omega) ?_; intro v' w4 hown' hgrow _)
      go_roundw
      case rel =>
       obtain ⟨hn, hbw⟩ := pushS hb hsz HRES.out.num hown' hgrow
       exact ⟨k + 1, zs ++ [x], by go_num, by omega, ⟨hn, HRES.out.wf.append (Wid.one HW.out)⟩, by rw [List.length_append]; simp only [List.length_cons, List.length_nil]; omega, HST.out, hbw⟩
      case measure => simp [intOf]; omega
  · obtain rfl : k = L := by omega
    have hltI : ¬ (k : Int) < (k : Int) := by omega
    have HRES := Lib.hid R
    clear R
    go_wp2
    go_ret
    exact ⟨_, rfl, by rw [← HR.out, HZ.out]; exact HRES.out.mono hs1, hb1.trans (hb.mono hs1)⟩
end
section
open Go.RowKit Go.Shelf
attribute [local go_sem] Oper.semAt_some
def idxStep (s : List Int) (t : List Int × Int) (i : Nat) : List Int × Int := (t.1.set i (t.2 % s.getD i 0), t.2 / s.getD i 0)
def idxOf (s : List Int) (n : Int) (ks : List Nat) : List Int × Int := ks.foldl (idxStep s) (List.replicate s.length 0, n)
theorem idxOf_snoc (s : List Int) (n : Int) (ks : List Nat) (k : Nat) : idxOf s n (ks ++ [k]) = idxStep s (idxOf s n ks) k := by simp [idxOf]
theorem idxOf_len {s : List Int} {n : Int} (ok : OkS s) (h0 : 0 ≤ n) (h1 : n < 1024) (ks : List Nat) (hk : ∀ k ∈ ks, k < s.length) : (idxOf s n ks).1.length = s.length ∧ 0 ≤ (idxOf s n ks).2 ∧ (idxOf s n ks).2 < 1024 := by
 suffices h : ∀ t : List Int × Int, t.1.length = s.length ∧ 0 ≤ t.2 ∧ t.2 < 1024 → (ks.foldl (idxStep s) t).1.length = s.length ∧ 0 ≤ (ks.foldl (idxStep s) t).2 ∧ (ks.foldl (idxStep s) t).2 < 1024 from h _ ⟨by simp, h0, h1⟩
 induction ks with
 | nil => exact fun t h => h
 | cons k ks ih =>
   intro t ⟨h1, h2, h3⟩
   have hd := ok.pos.getD (hk k (List.mem_cons_self ..))
   refine ih (fun j hj => hk j (List.mem_cons_of_mem _ hj)) _ ⟨by simp only [idxStep, List.length_set]; exact h1, ?_, ?_⟩
   · exact Int.ediv_nonneg h2 (by omega)
   · have := Int.ediv_le_self (s.getD k 0) h2
     simp only [idxStep]
     omega
theorem mod_divS {n d p : Int} (h0 : 0 ≤ n) (hd : 1 ≤ d) (hp : 1 ≤ p) : n % (d * p) / p = n / p % d := by
 obtain ⟨N, rfl⟩ : ∃ N : Nat, n = (N : Int) := ⟨n.toNat, by omega⟩
 obtain ⟨D, rfl⟩ : ∃ N : Nat, d = (N : Int) := ⟨d.toNat, by omega⟩
 obtain ⟨P, rfl⟩ : ∃ N : Nat, p = (N : Int) := ⟨p.toNat, by omega⟩
 have := Nat.mod_mul_left_div_self N P D
 rw [← Int.natCast_mul, ← Int.natCast_emod, ← Int.natCast_ediv, ← Int.natCast_ediv, ← Int.natCast_emod]
 rw [show D * P = D * P from rfl]
 exact congrArg Int.ofNat this
theorem idxS_drop {s : List Int} (hp : posS s) {n : Int} (h0 : 0 ≤ n) (j : Nat) : (idxS s n).drop j = idxS (s.drop j) (if j = 0 then n else n % prodS (s.drop j)) := by
 induction j generalizing s n with
 | zero => simp
 | succ j ih =>
   cases s with
   | nil => simp [idxS]
   | cons d ds =>
     simp only [idxS, List.drop_succ_cons]
     have hP := prodS_pos hp.tail
     rw [ih hp.tail (Int.emod_nonneg _ (by omega))]
     rw [if_neg (Nat.succ_ne_zero j)]
     by_cases hj : j = 0
     · subst hj; simp
     · rw [if_neg hj]
       congr 1
       rw [prodS_split ds j, Int.emod_emod_of_dvd _ (Int.dvd_mul_left _ _)]
theorem idxOf_downs {s : List Int} {n : Int} (ok : OkS s) (h0 : 0 ≤ n) (h1 : n < prodS s) {k : Nat} (hk : k ≤ s.length) : idxOf s n (downs s.length k) = (List.replicate (s.length - k) 0 ++ (idxS s n).drop (s.length - k), n / prodS (s.drop (s.length - k))) := by
 induction k with
 | zero =>
   have : (idxS s n).drop s.length = [] := List.drop_of_length_le (by rw [idx_length]; exact Nat.le_refl _)
   simp [idxOf, downs, this, prodS]
 | succ k ih =>
   rw [downs_next, idxOf_snoc, ih (by omega)]
   obtain ⟨j, hj⟩ : ∃ j, s.length - (k + 1) = j := ⟨_, rfl⟩
   have hjl : j < s.length := by omega
   rw [show s.length - k = j + 1 by omega, show s.length - 1 - k = j by omega, hj]
   unfold idxStep
   have e3 := prodS_pos (ok.pos.drop (j + 1))
   have hd := ok.pos.getD hjl
   have e1 := prodS_drop hjl
   refine Prod.ext ?_ ?_
   · show (List.replicate (j + 1) 0 ++ (idxS s n).drop (j + 1)).set j (n / prodS (s.drop (j + 1)) % s.getD j 0) = List.replicate j 0 ++ (idxS s n).drop j
     have hdr := idxS_drop ok.pos h0 j
     have ei : (idxS s n).drop j = (n / prodS (s.drop (j + 1)) % s.getD j 0) :: (idxS s n).drop (j + 1) := by
      have hl : j < (idxS s n).length := by rw [idx_length]; exact hjl
      rw [List.drop_eq_getElem_cons hl]
      congr 1
      have hm : (if j = 0 then n else n % prodS (s.drop j)) = n % prodS (s.drop j) := by
       by_cases hz : j = 0
       · subst hz
         rw [if_pos rfl, List.drop_zero, Int.emod_eq_of_lt h0 h1]
       · rw [if_neg hz]
      rw [hm, List.drop_eq_getElem_cons hl, List.drop_eq_getElem_cons hjl] at hdr
      simp only [idxS, List.cons.injEq] at hdr
      rw [hdr.1, ← mod_divS h0 hd e3]
      congr 2
      rw [getD_elem hjl]
      rfl
     rw [ei, List.replicate_succ', List.append_assoc, List.set_append_right _ _ (by simp), List.length_replicate, Nat.sub_self]
     rfl
   · show n / prodS (s.drop (j + 1)) / s.getD j 0 = n / prodS (s.drop j)
     rw [Int.ediv_ediv_of_nonneg (by omega), e1, Int.mul_comm]
theorem idxOf_all {s : List Int} {n : Int} (ok : OkS s) (h0 : 0 ≤ n) (h1 : n < prodS s) : idxOf s n (downs s.length s.length) = (idxS s n, n / prodS s) := by
 rw [idxOf_downs ok h0 h1 (Nat.le_refl _), Nat.sub_self]
 simp
theorem indexS_any {u : Value} {s : List Int} {a : Option Addr} {ca : Nat} {w : World} (n : Int) (A : ArgS w u s a ca) (ha : a = none → ca = 0) (hx : s.length ≤ 17592186044416) (h0 : -9223372036854775808 ≤ n) (h1 : n ≤ 9223372036854775807) :
 Calls Tryz.prog 128 #[u, .int .i64 n] w fun e w' => ∃ r, e = .returned (.tuple #[r, .int .i64 (idxC s n)]) ∧ ResS w.heap.size w' r (idxV s n) ∧ Below w.heap.size w w' := by
 have hb0 : Below w.heap.size w (w.alloc (.cells #[.int .i64 n] 3)) := (Below.refl _ w).alloc (Nat.le_refl _) _
 have A0 := A.later hb0
 have hc := cnt_any A0
 have hAl := A0.lim
 have hAw := A.lim
 have hle := A.le
 have HA := Lib.hid A
 obtain rfl := A.is
 have hbox := Boxed.new w 3 (.int .i64 n)
 have hboxc := hbox.cell
 have hq := below_any n (countS s) (w.alloc (.cells #[.int .i64 n] 3))
 obtain ⟨nn, hnn⟩ : ∃ nn : Nat, Hid (3 ≤ nn) := ⟨3, Nat.le_refl 3⟩
 by_cases hm : mayC s = 0
 · have ok := mayC_zero.1 hm
   have HO := Lib.hid ok
   have h4 := ok.rank
   have hfew := ok.few
   rw [hm, ok.count] at hc
   rw [ok.count] at hq
   by_cases hin : 0 ≤ n ∧ n < prodS s
   · obtain ⟨n0, n1⟩ := hin
     have hic := idxC_in hm n0 n1
     rw [hic, idxV_in hic]
     rw [belowB_yes n0 n1] at hq
     have N0 := Lib.hid n0
     have N1 := Lib.hid n1
     have hmk := make_runS s.length (by omega)
     obtain ⟨P, hP⟩ : ∃ P, prodS s = P := ⟨_, rfl⟩
     rw [hP] at hc hq
     have HP := Lib.hid hP
     clear A A0 ha hm ok hic hP n1 hfew
     refine (callsIn_wide (n := nn)).1 ?_
     refine callsIn_of_wp_marks Tryz.func128 rfl trivial ?_ rfl
     simp only [Tryz.ntmps128, List.size_toArray, List.length_cons, List.length_nil, Nat.reduceAdd, Nat.reduceSub, Array.replicate_succ, Array.replicate_zero, List.push_toArray, List.append_toArray, List.nil_append, List.cons_append]
     gi_wp2_with fail
     refine wideCallS (hc.mono ?_)
     rintro e w' ⟨rfl, rfl⟩
     gi_wp2_with fail
     refine wideCallS (hq.mono ?_)
     rintro e w' ⟨rfl, rfl⟩
     gi_wp2_with fail
     have k0 := ((Boxed.new w 3 (.int .i64 n)).alloc (.cells (madeCells #[.int .i64 0] s.length) 3)).alloc (.cells #[.slice (some ⟨w.heap.size + 1, 0, none⟩) s.length s.length] 22)
     have k1 := ((BlkS.made (w.alloc (.cells #[.int .i64 n] 3)) s.length).alloc (.cells #[.slice (some ⟨w.heap.size + 1, 0, none⟩) s.length s.length] 22))
     have k2 := Boxed.new ((w.alloc (.cells #[.int .i64 n] 3)).alloc (.cells (madeCells #[.int .i64 0] s.length) 3)) 22 (.slice (some ⟨w.heap.size + 1, 0, none⟩) s.length s.length)
     have k4 : Below w.heap.size w (((w.alloc (.cells #[.int .i64 n] 3)).alloc (.cells (madeCells #[.int .i64 0] s.length) 3)).alloc (.cells #[.slice (some ⟨w.heap.size + 1, 0, none⟩) s.length s.length] 22)) :=
      (((Below.refl _ w).alloc (Nat.le_refl _) _).alloc (by simp) _).alloc (by simp; omega) _
     have k5 : (((w.alloc (.cells #[.int .i64 n] 3)).alloc (.cells (madeCells #[.int .i64 0] s.length) 3)).alloc (.cells #[.slice (some ⟨w.heap.size + 1, 0, none⟩) s.length s.length] 22)).heap.size = w.heap.size + 1 + 1 + 1 := by simp
     simp only [World.size_alloc] at k1 k2
     generalize (((w.alloc (.cells #[.int .i64 n] 3)).alloc (.cells (madeCells #[.int .i64 0] s.length) 3)).alloc (.cells #[.slice (some ⟨w.heap.size + 1, 0, none⟩) s.length s.length] 22)) = V at *
     refine wideCallS ((backI_any _ _ _ _).mono ?_)
     rintro e w' ⟨rfl, rfl⟩
     gi_wp2_with fail
     have bN := Boxed.new V 23 (.slice a s.length ca)
     have j0 := k0.alloc (.cells #[.slice a s.length ca] 23)
     have j1 := k1.alloc (.cells #[.slice a s.length ca] 23)
     have j2 := k2.alloc (.cells #[.slice a s.length ca] 23)
     have j4 := k4.alloc (by omega) (.cells #[.slice a s.length ca] 23)
     have j5 : (V.alloc (.cells #[.slice a s.length ca] 23)).heap.size = w.heap.size + 1 + 1 + 1 + 1 := by simp; omega
     rw [k5] at bN
     (try rw [k5])
     generalize (V.alloc (.cells #[.slice a s.length ca] 23)) = W5 at *
     clear k0 k1 k2 k4 k5 hmk hbox hboxc hb0 hAl hc hq
     have h3 : 3 ≤ nn := hnn
     have hlt0 : ∀ x, s ≠ [] → a = some x → x.block < w.heap.size := fun x h1 h2 => hAw.lt h1 x h2
     refine wpIn_rangeFunc_ownF rfl (by omega) (gf := 174) (lb := #[.pointer (some ⟨w.heap.size + 1 + 1 + 1, 0, none⟩)]) rfl trivial (enters_of Tryz.func174 (by kernel_rfl) rfl)
      (backI_stops (nn - 1) (w.heap.size + 1 + 1 + 1) w.heap.size a s ca (by omega) (fun h x hx => hlt0 x h hx) _ (by omega) bN.cell (hAw.later j4)) KpS.trans (KpS.b (by omega) (by omega)) (Below.refl _ _) (fun _ => rfl)
      (fun (pre : List (Fin s.length)) X => ((BlkS X (w.heap.size + 1) (idxOf s n (pre.map Fin.val)).1 ∧ Boxed X (w.heap.size + 1 + 1) 22 (.slice (some ⟨w.heap.size + 1, 0, none⟩) s.length s.length)) ∧ Boxed X w.heap.size 3 (.int .i64 (idxOf s n (pre.map Fin.val)).2)) ∧ Below w.heap.size w X)
      (fun _ _ _ => False)
      (OwnFrom.and (Own.from (ownS_and2 (ownS_and2 (blkS_own _ _) (boxed_own _ _ _)) (boxed_own _ _ _)) _) (ownFrom_below (Nat.le_refl _) (by omega)))
      (fun _ _ _ _ _ hs _ _ => hs)
      ⟨⟨⟨j1, j2⟩, j0⟩, j4⟩
      (fun (x : Fin s.length) => { tmps := #[.slice a s.length ca, .int .i64 n, undef, .pointer (some ⟨w.heap.size, 0, none⟩), .slice none 0 0, .int .i64 0, .int .i64 P, .int .i64 0, .pointer (some ⟨w.heap.size + 1 + 1, 0, none⟩), .int .i64 (x.val : Int), .int .i64 (s[x.val]?.getD 0),
        .tuple #[.int .i64 P, .int .i64 0], .slice a s.length ca, .tuple #[.int .i64 P, .int .i64 0], .int .i64 P, .int .i64 0, .int .i64 0, .bool false, undef, .int .i64 n, .int .i64 P, .bool true, .bool false, .slice a s.length ca, .int .i64 s.length,
        .slice (some ⟨w.heap.size + 1, 0, none⟩) s.length s.length, .slice a s.length ca,
        .func (.func 174) #[] #[.pointer (some ⟨w.heap.size + 1 + 1 + 1, 0, none⟩)], .int .i64 (x.val : Int), .int .i64 (s[x.val]?.getD 0), undef, undef, undef, undef, undef, undef, undef, undef, undef, undef], defers := [] }) ?assign ?body ?done ?stop
     case assign =>
      intro l x X K hK
      simp only [numAt]
      rw [show s[x.val]?.getD 0 = s[x.val] by simp] at hK
      gi_wp2
      exact hK
     case body =>
      rintro l pre ⟨k, hk⟩ X ⟨⟨⟨hblk, q1⟩, q2⟩, hB⟩ hlt
      obtain ⟨hl, hc0, hc1⟩ := idxOf_len HO.out N0.out (by have := N1.out; have := HO.out.few; omega) (pre.map Fin.val) (by intro j hj; rw [List.mem_map] at hj; obtain ⟨y, _, rfl⟩ := hj; exact y.isLt)
      obtain ⟨st, hst⟩ : ∃ st, idxOf s n (pre.map Fin.val) = st := ⟨_, rfl⟩
      rw [hst] at hblk q2 hl hc0 hc1
      have HS := Lib.hid hst
      obtain ⟨zs, c⟩ := st
      simp only at hblk q2 hl hc0 hc1
      have c1 := q1.cell
      have c2 := q2.cell
      have hd1 := HO.out.pos.getD hk
      have hd2 := getD_le_prod HO.out.pos hk
      have hd3 := HO.out.few
      obtain ⟨d, hdk⟩ : ∃ d, s.getD k 0 = d := ⟨_, rfl⟩
      have hdk2 : s[k]?.getD 0 = d := hdk
      rw [hdk] at hd1 hd2
      have hd4 : d ≤ 1024 := by omega
      simp only [hdk2]
      have HX := Lib.hid hdk
      have hb2 : BlkS X.drew (w.heap.size + 1) zs := hblk
      have hck := hb2.cell k (by omega)
      have hfk := hb2.free k
      have hdz : ¬ d = 0 := by omega
      have ht : Int.tmod c d = c % d := Int.tmod_eq_emod_of_nonneg hc0
      have htd : Int.tdiv c d = c / d := Int.tdiv_eq_ediv_of_nonneg hc0
      have m0 := Int.emod_nonneg c (show d ≠ 0 by omega)
      have m1 := Int.emod_lt_of_pos c (show 0 < d by omega)
      have e0 := Int.ediv_nonneg hc0 (show 0 ≤ d by omega)
      have e1 := Int.ediv_le_self d hc0
      have q1d : Boxed X.drew (w.heap.size + 1 + 1) 22 (.slice (some ⟨w.heap.size + 1, 0, none⟩) s.length s.length) := q1
      have q2d : Boxed X.drew w.heap.size 3 (.int .i64 c) := q2
      have s2 : Boxed (X.setCell ⟨w.heap.size + 1, k, none⟩ (.int .i64 (c % d))).drew w.heap.size 3 (.int .i64 c) := boxS_far q2 (p := ⟨w.heap.size + 1, k, none⟩) (by show w.heap.size ≠ w.heap.size + 1; omega) (.int .i64 (c % d))
      have s1 : Boxed (X.setCell ⟨w.heap.size + 1, k, none⟩ (.int .i64 (c % d))).drew (w.heap.size + 1 + 1) 22 (.slice (some ⟨w.heap.size + 1, 0, none⟩) s.length s.length) := boxS_far q1 (p := ⟨w.heap.size + 1, k, none⟩) (by show w.heap.size + 1 + 1 ≠ w.heap.size + 1; omega) (.int .i64 (c % d))
      have hb3 : BlkS (X.setCell ⟨w.heap.size + 1, k, none⟩ (.int .i64 (c % d))).drew (w.heap.size + 1) (zs.set k (c % d)) := hblk.set k (c % d)
      have d2 := s2.cell
      have f2 := s2.frozen
      have HB3 := Lib.hid hb3
      have HBK := Lib.hid hb2
      have HL := Lib.hid hl
      clear hst hdk hdk2 hblk hl hd2 hd3 hb3
      gi_wp2_with fail
      refine region_round (fun X' => X'.cell? ⟨w.heap.size + 1 + 1, 0, none⟩ = some (.slice (some ⟨w.heap.size + 1, 0, none⟩) s.length s.length) ∧ X'.cell? ⟨w.heap.size, 0, none⟩ = some (.int .i64 c))
       (by kernel_rfl) (by kernel_rfl) (by rintro ⟨a', w', h⟩; exact h) ⟨c1, c2⟩ (fun hHeld => ?_)
      refine todo [0, 1, 2, 3, 4, 5] ?_
      iterate 6
       refine todoH (v := ?_) rfl (by kernel_rfl) (fun _ _ _ h => h) (by assumption) (Or.inl ⟨by rfl, ?_⟩) ?_
       rotate_left
       · intro w hSw; (try dsimp only at hSw); go_simp; (try with_reducible rfl)
       try simp only [Act.put, nA, nB, nC, nD, nE, nF]
      refine todone ?_
      refine wpAnyH_ready (rs := [6]) (by kernel_rfl) (by simp) ?_
      refine AllReadyH.cons rfl (fun K hK => ?sb6) AllReadyH.nil
      go_simp
      refine hK.out _ _ ?kb6 (fun hHeld => ?mb6)
      case kb6 =>
       try dsimp only
       exact ⟨(World.cell?_setCell_far _ _ _ _ (by simp <;> omega)).trans hHeld.1, (World.cell?_setCell_far _ _ _ _ (by simp <;> omega)).trans hHeld.2⟩
      clear hK K
      try simp only [Act.put, nD, nE, nF]
      refine wpAnyH_done (by kernel_rfl) ?_ _
      gi_wp2_with fail
      have hko : KeepsOthers X (X.setCell ⟨w.heap.size + 1, k, none⟩ (.int .i64 (c % d))).drew := (KeepsOthers.setCell _ _ _).trans (KeepsOthers.drew _)
      have hbo : Below w.heap.size X (X.setCell ⟨w.heap.size + 1, k, none⟩ (.int .i64 (c % d))).drew := ((Below.refl _ X).setCell (p := ⟨w.heap.size + 1, k, none⟩) (Nat.le_succ _) _).drew
      have hbx : (X.setCell ⟨w.heap.size + 1, k, none⟩ (.int .i64 (c % d))).drew.heap[w.heap.size + 1 + 1 + 1]? = X.heap[w.heap.size + 1 + 1 + 1]? := Below.heap_setCell _ _ _ _ (by show w.heap.size + 1 + 1 + 1 ≠ w.heap.size + 1; omega)
      refine ⟨hko.trans (KeepsOthers.setCell _ _ _), ⟨hbo.setCell (p := ⟨w.heap.size, 0, none⟩) (Nat.le_refl _) _, ?_⟩, ?_, (hB.trans hbo).setCell (p := ⟨w.heap.size, 0, none⟩) (Nat.le_refl _) _⟩
      · have e2 : ((X.setCell ⟨w.heap.size + 1, k, none⟩ (.int .i64 (c % d))).setCell ⟨w.heap.size, 0, none⟩ (.int .i64 (c / d))).heap[w.heap.size + 1 + 1 + 1]? = (X.setCell ⟨w.heap.size + 1, k, none⟩ (.int .i64 (c % d))).heap[w.heap.size + 1 + 1 + 1]? := Below.heap_setCell _ _ _ _ (by show w.heap.size + 1 + 1 + 1 ≠ w.heap.size; omega)
        exact e2.trans hbx
      · rw [List.map_append, List.map_cons, List.map_nil, idxOf_snoc, HS.out]
        simp only [idxStep, HX.out]
        exact ⟨⟨HB3.out.far (by show w.heap.size + 1 ≠ w.heap.size; omega) _, boxS_far s1 (by show w.heap.size + 1 + 1 ≠ w.heap.size; omega) _⟩, s2.set _⟩
     case done =>
      rintro D ks X hD hdn ⟨⟨⟨hblk, q1⟩, q2⟩, hB⟩ hK
      rw [hdn.downs, idxOf_all HO.out N0.out N1.out] at hblk q2
      have c1 := q1.cell
      gi_wp2_with fail
      refine ⟨by simp, .inl ⟨_, _, rfl, run_takeDeferred hK, ?_⟩⟩
      have hn := NumS.ofBlk hblk (Nat.le_succ w.heap.size) s.length (by rw [idx_length]; exact Nat.le_refl _) (by rw [idx_length]; unfold maxLen; omega)
      rw [idx_length, take_all (idx_length s n)] at hn
      refine ⟨_, results_tmp2 rfl _ _ _, _, rfl, ⟨?_, ?_⟩, hB.trans (belowK_b (w := w) (Nat.le_refl _) X D _ _ (by omega) hK rfl rfl)⟩
      · exact ownsRow_putObj hn (.deferred none) hK rfl
      · exact inS_wid (place_idx HO.out.pos N0.out N1.out).1 HA.out.wf
     case stop =>
      rintro D c pre X _ _ h _
      exact h.elim
   · have hic := idxC_out hm (n := n) (by rw [ok.count]; omega)
     rw [hic, idxV_bad (by rw [hic]; decide)]
     rw [belowB_no (by omega)] at hq
     obtain ⟨P, hP⟩ : ∃ P, prodS s = P := ⟨_, rfl⟩
     rw [hP] at hc hq
     clear A A0 ha hm ok hic hP hin hfew HO
     refine (callsIn_wide (n := nn)).1 ?_
     refine callsIn_of_wp_marks Tryz.func128 rfl trivial ?_ rfl
     simp only [Tryz.ntmps128, List.size_toArray, List.length_cons, List.length_nil, Nat.reduceAdd, Nat.reduceSub, Array.replicate_succ, Array.replicate_zero, List.push_toArray, List.append_toArray, List.nil_append, List.cons_append]
     gi_wp2_with fail
     refine wideCallS (hc.mono ?_)
     rintro e w' ⟨rfl, rfl⟩
     gi_wp2_with fail
     refine wideCallS (hq.mono ?_)
     rintro e w' ⟨rfl, rfl⟩
     gi_wp2_with fail
     exact ⟨_, results_tmp2 rfl _ _ _, _, rfl, ResS.nil _ _, hb0⟩
 · have hic := idxC_may (s := s) (n := n) hm
   rw [hic, idxV_bad (by rw [hic]; exact hm)]
   obtain ⟨m, hmm⟩ : ∃ m, mayC s = m := ⟨_, rfl⟩
   obtain ⟨P, hP⟩ : ∃ P, countS s = P := ⟨_, rfl⟩
   rw [hmm, hP] at hc
   rw [hmm]
   rw [hmm] at hm
   have hne : (m != 0) = true := by simpa using hm
   clear A A0 ha hic hq hmm hm hP
   refine (callsIn_wide (n := nn)).1 ?_
   refine callsIn_of_wp_marks Tryz.func128 rfl trivial ?_ rfl
   simp only [Tryz.ntmps128, List.size_toArray, List.length_cons, List.length_nil, Nat.reduceAdd, Nat.reduceSub, Array.replicate_succ, Array.replicate_zero, List.push_toArray, List.append_toArray, List.nil_append, List.cons_append]
   gi_wp2_with fail
   refine wideCallS (hc.mono ?_)
   rintro e w' ⟨rfl, rfl⟩
   gi_wp2_with fail
   exact ⟨_, results_tmp2 rfl _ _ _, _, rfl, ResS.nil _ _, hb0⟩
end
section
open Go.RowKit
theorem append_types {P : Program} {t t' e e' : TypeId} (ht : P.underlying t = some (.slice e)) (ht' : P.underlying t' = some (.slice e')) (ty : TypeId) (v x : Value) (w : World) :
 (Builtin.append_ #[t, t'] ty #[v, x]).run P w = (Builtin.append_ #[t, t] ty #[v, x]).run P w := by
 unfold Builtin.append_
 cases v <;> simp [run_underlying ht, run_underlying ht']
theorem step_copyT {ops : Array Oper} {rest : List Oper} {o : Oper} {a : Act} {w : World} {Q : Exit → Act → World → Prop} (hg : o.guard = none) (t : Nat) (T T' : TypeId) (hT : Tryz.prog.underlying T = some (.slice 3)) (hT' : Tryz.prog.underlying T' = some (.slice 3))
 (hop : o.op = Op.call { callee := Callee.builtin Builtin.append, args := #[Operand.const (.slice none 0 0), Operand.tmp t], argTypes := #[T, T'] }) {xs : List Int} {ad : Option Addr} {cap : Nat} {u : Value} (hx : a.eval (.tmp t) = u)
 (hA : ArgS w u xs ad cap) (hn : ad = none → cap = 0) (hl : xs.length ≤ 17592186044416)
 (h : ∀ v' w1, ResS w.heap.size w1 v' xs → Below w.heap.size w w1 → wpList Tryz.prog ops Q rest (a.put o.dst v') w1) : wpList Tryz.prog ops Q (o :: rest) a w := by
 obtain ⟨i0, hi, hz0, hz1, hz2⟩ := info_parts infoS
 have hnil := World.ownsRow_nil w w.heap.size 3 1
 have hs : a.eval (.const (.slice none 0 0)) = .slice none 0 0 := rfl
 obtain ⟨rfl, lx, hle, wx⟩ := hA
 cases ad with
 | none =>
   have hc := hn rfl
   subst hc
   have hxs : xs = [] := List.eq_nil_of_length_eq_zero (by omega)
   subst hxs
   refine wpList_plain hg fun K hK => ?_
   have hrun := (append_types hT hT' o.type (.slice none 0 0) (.slice none 0 0) w).trans (run_append_owned_none (P := Tryz.prog) w w.heap.size T o.type 3 i0 1 hT hi (.slice none 0 0) 0 [] hnil)
   unfold Oper.wp
   simp [execOp, hop, resolve, invoke, builtin, hs, hx, hrun, Result.andThen]
   exact hK _ _ (h _ _ ⟨hnil, wx⟩ (Below.refl _ _))
 | some ad =>
   refine wpList_plain hg fun K hK => ?_
   obtain ⟨v', w', hr, hown, hgrow, _⟩ := run_append_own (P := Tryz.prog) w w.heap.size T o.type 3 i0 (.int .i64 0) 1 8 hT hi hz0 hz1 hz2 rfl (by decide) (.slice none 0 0) 0 [] hnil ad xs.length cap (xs.map (Value.int .i64)) (by simp) (cells_argS (cap := cap) lx) (ints_oneCell _ _) (by unfold maxLen; omega) (by omega) (Nat.le_refl _)
   have hr2 := (append_types hT hT' o.type (.slice none 0 0) (.slice (some ad) xs.length cap) w).trans hr
   unfold Oper.wp
   simp [execOp, hop, resolve, invoke, builtin, hs, hx, hr2, Result.andThen]
   refine hK _ _ (h v' w' ⟨?_, wx⟩ ((Below.refl _ w).grown hgrow (Nat.le_refl _) (fun k hk => by cases hk)))
   unfold NumS
   simpa using hown
structure TensQ (w : World) (v : Value) (s : List Int) (qs : List Q3) (a : Option Addr) (ca : Nat) (b : Option Addr) (cb : Nat) : Prop where
 is : v = .agg #[.slice a s.length ca, .slice b qs.length cb]
 sh : ArgS w (.slice a s.length ca) s a ca
 nila : a = none → ca = 0
 el : RowA RawQ w (.slice b qs.length cb) qs b cb
 nilb : b = none → cb = 0
theorem TensQ.later {w w' : World} {v : Value} {s : List Int} {qs : List Q3} {a b : Option Addr} {ca cb : Nat} (h : TensQ w v s qs a ca b cb) (hb : Below w.heap.size w w') : TensQ w' v s qs a ca b cb :=
 ⟨h.is, h.sh.later hb, h.nila, h.el.later hb (fun v x _ k => k.later hb), h.nilb⟩
structure TensR (w : World) (v : Value) (s : List Int) (L : List Rat) (m : Nat) (a : Option Addr) (ca : Nat) (b : Option Addr) (cb : Nat) : Prop where
 is : v = .agg #[.slice a s.length ca, .slice b L.length cb]
 sh : ArgS w (.slice a s.length ca) s a ca
 nila : a = none → ca = 0
 el : RowA (fun w v x => ArgR w v x m) w (.slice b L.length cb) L b cb
 nilb : b = none → cb = 0
theorem TensR.later {w w' : World} {v : Value} {s : List Int} {L : List Rat} {m : Nat} {a b : Option Addr} {ca cb : Nat} (h : TensR w v s L m a ca b cb) (hb : Below w.heap.size w w') : TensR w' v s L m a ca b cb :=
 ⟨h.is, h.sh.later hb, h.nila, h.el.later hb (fun v x _ k => k.later hb), h.nilb⟩
theorem infoR : (Tryz.prog.info? 58).map (fun i => (i.zero, i.size, i.bytes)) = some (some (.agg #[.bool false, .slice none 0 0, .slice none 0 0]), 3, 56) := by kernel_rfl
theorem infoQ : (Tryz.prog.info? 54).map (fun i => (i.zero, i.size, i.bytes)) = some (some (.agg #[.bool false, .slice none 0 0, .slice none 0 0]), 3, 56) := by kernel_rfl
theorem OwnE.hits {base : Nat} {T : TypeId} {w : World} {v : Value} {es : List E3} (h : OwnE base T w v es) (hb : base ≤ w.heap.size) : ∃ r, (v.ownBlock = none ∨ v.ownBlock = some r) ∧ base ≤ r ∧ ∀ g t cs, Row w g t cs → t ≠ T → g ≠ r := by
 have hlt := h.lt
 cases e : v.ownBlock with
 | none => exact ⟨w.heap.size, .inl rfl, hb, fun g t cs R _ => by have := R.lt; omega⟩
 | some r =>
   refine ⟨r, .inr rfl, (hlt r e).1, fun g t cs R ht he => ?_⟩
   subst he
   obtain ⟨cur, hc⟩ := h.typed e
   have := hc.symm.trans R
   simp only [Option.some.injEq, Obj.cells.injEq] at this
   exact ht this.2.1.symm
theorem Kept.grown {r : Nat} {a w w' : World} {v : Value} (h : Kept r a w) (hg : w.grownBy w' v.ownBlock) (hv : v.ownBlock = none ∨ v.ownBlock = some r) : Kept r a w' := by
 refine ⟨hg.os.trans h.os, hg.tape.trans h.tape, hg.output.trans h.output, Nat.le_trans h.size hg.size, fun k hk hr => ?_⟩
 rw [hg.block k (Nat.lt_of_lt_of_le hk h.size) (by rcases hv with e | e <;> rw [e] <;> simp <;> omega)]
 exact h.block k hk hr
theorem Kept.cell {r : Nat} {w w' : World} (h : Kept r w w') {p : Addr} {u : Value} (hc : w.cell? p = some u) (hp : p.block ≠ r) : w'.cell? p = some u :=
 (World.cell?_of_block (h.block p.block (World.block_lt_of_cell? w p hc) hp)).trans hc
theorem ResS.far {base : Nat} {w w' : World} {u : Value} {zs : List Int} {g : Nat} {t : TypeId} {cs : Array Value} (h : ResS base w u zs) (R : Row w g t cs) (ht : t ≠ 3) (hk : ∀ k, k ≠ g → w'.heap[k]? = w.heap[k]?) : ResS base w' u zs := by
 refine ⟨?_, h.wf⟩
 obtain ⟨h1, h2⟩ := h.num
 refine ⟨h1, ?_⟩
 rcases h2 with h2 | ⟨k, cap, cur, rfl, hg0, hg', hc, hm, hs, ht'⟩
 · exact .inl h2
 · refine .inr ⟨k, cap, cur, rfl, hg0, (hk k ?_).trans hg', hc, hm, hs, ht'⟩
   rintro rfl
   have e := hg'.symm.trans R
   injection e with e
   injection e with _ e
   exact ht e.symm
theorem ResS.apart {base base' : Nat} {T : TypeId} {w w' : World} {v u : Value} {es : List E3} {zs : List Int} {o : Obj} (h : OwnE base T w v es) (hg : (w.alloc o).grownBy w' v.ownBlock) (hT : T ≠ 3) (k : ResS base' w u zs) : ResS base' w' u zs := ⟨apartE h hg hT k.num, k.wf⟩
theorem RowO.far {α : Type} {base : Nat} {T : TypeId} {P : World → Value → α → Prop} {w w' : World} {u : Value} {L : List α} {g : Nat} {t : TypeId} {cs : Array Value} (h : RowO base T P w u L) (R : Row w g t cs) (ht : t ≠ T) (hk : ∀ k, k ≠ g → w'.heap[k]? = w.heap[k]?) (hP : ∀ v x, P w v x → P w' v x) : RowO base T P w' u L := by
 obtain ⟨es, h1, h2⟩ := h
 refine ⟨es, h1.same fun k e => hk k fun e2 => ?_, h2.imp fun v x _ => hP v x⟩
 subst e2
 obtain ⟨cur, hc⟩ := h1.typed e
 have := hc.symm.trans R
 simp only [Option.some.injEq, Obj.cells.injEq] at this
 exact ht this.2.1.symm
theorem kept1 {g i : Nat} {w : World} (x : Value) : ∀ k, k ≠ g → (w.setCell ⟨g, i, none⟩ x).heap[k]? = w.heap[k]? := fun k hk => Below.heap_setCell _ _ _ _ hk
theorem Row.set21 {w : World} {g : Nat} {t : TypeId} {a b : Value} (h : Row w g t #[a, b]) (x : Value) : Row (w.setCell ⟨g, 1, none⟩ x) g t #[a, x] := h.set 1 x
theorem take_mapQ {qs : List Q3} {k : Nat} {q : Q3} (h : qs[k]? = some q) : (qs.take (k + 1)).map Q3.rat = (qs.take k).map Q3.rat ++ [q.rat] := by
 rw [List.take_add_one, h, Option.toList_some, List.map_append]; rfl
theorem take_nextL {α : Type} {qs : List α} {k : Nat} {q : α} (h : qs[k]? = some q) : qs.take (k + 1) = qs.take k ++ [q] := by rw [List.take_add_one, h]; rfl
theorem ResR.shape {base : Nat} {w : World} {v : Value} {x : Rat} {n : Nat} (h : ResR base w v x n) : ∃ m a1 n1 c1 a2 n2 c2, v = .agg #[.bool m, .slice a1 n1 c1, .slice a2 n2 c2] := by
 obtain ⟨_, _, _, _, _, _, rfl, _⟩ := h
 exact ⟨_, _, _, _, _, _, _, rfl⟩
theorem ResQ.shape {base : Nat} {w : World} {v : Value} {x : Rat} {n : Nat} (h : ResQ base w v x n) : ∃ m a1 n1 c1 a2 n2 c2, v = .agg #[.bool m, .slice a1 n1 c1, .slice a2 n2 c2] := by
 obtain ⟨_, _, _, _, _, _, rfl, _⟩ := h
 exact ⟨_, _, _, _, _, _, _, rfl⟩
theorem RawO.shape {base : Nat} {w : World} {v : Value} {q : Q3} (h : RawO base w v q) : ∃ m a1 n1 c1 a2 n2 c2, v = .agg #[.bool m, .slice a1 n1 c1, .slice a2 n2 c2] := by
 obtain ⟨_, _, _, _, rfl, _⟩ := h
 exact ⟨_, _, _, _, _, _, _, rfl⟩
theorem RowA.low {α : Type} {P : World → Value → α → Prop} {w : World} {u : Value} {L : List α} {ad : Option Addr} {cap : Nat} (h : RowA P w u L ad cap) {b o : Nat} (hn : L ≠ []) (e : ad = some ⟨b, o, none⟩) : b < w.heap.size := by
 rcases h.els with hh | ⟨b', o', es', e', c', k'⟩
 · exact absurd hh hn
 · obtain ⟨d, _, h1, _, _⟩ := k'.at (i := 0) (by rcases Nat.eq_zero_or_pos L.length with g | g
                                                 · exact absurd (List.eq_nil_of_length_eq_zero g) hn
                                                 · exact g)
   have h3 := World.block_lt_of_cell? w _ (c' 0 d h1).1
   rw [e] at e'
   simp only [Option.some.injEq, Addr.mk.injEq] at e'
   rw [e'.1]
   exact h3
theorem ownT_slice {base sz n : Nat} {T : TypeId} {w : World} {v : Value} {xs : List Value} (h : w.ownsRow base T sz v n xs) : ∃ a c, v = .slice a n c := by
 obtain ⟨_, h2⟩ := h
 rcases h2 with ⟨rfl, rfl⟩ | ⟨g, cap, cur, rfl, _⟩
 · exact ⟨_, _, rfl⟩
 · exact ⟨_, _, rfl⟩
end
section
open Go.RowKit Go.Shelf
attribute [local go_sem] Oper.semAt_some
theorem region_roundL {l n id : Nat} {P : Program} {ops : Array Oper} {Q : Exit → Act → World → Prop} {a : Act} {w : World} (S : World → Prop) (z : Nat) (hm : P.follows .mixedOrders = true) (hnd : noDefer ops = true) (hLO : ¬ LetsOut Q)
 (hS : S w.drew) (h : S w.drew → wpAnyL P .any ops Q S z ops.size (Array.replicate ops.size false) a w.drew) : (Code.region id ops true).wpIn (Fence.wide.inRound l) n P Q a w :=
 wpIn_region_any hm (wpAnyIn_of_round hnd hLO _ _ _ _ (wpAny_of_L _ _ _ _ (h hS)))
def KeepC (W W' : World) : Prop := ∀ (k : Nat) (cur : Array Value) (t : TypeId) (fr : Nat × Nat), W.heap[k]? = some (Obj.cells cur t fr) → W'.heap[k]? = W.heap[k]?
theorem KeepC.below {W W' : World} (h : Below W.heap.size W W') : KeepC W W' := fun k _ _ _ e => h.block k (lt_of_block e)
theorem KeepC.grown {W W' : World} {row : Option Nat} (hg : W.grownBy W' row) (hr : ∀ r, row = some r → ∃ o : Obj, W.heap[r]? = some o ∧ o.isCells = false) : KeepC W W' := fun k cur t fr e =>
 hg.block k (lt_of_block e) fun e2 => by
  obtain ⟨o, ho, hc⟩ := hr k e2.symm
  rw [e] at ho
  cases ho
  cases hc
theorem keepC_row {W W' : World} {base size n : Nat} {T : TypeId} {v : Value} {xs : List Value} (k : KeepC W W') (h : W.ownsRow base T size v n xs) : W'.ownsRow base T size v n xs := by
 obtain ⟨h1, h2⟩ := h
 refine ⟨h1, ?_⟩
 rcases h2 with h2 | ⟨g, cap, cur, rfl, hg0, hh, hrest⟩
 · exact .inl h2
 · exact .inr ⟨g, cap, cur, rfl, hg0, (k _ _ _ _ hh).trans hh, hrest⟩
theorem Boxed.keepC {W W' : World} {B : Nat} {t : TypeId} {v : Value} (h : Boxed W B t v) (k : KeepC W W') : Boxed W' B t v := (k _ _ _ _ h).trans h
theorem Row.keepC {W W' : World} {B : Nat} {t : TypeId} {cs : Array Value} (h : Row W B t cs) (k : KeepC W W') : Row W' B t cs := (k _ _ _ _ h).trans h
theorem OwnE.keepC {W W' : World} {base : Nat} {T : TypeId} {v : Value} {es : List E3} (h : OwnE base T W v es) (k : KeepC W W') : OwnE base T W' v es := keepC_row k h
theorem Num.keepC {W W' : World} {base : Nat} {v : Value} {xs : List Int} (h : Num base W v xs) (k : KeepC W W') : Num base W' v xs := keepC_row k h
theorem Res.keepC {W W' : World} {base : Nat} {v : Value} {xs : List Int} {m : Int} (h : Res base W v xs m) (k : KeepC W W') : Res base W' v xs m := ⟨h.num.keepC k, h.wf, h.full, h.eq⟩
theorem ResQ.keepC {W W' : World} {base n : Nat} {v : Value} {x : Rat} (h : ResQ base W v x n) (k : KeepC W W') : ResQ base W' v x n := by
 obtain ⟨zs, ys, ad, bd, ca, cb, rfl, A, B, h⟩ := h
 exact ⟨zs, ys, ad, bd, ca, cb, rfl, A.keepC k, B.keepC k, h⟩
theorem RawO.keepC {W W' : World} {base : Nat} {v : Value} {q : Q3} (h : RawO base W v q) (k : KeepC W W') : RawO base W' v q := by
 obtain ⟨ad, bd, ca, cb, rfl, A, B, h⟩ := h
 exact ⟨ad, bd, ca, cb, rfl, A.keepC k, B.keepC k, h⟩
theorem ownV_hits {base size n : Nat} {T : TypeId} {w : World} {v : Value} {xs : List Value} (h : w.ownsRow base T size v n xs) (hb : base ≤ w.heap.size) :
 ∃ r, (v.ownBlock = none ∨ v.ownBlock = some r) ∧ base ≤ r ∧ (∀ g t cs, Row w g t cs → t ≠ T → g ≠ r) ∧ (∀ o, w.heap[r]? = some o → o.isCells = true) ∧ (v.ownBlock = some r ∨ r = w.heap.size) := by
 obtain ⟨_, h2⟩ := h
 rcases h2 with ⟨rfl, _⟩ | ⟨g, cap, cur, rfl, hg0, hh, hrest⟩
 · refine ⟨w.heap.size, .inl rfl, hb, fun g t cs R _ => by have := R.lt; omega, fun o ho => ?_, .inr rfl⟩
   have := lt_of_block ho
   omega
 · refine ⟨g, .inr rfl, hg0, fun k t cs R ht e => ?_, fun o ho => ?_, .inl rfl⟩
   · subst e
     have := hh.symm.trans R
     simp only [Option.some.injEq, Obj.cells.injEq] at this
     exact ht this.2.1.symm
   · rw [hh] at ho
     cases ho
     rfl
theorem keepsFrom_kept {r B : Nat} {W W' : World} (h : Kept r W W') (hr : ∀ o, W.heap[r]? = some o → o.isCells = true) : KeepsFrom B W W' := ⟨h.size, fun k o _ hk ho => by
 have hne : k ≠ r := fun e => by
  subst e
  rw [hr o hk] at ho
  cases ho
 exact (h.block k (lt_of_block hk) hne).trans hk⟩
theorem keepsFrom_set {B : Nat} {W W' : World} (h : KeepsFrom B W W') (p : Addr) (v : Value) : KeepsFrom B W (W'.setCell p v) := h.trans ((KeepsOthers.setCell W' p v).from B)
theorem keepsFrom_below {B : Nat} {W W' : World} (h : Below W.heap.size W W') : KeepsFrom B W W' := ⟨h.size, fun k o _ hk ho => (h.block k (lt_of_block hk)).trans hk⟩
theorem list_upto {α β : Type} (qs : List α) (f : α → β) (d : α) {N : Nat} (hN : qs.length = N) {ys : List (Fin N)} (h : Upto ys N) : ys.map (fun x => f (qs[x.val]?.getD d)) = qs.map f := by
 have h1 : ys.map (fun x => f (qs[x.val]?.getD d)) = (ys.map Fin.val).map (fun k => f (qs[k]?.getD d)) := by rw [List.map_map]; rfl
 rw [h1, show ys.map Fin.val = List.range N from h, ← hN]
 apply List.ext_getElem
 · simp
 · intro i h1 h2
   simp at h1 h2
   simp [h2]
def dfE : E3 := ⟨.bool false, .slice none 0 0, .slice none 0 0⟩
def ratAt (es : List E3) {n : Nat} (x : Fin n) : Array Value := #[.agg #[(es[x.val]?.getD dfE).a, (es[x.val]?.getD dfE).b, (es[x.val]?.getD dfE).c]]
def limbV (xs : List Int) {n : Nat} (x : Fin n) : Array Value := #[.int .u32 (xs[x.val]?.getD 0)]
def numV (xs : List Int) {n : Nat} (x : Fin n) : Array Value := #[.int .i64 (xs[x.val]?.getD 0)]
def LimE (w : World) (ad : Option Addr) (es : List E3) (n₀ : Nat) : Prop := es = [] ∨ ∃ b o, ad = some ⟨b, o, none⟩ ∧ CellsE w b o es ∧ b < n₀
theorem LimE.below {w w' : World} {ad : Option Addr} {es : List E3} {n₀ : Nat} (h : LimE w ad es n₀) (hb : Below n₀ w w') : LimE w' ad es n₀ := by
 rcases h with h | ⟨b, o, e, c, hl⟩
 · exact .inl h
 · refine .inr ⟨b, o, e, fun i d hd => ?_, hl⟩
   obtain ⟨h0, h1, h2⟩ := c i d hd
   exact ⟨(hb.cell (p := ⟨b, o + i * 3, none⟩) hl).trans h0, (hb.cell (p := ⟨b, o + i * 3 + 1, none⟩) hl).trans h1, (hb.cell (p := ⟨b, o + i * 3 + 2, none⟩) hl).trans h2⟩
theorem RowA.limE {α : Type} {P : World → Value → α → Prop} {w : World} {u : Value} {L : List α} {ad : Option Addr} {cap : Nat} (h : RowA P w u L ad cap) : ∃ es, LimE w ad es w.heap.size ∧ AllE (P w) es L := by
 rcases h.els with e | ⟨b, o, es, e, c, k⟩
 · subst e
   exact ⟨[], .inl rfl, AllE.nil _⟩
 · by_cases hn : es = []
   · exact ⟨es, .inl hn, k⟩
   · have hL : L ≠ [] := fun h => hn (List.eq_nil_of_length_eq_zero (by rw [k.1, h]; rfl))
     exact ⟨es, .inr ⟨b, o, e, c, h.low hL e⟩, k⟩
def ShE (es : List E3) : Prop := ∀ k, k < es.length → ∃ m a1 n1 c1 a2 n2 c2, es[k]?.getD dfE = ⟨.bool m, .slice a1 n1 c1, .slice a2 n2 c2⟩
theorem shE_of {α : Type} {P : Value → α → Prop} {es : List E3} {L : List α} (h : AllE P es L) (hP : ∀ v x, P v x → ∃ m a1 n1 c1 a2 n2 c2, v = .agg #[.bool m, .slice a1 n1 c1, .slice a2 n2 c2]) : ShE es := fun k hk => by
 obtain ⟨e, x, h1, h2, h3⟩ := h.at (i := k) (by rw [← h.1]; exact hk)
 obtain ⟨m, a1, n1, c1, a2, n2, c2, he⟩ := hP _ _ h3
 rw [h1]
 obtain ⟨p, q, r⟩ := e
 simp only [E3.agg, Value.agg.injEq, Array.mk.injEq, List.cons.injEq, and_true] at he
 obtain ⟨rfl, rfl, rfl⟩ := he
 exact ⟨m, a1, n1, c1, a2, n2, c2, rfl⟩
theorem RawQ.form {w : World} {v : Value} {q : Q3} (h : RawQ w v q) : ∃ m a1 n1 c1 a2 n2 c2, v = .agg #[.bool m, .slice a1 n1 c1, .slice a2 n2 c2] := by
 obtain ⟨_, _, _, _, rfl, _⟩ := h
 exact ⟨_, _, _, _, _, _, _, rfl⟩
theorem LimE.cells {w : World} {ad : Option Addr} {es : List E3} {n₀ : Nat} (h : LimE w ad es n₀) {k : Nat} (hk : k < es.length) : ∃ b o, ad = some ⟨b, o, none⟩ ∧ w.cell? ⟨b, o + k * 3, none⟩ = some (es[k]?.getD dfE).a ∧ w.cell? ⟨b, o + k * 3 + 1, none⟩ = some (es[k]?.getD dfE).b ∧ w.cell? ⟨b, o + k * 3 + 2, none⟩ = some (es[k]?.getD dfE).c := by
 rcases h with h | ⟨b, o, e, c, _⟩
 · subst h; simp at hk
 · have hx : es[k]? = some es[k] := List.getElem?_eq_getElem hk
   obtain ⟨h0, h1, h2⟩ := c k _ hx
   exact ⟨b, o, e, by rw [hx]; exact h0, by rw [hx]; exact h1, by rw [hx]; exact h2⟩
theorem allQ_in (n l Bs n₀ : Nat) (ad : Option Addr) (es : List E3) (cap : Nat) (hm : es.length ≤ 1000000000000) (hcap : es.length ≤ cap) (J Jx : List (Fin es.length) → World → Prop)
 (hJ : ∀ pre A B, J pre A → Below A.heap.size A B → J pre B)
 (hY : ∀ pre x W, J pre W → pre.length < es.length → YieldAt Fence.wide (n - 1) Tryz.prog l (ratAt es x) W fun e W' =>
   (e = .returned (.bool true) ∧ J (pre ++ [x]) W' ∧ Below n₀ W W') ∨ (e = .returned (.bool false) ∧ Jx (pre ++ [x]) W'))
 (W : World) (hn₀ : n₀ ≤ W.heap.size) (hBs : W.cell? ⟨Bs, 0, none⟩ = some (.slice ad es.length cap)) (hl : LimE W ad es n₀) (hsh : ShE es) (h0 : J [] W) :
 CallsIn Fence.wide n Tryz.prog 107 #[.func (.yield l) #[] #[], .pointer (some ⟨Bs, 0, none⟩)] W fun e W' => (∃ v, e = .returned v) ∧
  ((∃ ys, Upto ys es.length ∧ J ys W') ∨ (∃ pre, (∃ k, k ≤ es.length ∧ Upto pre k) ∧ Jx pre W')) := by
 refine callsIn_of_wp Tryz.func107 rfl trivial ?_ rfl
 simp only [Tryz.ntmps107, List.size_toArray, List.length_cons, List.length_nil, Nat.reduceAdd, Nat.reduceSub, Array.replicate_succ, Array.replicate_zero, List.push_toArray, List.append_toArray, List.nil_append, List.cons_append]
 gi_wp2_with fail
 gi_loopw [4, 7] (fun _ i wr => ∃ (k : Nat) (pre : List (Fin es.length)), k ≤ es.length ∧ i = .int .i64 k ∧ Upto pre k ∧ J pre wr ∧ Below n₀ W wr)
  (fun _ i _ => es.length - (intOf i).toNat)
 case atStart => exact ⟨0, [], Nat.zero_le _, rfl, rfl, h0, Below.refl _ _⟩
 case round =>
  obtain ⟨k, pre, hk, rfl, hup, hJs, hnx⟩ := hrel
  by_cases hlt : k < es.length
  · obtain ⟨b, o, rfl, c0, c1, c2⟩ := (hl.below hnx).cells hlt
    have hsz := hnx.size
    obtain ⟨W2, hW2⟩ : ∃ W2, wr.alloc (.cells #[(es[k]?.getD dfE).a, (es[k]?.getD dfE).b, (es[k]?.getD dfE).c] 54) = W2 := ⟨_, rfl⟩
    have hb2 : Below wr.heap.size wr W2 := by rw [← hW2]; exact (Below.refl _ _).alloc (Nat.le_refl _) _
    have R2 : Row W2 wr.heap.size 54 #[(es[k]?.getD dfE).a, (es[k]?.getD dfE).b, (es[k]?.getD dfE).c] := by rw [← hW2]; exact Row.new _ _ _
    obtain ⟨d0, d1, d2, _, _, _⟩ := R2.three
    obtain ⟨fn, tmps, assign, body, hy, hR⟩ := hY pre ⟨k, hlt⟩ W2 (hJ _ _ _ hJs hb2) (by rw [hup.length]; exact hlt)
    simp only [ratAt] at hy
    have hnx2 : Below n₀ W W2 := hnx.trans (hb2.mono (by omega))
    obtain ⟨z1, z2, z3, z4, z5, z6, z7, he⟩ := hsh k hlt
    rw [he] at hy c0 c1 c2 hW2 d0 d1 d2
    clear he R2
    have HJ := Lib.hid hJ
    have HY := Lib.hid hY
    clear hJ hY hl
    gi_wp2
    refine ⟨(fun h => by cases h), hR.mono ?_⟩
    rintro e W3 (⟨rfl, hJ3, hk3⟩ | ⟨rfl, hJx3⟩)
    · gi_wp2
      go_roundw
      case rel => exact ⟨k + 1, _, by omega, by go_num, hup.snoc hlt, hJ3, hnx2.trans hk3⟩
      case measure => simp [intOf]; omega
    · gi_wp2
      refine bodyPost_ret (results_none rfl _ _ _) rfl ?_
      exact ⟨⟨_, rfl⟩, .inr ⟨_, ⟨k + 1, by omega, hup.snoc hlt⟩, hJx3⟩⟩
  · obtain rfl : k = es.length := by omega
    gi_wp2
    go_end0
    exact ⟨⟨_, rfl⟩, .inl ⟨_, hup, hJs⟩⟩
end
section
def bcI (s : List Int) (k : Nat) (xs : List Int) : List Int := (List.range s.length).map fun i : Nat => (xs.getD (k + i) 0) % (s.getD i 0)
theorem bcI_len (s : List Int) (k : Nat) (xs : List Int) : (bcI s k xs).length = s.length := by simp [bcI]
theorem bcI_at (s : List Int) (k : Nat) (xs : List Int) {i : Nat} (h : i < s.length) : (bcI s k xs).getD i 0 = (xs.getD (k + i) 0) % (s.getD i 0) := getD_map_range _ h
theorem fit_at {f t : List Int} (h : fitC f t = 0) {i : Nat} (hi : i < f.length) : f.getD i 0 = 1 ∨ f.getD i 0 = t.getD (t.length - f.length + i) 0 := by
 have hl := fit_len h
 have h3 := ((fitC_is h).2.2 (f.length - i) (by omega) (by omega)).2
 unfold backS at h3
 rw [if_neg (by omega), if_neg (by omega), show f.length - (f.length - i) = i by omega, show t.length - (f.length - i) = t.length - f.length + i by omega] at h3
 exact h3
theorem bc_keep {f t xs : List Int} (h : fitC f t = 0) (hx : inS t xs) {i : Nat} (hi : i < f.length) : (bcI f (t.length - f.length) xs).getD i 0 = if f.getD i 0 = 1 then 0 else xs.getD (t.length - f.length + i) 0 := by
 rw [bcI_at _ _ _ hi]
 have hl := fit_len h
 split
 · next e => rw [e, Int.emod_one]
 · next e =>
   have h2 := (fit_at h hi).resolve_left e
   have h3 := inS_at hx (i := t.length - f.length + i) (by omega)
   rw [h2]
   exact Int.emod_eq_of_lt h3.1 h3.2
end
end Go.Proofs.YtengpgodmbfmkaaGreat
