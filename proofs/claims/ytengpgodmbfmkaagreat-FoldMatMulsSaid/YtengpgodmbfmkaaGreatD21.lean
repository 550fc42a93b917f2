/-
  Package fold as it landed: rows of rows of numbers, in the making.
-/
import Derived.Test.YtengpgodmbfmkaaGreatD17
import Derived.Test.YtengpgodmbfmkaaGreatD18
namespace Go.Proofs.YtengpgodmbfmkaaGreat
set_option linter.unusedVariables false
set_option linter.unusedSimpArgs false
set_option maxRecDepth 100000
set_option maxHeartbeats 40000000
section
open Go.RowKit Go.Shelf
attribute [local go_sem] Oper.semAt_some
theorem RawO.res {base n : Nat} {w : World} {v : Value} {q : Q3} (h : RawO base w v q) (ok : okQ q = true) (h1 : q.num.length ≤ n) (h2 : q.den.length ≤ n) : ResQ base w v q.rat n := by
 obtain ⟨ad, bd, ca, cb, rfl, A, D, wa, wd⟩ := h
 unfold okQ validB isB at ok
 simp only [Bool.and_eq_true, decide_eq_true_eq, beq_iff_eq] at ok
 obtain ⟨e1, ⟨e2, e3⟩, e4, e5⟩ := ok
 exact ⟨q.num, q.den, ad, bd, ca, cb, by rw [← e1], ⟨A, wa, e2, e3⟩, ⟨D, wd, e4, e5⟩, h1, h2⟩
end
section
open Go.RowKit
theorem make_rowP (m : Nat) (hc : m ≤ 1000000000000) (w : World) :
 (Instr.makeSlice 24 (.int .i64 0) (.int .i64 (m : Int))).run Tryz.prog w = .ok (.slice (some ⟨w.heap.size, 0, none⟩) 0 m) (w.alloc (.cells (madeCells #[.bool false, .slice none 0 0, .slice none 0 0] (m * 3)) 54)) := by
 obtain ⟨i0, hi, hz0, hz1, hz2⟩ := info_parts infoQ
 have h := run_make (P := Tryz.prog) w 24 54 i0 (.agg #[.bool false, .slice none 0 0, .slice none 0 0]) Tryz.underlying24 hi hz0 .i64 .i64 0 m (by omega) (by omega) (by rw [hz2]; omega) (by omega)
 simpa [hz1, Value.cells] using h
theorem madeP_len (z : Array Value) (m : Nat) : (madeCells z m).size = m := by
 simp [madeCells]
theorem cloneS_any {u : Value} {xs : List Int} {ad : Option Addr} {cap : Nat} {w : World} (A : ArgS w u xs ad cap) (hn : ad = none → cap = 0) (hx : xs.length ≤ 17592186044416) :
 Calls Tryz.prog 102 #[u] w fun e w' => ∃ r, e = .returned r ∧ ResS w.heap.size w' r xs ∧ Below w.heap.size w w' := by
 obtain ⟨i0, hi, hz0, hz1, hz2⟩ := info_parts infoS
 have q22 : ∀ (w : World) (a : Option Addr) (n c n' c' : Nat), (binOp .eql 23 (.slice a n c) (.slice none n' c')).run Tryz.prog w = .ok (.bool a.isNone) w := fun w a n c n' c' => Lib.run_eql_slice_nil w _ _ a n c n' c' Tryz.underlying23
 have HW := Lib.hid A.wf
 obtain ⟨rfl, lx, hle, wx⟩ := A
 clear wx
 cases ad with
 | none =>
  have hc := hn rfl
  subst hc
  obtain rfl : xs = [] := List.eq_nil_of_length_eq_zero (by omega)
  clear lx hle hn hx
  go_enter Tryz.func102, Tryz.ntmps102
  go_wp2
  go_ret
  exact ⟨_, rfl, ResS.nil _ _, Below.refl _ _⟩
 | some a =>
  have HC := Lib.hid (cells_argS (cap := cap) (lx.later ((Below.refl w.heap.size w).alloc (Nat.le_refl _) (.cells #[] 3))))
  clear lx hn
  go_enter Tryz.func102, Tryz.ntmps102
  go_wp2_with (at_builtin; refine wpList_append_own _ rfl _ _ 23 rfl w.heap.size 3 i0 (.int .i64 0) 1 8 Tryz.underlying23 hi hz0 hz1 hz2 rfl (by decide) _ _ _ rfl (World.ownsRow_made w #[] 0 (Nat.le_refl _) (Nat.zero_le _) rfl) a xs.length cap (xs.map (Value.int .i64)) rfl ?qc1 HC.out (ints_oneCell _ _) ?qc4 ?qc5 ?qc6 ?_)
  case qc1 => simp
  case qc4 => unfold maxLen; omega
  case qc5 => omega
  case qc6 => simp
  intro v' w1 hown hgrow hnil
  go_wp2
  go_ret
  refine ⟨v', rfl, ⟨?_, HW.out⟩, ?_⟩
  · unfold NumS; simpa using hown
  · exact ((Below.refl _ w).alloc (Nat.le_refl _) _).grown hgrow (by simp) (by intro k hk; simp [Value.ownBlock] at hk; omega)
theorem shaped_any {u : Value} {xs : List Int} {ad b : Option Addr} {cap n cb : Nat} {w : World} (A : ArgS w u xs ad cap) (hn : ad = none → cap = 0) (hx : xs.length ≤ 17592186044416) :
 Calls Tryz.prog 116 #[u, .slice b n cb] w fun e w' => ∃ a' ca', e = .returned (.agg #[.slice a' xs.length ca', .slice b n cb]) ∧ ResS w.heap.size w' (.slice a' xs.length ca') xs ∧ Below w.heap.size w w' := by
 obtain rfl := A.is
 obtain ⟨W, hW⟩ : ∃ W, w.alloc (.cells #[.slice none 0 0, .slice none 0 0] 26) = W := ⟨_, rfl⟩
 have R0 : Row W w.heap.size 26 #[.slice none 0 0, .slice none 0 0] := by rw [← hW]; exact Row.new _ _ _
 have hBW : Below w.heap.size w W := by rw [← hW]; exact (Below.refl _ _).alloc (Nat.le_refl _) _
 have hs : W.heap.size = w.heap.size + 1 := by rw [← hW]; simp
 have hc := cloneS_any (A.later hBW) hn hx
 go_enter Tryz.func116, Tryz.ntmps116
 (try rw [hW])
 go_wp2_with (go_at_call 102; refine hc.mono ?_; rintro e w1 ⟨r, rfl, hr, hb⟩; obtain ⟨a', ca', rfl, hr, -, -⟩ := hr.slice; have R1 := R0.later hb; obtain ⟨u0, u1, f0, f1⟩ := R1.two)
 have R2 := R1.set2 (.slice a' xs.length ca') (.slice b n cb)
 obtain ⟨z0, z1, _, _⟩ := R2.two
 refine bodyPost_ret (v := .agg #[.slice a' xs.length ca', .slice b n cb]) (by simp [results, Tryz.results116, go_sem, z0, z1]) rfl ⟨_, _, rfl, ?_, ?_⟩
 · exact (hr.mono (by omega)).far R1 (by decide) (kept2 _ _)
 · exact below_set2 (hBW.trans (hb.mono (by omega))) (Nat.le_refl _) _ _
def orL : List Int → Int
 | [] => 0
 | x :: r => if x = 0 then orL r else x
theorem orL_nil {xs : List Int} (h : ∀ x ∈ xs, x = 0) : orL xs = 0 := by
 induction xs with
 | nil => rfl
 | cons x r ih =>
  unfold orL
  rw [if_pos (h x (by simp))]
  exact ih fun y hy => h y (by simp [hy])
theorem orL_at {xs : List Int} {k : Nat} {x : Int} (h : ∀ j, j < k → xs.getD j 0 = 0) (hk : xs[k]? = some x) (hx : x ≠ 0) : orL xs = x := by
 induction xs generalizing k with
 | nil => simp at hk
 | cons y r ih =>
  cases k with
  | zero =>
   simp at hk
   subst hk
   unfold orL
   rw [if_neg hx]
  | succ k =>
   have h0 := h 0 (by omega)
   simp at h0
   unfold orL
   rw [if_pos h0]
   exact ih (k := k) (fun j hj => by simpa using h (j + 1) (by omega)) (by simpa using hk)
theorem or_any {w : World} {xs : List Int} {b : Nat} {cap : Nat} (hc : ∀ k, k < xs.length → w.cell? ⟨b, k, none⟩ = some (.int .i64 (xs.getD k 0))) (hm : xs.length ≤ 1000000) :
 Calls Tryz.prog 41 #[.slice (some ⟨b, 0, none⟩) xs.length cap] w fun e w' => e = .returned (.int .i64 (orL xs)) ∧ w = w' := by
 obtain ⟨d, hd⟩ : ∃ d, orL xs = d := ⟨_, rfl⟩
 have HD := Lib.hid hd
 have HC := Lib.hid hc
 obtain ⟨m, hm2⟩ : ∃ m, xs.length = m := ⟨_, rfl⟩
 have HM := Lib.hid hm2
 rw [hd]
 rw [hm2] at hm ⊢
 clear hd hc hm2
 go_enter Tryz.func41, Tryz.ntmps41
 go_wp2_with fail
 go_loopw [5, 8] (fun _ i wr => ∃ k : Nat, i = .int .i64 k ∧ k ≤ m ∧ (∀ j, j < k → xs.getD j 0 = 0) ∧ w = wr) (fun _ i _ => m - (intOf i).toNat)
 case atStart => exact ⟨0, rfl, Nat.zero_le _, (fun j hj => by omega), by trivial⟩
 case round =>
  obtain ⟨k, rfl, hk, hall, rfl⟩ := hrel
  have HA := Lib.hid hall
  clear hall
  by_cases hlt : k < m
  · have c1 := HC.out k (by rw [HM.out]; exact hlt)
    obtain ⟨x, hx⟩ : ∃ x, xs.getD k 0 = x := ⟨_, rfl⟩
    rw [hx] at c1
    have HX := Lib.hid hx
    have hk0 : (0 : Int) ≤ (k : Int) := Int.natCast_nonneg _
    have hk1 : (k : Int) < (m : Int) := by omega
    clear hx
    by_cases e : x = 0
    · have hne : (x != 0) = false := by simp [e]
      go_wp2
      go_roundw
      case rel =>
       refine ⟨k + 1, by go_num, by omega, fun j hj => ?_, by trivial⟩
       by_cases h : j = k
       · rw [h, HX.out, e]
       · exact HA.out j (by omega)
      case measure => simp [intOf]; omega
    · have hne : (x != 0) = true := by simp [e]
      have hd : d = x := by
       rw [← HD.out]
       refine orL_at HA.out ?_ e
       have : k < xs.length := by rw [HM.out]; exact hlt
       rw [List.getElem?_eq_getElem this, ← HX.out]
       simp [this]
      subst hd
      go_wp2
      go_ret
      exact ⟨rfl, rfl⟩
  · obtain rfl : k = m := by omega
    have hk1 : ¬ (k : Int) < (k : Int) := by omega
    have hd : d = 0 := by
     rw [← HD.out]
     refine orL_nil fun x hx => ?_
     obtain ⟨j, hj, rfl⟩ := List.mem_iff_getElem.1 hx
     have h := HA.out j (by rw [← HM.out]; exact hj)
     simpa [hj] using h
    subst hd
    go_wp2
    go_ret
    exact ⟨rfl, rfl⟩
end
section
open Go.RowKit
theorem noIntsT (a b : Option Addr) (n m ca cb : Nat) : NoInts #[.slice a n ca, .slice b m cb] := by
 intro i k x
 match i with
 | 0 => simp
 | 1 => simp
 | _ + 2 => simp
theorem TensR.far {w w' : World} {v : Value} {s : List Int} {L : List Rat} {n g : Nat} {t : TypeId} {a b p1 p2 : Option Addr} {ca cb l1 l2 k1 k2 : Nat} (h : TensR w v s L n a ca b cb) (R : Row w g t #[.slice p1 l1 k1, .slice p2 l2 k2]) (hk : ∀ k, k ≠ g → w'.heap[k]? = w.heap[k]?) : TensR w' v s L n a ca b cb := by
 have hcell : ∀ (p : Addr) (u : Value), p.block ≠ g → w.cell? p = some u → w'.cell? p = some u := fun p u hp hu => (World.cell?_of_block (hk p.block hp)).trans hu
 have hno : ∀ (o : Nat) (x : Value), w.cell? ⟨g, o, none⟩ = some x → ∃ q l k, x = .slice q l k := fun o x hx => by
  rw [R.cell] at hx
  match o, hx with
  | 0, hx => simp at hx; exact ⟨_, _, _, hx.symm⟩
  | 1, hx => simp at hx; exact ⟨_, _, _, hx.symm⟩
  | o + 2, hx => simp at hx
 refine ⟨h.is, ⟨h.sh.is, ?_, h.sh.le, h.sh.wf⟩, h.nila, ⟨h.el.is, h.el.le, ?_⟩, h.nilb⟩
 · rcases h.sh.lim with e | ⟨bb, off, e, hc⟩
   · exact .inl e
   · refine .inr ⟨bb, off, e, fun i hi => hcell _ _ (fun e2 => ?_) (hc i hi)⟩
     have e3 : bb = g := e2
     subst e3
     obtain ⟨q, l, k, e4⟩ := hno _ _ (hc i hi)
     cases e4
 · rcases h.el.els with e | ⟨bb, o, es, e, hc, hall⟩
   · exact .inl e
   · refine .inr ⟨bb, o, es, e, fun i d hd => ?_, hall.imp fun u x _ h => h.far R (noIntsT _ _ _ _ _ _) hk⟩
     obtain ⟨c0, c1, c2⟩ := hc i d hd
     have hi : i < es.length := by
      rcases Nat.lt_or_ge i es.length with g1 | g1
      · exact g1
      · rw [List.getElem?_eq_none g1] at hd; cases hd
     have hi2 : i < L.length := by rw [← hall.1]; exact hi
     have hx := hall.2 i d _ hd (List.getElem?_eq_getElem hi2)
     have hb : bb ≠ g := fun e2 => by
      subst e2
      obtain ⟨q, l, k, e4⟩ := hno _ _ c0
      obtain ⟨_, _, _, _, _, _, e5, _⟩ := hx
      unfold E3.agg at e5
      rw [e4] at e5
      simp at e5
     exact ⟨hcell _ _ hb c0, hcell _ _ hb c1, hcell _ _ hb c2⟩
end
section
open Go.RowKit
def IdxP (B : Nat) (X : World) (ad : Option Addr) (cap : Nat) (zs : List Int) : Prop := (ad = none ∧ cap = 0 ∧ zs = []) ∨ ∃ g, ad = some ⟨g, 0, none⟩ ∧ B ≤ g ∧ cap ≤ maxLen ∧ PartS X g cap zs
theorem NumS.partS0 {base : Nat} {w : World} {v : Value} {zs : List Int} (h : NumS base w v zs) : (v = .slice none 0 0 ∧ zs = []) ∨ ∃ g cap, v = .slice (some ⟨g, 0, none⟩) zs.length cap ∧ base ≤ g ∧ cap ≤ maxLen ∧ PartS w g cap zs := by
 obtain ⟨h1, h2⟩ := h
 rcases h2 with ⟨hv, hn⟩ | ⟨g, cap, cur, hv, hb, hg, hc, hm, hs, ht⟩
 · exact .inl ⟨hv, List.eq_nil_of_length_eq_zero hn⟩
 · exact .inr ⟨g, cap, hv, hb, hm, cur, hg, by simpa using hs, hc, by simpa using ht⟩
theorem ResS.idx {B : Nat} {w : World} {u : Value} {xs : List Int} (h : ResS B w u xs) : ∃ ad cap, u = .slice ad xs.length cap ∧ IdxP B w ad cap xs ∧ xs.length ≤ cap ∧ (ad = none → cap = 0) ∧ Wid xs := by
 obtain ⟨ad, cap, rfl, hR, A, hn⟩ := h.slice
 rcases hR.num.partS0 with ⟨e, hz⟩ | ⟨g, cap2, e, hb, hm, hP⟩
 · simp only [Value.slice.injEq] at e
   obtain ⟨rfl, _, rfl⟩ := e
   exact ⟨_, 0, rfl, .inl ⟨rfl, rfl, hz⟩, A.le, hn, A.wf⟩
 · simp only [Value.slice.injEq] at e
   obtain ⟨rfl, _, rfl⟩ := e
   exact ⟨_, cap, rfl, .inr ⟨g, rfl, hb, hm, hP⟩, A.le, hn, A.wf⟩
theorem IdxP.arg {B : Nat} {X : World} {ad : Option Addr} {cap : Nat} {zs : List Int} (h : IdxP B X ad cap zs) (hl : zs.length ≤ cap) (hw : Wid zs) : ArgS X (.slice ad zs.length cap) zs ad cap := by
 rcases h with ⟨_, _, rfl⟩ | ⟨g, rfl, hb, hm, hP⟩
 · exact ⟨rfl, .inl rfl, hl, hw⟩
 · exact ⟨rfl, .inr ⟨g, 0, rfl, fun i hi => by rw [Nat.zero_add]; exact hP.cell i hi⟩, hl, hw⟩
theorem IdxP.later {B : Nat} {X Y : World} {ad : Option Addr} {cap : Nat} {zs : List Int} (h : IdxP B X ad cap zs) (hb : Below X.heap.size X Y) : IdxP B Y ad cap zs := by
 rcases h with h | ⟨g, e, k1, k2, hP⟩
 · exact .inl h
 · exact .inr ⟨g, e, k1, k2, hP.later hb⟩
theorem IdxP.at {B : Nat} {X : World} {ad : Option Addr} {cap : Nat} {zs : List Int} (h : IdxP B X ad cap zs) {i : Nat} (hi : i < zs.length) : ∃ g, ad = some ⟨g, 0, none⟩ ∧ B ≤ g ∧ cap ≤ maxLen ∧ PartS X g cap zs := by
 rcases h with ⟨_, _, rfl⟩ | h
 · simp at hi
 · exact h
theorem IdxP.lt {B : Nat} {X : World} {cap g : Nat} {zs : List Int} (h : IdxP B X (some ⟨g, 0, none⟩) cap zs) : g < X.heap.size := by
 rcases h with ⟨e, _⟩ | ⟨g', e, _, _, hP⟩
 · cases e
 · cases e; exact hP.lt
def FillB (s xs zs : List Int) (k r : Nat) : Prop := zs.length = xs.length ∧ (∀ i, i < r → zs.getD (k + i) 0 = xs.getD (k + i) 0 % s.getD i 0) ∧ ∀ i, r ≤ i → zs.getD (k + i) 0 = xs.getD (k + i) 0
theorem FillB.nil (s xs : List Int) (k : Nat) : FillB s xs xs k 0 := ⟨rfl, fun i hi => by omega, fun i _ => rfl⟩
theorem FillB.next {s xs zs : List Int} {k r : Nat} (h : FillB s xs zs k r) (hr : k + r < xs.length) : FillB s xs (zs.set (k + r) (xs.getD (k + r) 0 % s.getD r 0)) k (r + 1) := by
 obtain ⟨h1, h2, h3⟩ := h
 refine ⟨by rw [List.length_set]; exact h1, fun i hi => ?_, fun i hi => ?_⟩
 · by_cases e : i = r
   · subst e
     exact getD_set_self _ _ _ (by omega)
   · rw [getD_set_ne _ _ (by omega), h2 i (by omega)]
 · rw [getD_set_ne _ _ (by omega), h3 i (by omega)]
theorem FillB.full {s xs zs : List Int} {k : Nat} (h : FillB s xs zs k s.length) (hl : xs.length = k + s.length) : zs.drop k = bcI s k xs := by
 obtain ⟨h1, h2, _⟩ := h
 refine list_eq_getD (by rw [bcI_len, List.length_drop]; omega) fun i hi => ?_
 rw [List.length_drop] at hi
 rw [bcI_at _ _ _ (by omega), ← h2 i (by omega)]
 simp [List.getD_eq_getElem?_getD]
end
section
open Go.RowKit Go.ChangeShapes Go.WideShapes Go.ChangeAt Go.Joins Go.Deep
structure X2 where
 s : List Int
 q : List Q3
def RowT (w : World) (v : Value) (xs : List X2) (ad : Option Addr) (cap : Nat) : Prop := v = .slice ad xs.length cap ∧ xs.length ≤ cap ∧ (xs = [] ∨ ∃ b o, ad = some ⟨b, o, none⟩ ∧ ∀ (i : Nat) (x : X2), xs[i]? = some x →
 ∃ (a e : Option Addr) (ca ce : Nat), w.cell? ⟨b, o + i * 2, none⟩ = some (.slice a x.s.length ca) ∧ w.cell? ⟨b, o + i * 2 + 1, none⟩ = some (.slice e x.q.length ce) ∧ TensQ w (.agg #[.slice a x.s.length ca, .slice e x.q.length ce]) x.s x.q a ca e ce)
theorem RowT.is {w : World} {v : Value} {xs : List X2} {ad : Option Addr} {cap : Nat} (h : RowT w v xs ad cap) : v = .slice ad xs.length cap := h.1
theorem RowT.later {w w' : World} {v : Value} {xs : List X2} {ad : Option Addr} {cap : Nat} (h : RowT w v xs ad cap) (hb : Below w.heap.size w w') : RowT w' v xs ad cap := by
 obtain ⟨h1, h2, h3⟩ := h
 refine ⟨h1, h2, h3.imp id ?_⟩
 rintro ⟨b, o, e, hx⟩
 refine ⟨b, o, e, fun i x hi => ?_⟩
 obtain ⟨a, e', ca, ce, c0, c1, T⟩ := hx i x hi
 exact ⟨a, e', ca, ce, (hb.cell (World.block_lt_of_cell? _ _ c0)).trans c0, (hb.cell (World.block_lt_of_cell? _ _ c1)).trans c1, T.later hb⟩
theorem RowT.at {w : World} {v : Value} {xs : List X2} {ad : Option Addr} {cap i : Nat} {x : X2} (h : RowT w v xs ad cap) (hi : xs[i]? = some x) : ∃ b o, ad = some ⟨b, o, none⟩ ∧ b < w.heap.size ∧
 ∃ (a e : Option Addr) (ca ce : Nat), w.cell? ⟨b, o + i * 2, none⟩ = some (.slice a x.s.length ca) ∧ w.cell? ⟨b, o + i * 2 + 1, none⟩ = some (.slice e x.q.length ce) ∧ TensQ w (.agg #[.slice a x.s.length ca, .slice e x.q.length ce]) x.s x.q a ca e ce := by
 rcases h.2.2 with rfl | ⟨b, o, e, hx⟩
 · simp at hi
 · have hc := hx i x hi
   obtain ⟨_, _, _, _, c0, _, _⟩ := id hc
   exact ⟨b, o, e, World.block_lt_of_cell? w _ c0, hc⟩
end
section
open Go.RowKit
structure Y2 where
 s : List Int
 l : List Rat
def RowTR (m : Nat) (w : World) (v : Value) (ys : List Y2) (ad : Option Addr) (cap : Nat) : Prop := v = .slice ad ys.length cap ∧ ys.length ≤ cap ∧ (ys = [] ∨ ∃ b o, ad = some ⟨b, o, none⟩ ∧ ∀ (i : Nat) (y : Y2), ys[i]? = some y →
 ∃ (a e : Option Addr) (ca ce : Nat), w.cell? ⟨b, o + i * 2, none⟩ = some (.slice a y.s.length ca) ∧ w.cell? ⟨b, o + i * 2 + 1, none⟩ = some (.slice e y.l.length ce) ∧ TensR w (.agg #[.slice a y.s.length ca, .slice e y.l.length ce]) y.s y.l m a ca e ce)
theorem RowTR.is {m : Nat} {w : World} {v : Value} {ys : List Y2} {ad : Option Addr} {cap : Nat} (h : RowTR m w v ys ad cap) : v = .slice ad ys.length cap := h.1
theorem RowTR.at {m : Nat} {w : World} {v : Value} {ys : List Y2} {ad : Option Addr} {cap i : Nat} {y : Y2} (h : RowTR m w v ys ad cap) (hi : ys[i]? = some y) : ∃ b o, ad = some ⟨b, o, none⟩ ∧ b < w.heap.size ∧
 ∃ (a e : Option Addr) (ca ce : Nat), w.cell? ⟨b, o + i * 2, none⟩ = some (.slice a y.s.length ca) ∧ w.cell? ⟨b, o + i * 2 + 1, none⟩ = some (.slice e y.l.length ce) ∧ TensR w (.agg #[.slice a y.s.length ca, .slice e y.l.length ce]) y.s y.l m a ca e ce := by
 rcases h.2.2 with rfl | ⟨b, o, e, hx⟩
 · simp at hi
 · have hc := hx i y hi
   obtain ⟨_, _, _, _, c0, _, _⟩ := id hc
   exact ⟨b, o, e, World.block_lt_of_cell? w _ c0, hc⟩
end
section
open Go.RowKit
theorem position1_any {w : World} {s ys : List Int} {a d b : Option Addr} {ca cd cb g1 g2 g3 : Nat} {n : Nat} (c1 : w.cell? ⟨g1, 0, none⟩ = some (.slice a s.length ca)) (c2 : w.cell? ⟨g2, 0, none⟩ = some (.slice d (dropS s ys).length cd)) (c3 : w.cell? ⟨g3, 0, none⟩ = some (.slice b ys.length cb))
 (A : ArgS w (.slice a s.length ca) s a ca) (na : a = none → ca = 0) (D : ArgS w (.slice d (dropS s ys).length cd) (dropS s ys) d cd) (nd : d = none → cd = 0) (B : ArgS w (.slice b ys.length cb) ys b cb) (nb : b = none → cb = 0) (ok : OkS s) (hn : n < cntF s) (hy : ys.length ≤ 1000000) :
 Calls Tryz.prog 127 #[.int .i64 (n : Int), .pointer (some ⟨g1, 0, none⟩), .pointer (some ⟨g2, 0, none⟩), .pointer (some ⟨g3, 0, none⟩)] w fun e w' => e = .returned (.int .i64 (toF s ys n : Int)) ∧ Below w.heap.size w w' := by
 have hc := ok.cnt
 have hrk := ok.rank
 have okd := drop_ok ys ok
 have hrd := okd.rank
 obtain ⟨hin, hto, _⟩ := toF_in ys ok hn
 have hidx : idxC s (n : Int) = 0 := idxC_in (mayC_ok ok) (by omega) (by omega)
 have hiv : idxV s (n : Int) = idxS s (n : Int) := idxV_in hidx
 have hi := fun (X : World) (hX : Below w.heap.size w X) => indexS_any (n : Int) (A.later hX) na (by omega) (by omega) (by omega)
 rw [hidx, hiv] at hi
 have hlen : (idxS s (n : Int)).length = s.length := idx_length _ _
 obtain ⟨xs, hxs⟩ : ∃ xs, idxS s (n : Int) = xs := ⟨_, rfl⟩
 rw [hxs] at hi hin hto hlen
 have hoc : offC (dropS s ys) (dropS xs ys) = 0 := offC_in (mayC_ok okd) hin
 have hov : offV (dropS s ys) (dropS xs ys) = (toF s ys n : Int) := by rw [offV_in (mayC_ok okd) hin, hto]
 obtain ⟨L, hL⟩ : ∃ L, dropS s ys = L := ⟨_, rfl⟩
 obtain ⟨zs, hzs⟩ : ∃ zs, dropS xs ys = zs := ⟨_, rfl⟩
 have hzl : zs.length ≤ 4 := by rw [← hzs]; exact Nat.le_trans (dropL_le xs ys _) (by omega)
 obtain ⟨m, hm⟩ : ∃ m : Int, (toF s ys n : Int) = m := ⟨_, rfl⟩
 rw [hL] at D c2 hoc hov hrd
 rw [hzs] at hoc hov
 rw [hm] at hov ⊢
 have HZS := Lib.hid hzs
 have HOC := Lib.hid hoc
 have HOV := Lib.hid hov
 have HD := Lib.hid D
 have HB := Lib.hid B
 have HND := Lib.hid nd
 have HNB := Lib.hid nb
 obtain ⟨ll, hll⟩ : ∃ n, L.length = n := ⟨_, rfl⟩
 rw [hll] at c2
 have HLL := Lib.hid hll
 obtain ⟨yl, hyl⟩ : ∃ n, ys.length = n := ⟨_, rfl⟩
 rw [hyl] at c3
 have HYL := Lib.hid hyl
 have hi0 := hi w (Below.refl _ _)
 clear hm hzs hoc hov hL hxs hidx hiv hi D B nd nb hin hto hll hyl hc
 go_enter Tryz.func127, Tryz.ntmps127
 go_wp2_with fail
 refine hi0.mono ?_
 rintro e w1 ⟨r1, rfl, R1, hb1⟩
 obtain ⟨a1, k1, rfl, R1', A1, n1⟩ := R1.slice
 obtain ⟨xl, hxl⟩ : ∃ n, xs.length = n := ⟨_, rfl⟩
 have HXL := Lib.hid hxl
 have HA1 := Lib.hid A1
 have HN1 := Lib.hid n1
 rw [hxl]
 clear R1 R1' A1 n1 hxl hi0
 have mkS : ∀ X, Below w1.heap.size w1 X → X.cell? ⟨g2, 0, none⟩ = some (.slice d ll cd) ∧ X.cell? ⟨g3, 0, none⟩ = some (.slice b yl cb) ∧ Below w1.heap.size w1 X := fun X h => ⟨((hb1.trans (h.mono hb1.size)).cell (World.block_lt_of_cell? _ _ c2)).trans c2, ((hb1.trans (h.mono hb1.size)).cell (World.block_lt_of_cell? _ _ c3)).trans c3, h⟩
 have B0 : Below w1.heap.size w1 w1.drew := (Below.refl _ _).drew
 go_wp2_with fail
 refine wp_region_held (S := (fun X => X.cell? ⟨g2, 0, none⟩ = some (.slice d ll cd) ∧ X.cell? ⟨g3, 0, none⟩ = some (.slice b yl cb) ∧ Below w1.heap.size w1 X)) (by kernel_rfl) ?_
 have hHeld := mkS _ B0
 refine todo [0, 1, 2] ?_
 iterate 3
  refine todoH (v := ?_) rfl (by kernel_rfl) (fun _ _ _ h => h) (by assumption) (Or.inl ⟨by rfl, ?_⟩) ?_
  rotate_left
  · intro w hSw; (try dsimp only at hSw); go_simp; (try with_reducible rfl)
  try simp only [Act.put, nA, nB, nC, nD, nE, nF]
 refine todone ?_
 refine wpAnyH_ready (rs := [3]) (by kernel_rfl) (by simp) ?_
 refine AllReadyH.cons rfl (fun K hK => ?sp1c3) AllReadyH.nil
 go_simp
 refine (dropC_any (show ArgS _ (.slice a1 xl k1) xs a1 k1 by have h := HA1.out.later B0; rwa [HXL.out] at h) (show ArgS _ (.slice b yl cb) ys b cb by have h := HB.out.later (hb1.trans (B0.mono hb1.size)); rwa [HYL.out] at h) HN1.out HNB.out (by have := HXL.out; omega) (by have := HYL.out; omega)).mono ?_
 rintro e y1 ⟨r2, rfl, R2, hy⟩
 have B1 : Below w1.heap.size w1 y1 := B0.trans (hy.mono B0.size)
 have D1 := hy
 clear hy
 rw [HZS.out] at R2
 obtain ⟨a2, k2, rfl, R2p, A2, n2⟩ := R2.slice
 obtain ⟨zl, hzl2⟩ : ∃ n, zs.length = n := ⟨_, rfl⟩
 rw [hzl2] at A2 ⊢
 have HZL := Lib.hid hzl2
 clear R2 R2p hzl2
 go_simp
 refine hK.out _ _ ?kp1c3 (fun hHeld => ?mp1c3)
 case kp1c3 =>
  try dsimp only
  exact mkS _ B1
 clear hK K
 try simp only [Act.put, nD, nE, nF]
 refine wpAnyH_ready (rs := [4]) (by kernel_rfl) (by simp) ?_
 refine AllReadyH.cons rfl (fun K hK => ?sp2c4) AllReadyH.nil
 go_simp
 refine (offsetS_any (show ArgS y1 (.slice d ll cd) L d cd by have h := HD.out.later (hb1.trans (B1.mono hb1.size)); rwa [HLL.out] at h) (show ArgS y1 (.slice a2 zl k2) zs a2 k2 by have h := A2; have e := HZL.out; rwa [← e] at h ⊢) HND.out n2 (by have := HLL.out; omega) (by omega)).mono ?_
 rintro e y2 ⟨rfl, hy⟩
 have B2 : Below w1.heap.size w1 y2 := B1.trans (hy.mono B1.size)
 have D2 := hy
 clear hy
 rw [HOC.out, HOV.out]
 go_simp
 refine hK.out _ _ ?kp2c4 (fun hHeld => ?mp2c4)
 case kp2c4 =>
  try dsimp only
  exact mkS _ B2
 clear hK K
 try simp only [Act.put, nD, nE, nF]
 refine todo [5, 6, 7, 8, 9] ?_
 iterate 5
  refine todoH (v := ?_) rfl (by kernel_rfl) (fun _ _ _ h => h) (by assumption) (Or.inl ⟨by rfl, ?_⟩) ?_
  rotate_left
  · intro w hSw; (try dsimp only at hSw); go_simp; (try with_reducible rfl)
  try simp only [Act.put, nA, nB, nC, nD, nE, nF]
 refine todone ?_
 refine wpAnyH_done (by kernel_rfl) ?_ _
 go_wp2_with fail
 go_ret
 exact ⟨rfl, hb1.trans (B2.mono hb1.size)⟩
structure PosC (base : Nat) (w : World) (s ys : List Int) (a b d : Option Addr) (ca cb cd g1 g2 g3 : Nat) : Prop where
 r1 : Row w g1 23 #[.slice a s.length ca]
 r2 : Row w g2 23 #[.slice d (dropS s ys).length cd]
 r3 : Row w g3 22 #[.slice b ys.length cb]
 res : ResS base w (.slice d (dropS s ys).length cd) (dropS s ys)
 l1 : base ≤ g1
 l2 : base ≤ g2
 l3 : base ≤ g3
theorem PosC.later {base : Nat} {w w' : World} {s ys : List Int} {a b d : Option Addr} {ca cb cd g1 g2 g3 : Nat} (h : PosC base w s ys a b d ca cb cd g1 g2 g3) (hb : Below w.heap.size w w') : PosC base w' s ys a b d ca cb cd g1 g2 g3 :=
 ⟨h.r1.later hb, h.r2.later hb, h.r3.later hb, h.res.later hb, h.l1, h.l2, h.l3⟩
theorem ResS.keptT {base g : Nat} {w w' : World} {u : Value} {zs : List Int} {t : TypeId} {cs : Array Value} (h : ResS base w u zs) (R : Row w g t cs) (ht : t ≠ 3) (k : Kept g w w') : ResS base w' u zs := by
 obtain ⟨⟨h1, h2⟩, h3⟩ := h
 refine ⟨⟨h1, ?_⟩, h3⟩
 rcases h2 with h2 | ⟨g', cap, cur, rfl, hb, hg, hr⟩
 · exact .inl h2
 · refine .inr ⟨g', cap, cur, rfl, hb, (k.block g' (lt_of_block hg) ?_).trans hg, hr⟩
   rintro rfl
   have e := hg.symm.trans R
   injection e with e
   injection e with _ e
   exact ht e.symm
theorem PosC.kept {base g : Nat} {w w' : World} {s ys : List Int} {a b d : Option Addr} {ca cb cd g1 g2 g3 : Nat} {t : TypeId} {cs : Array Value} (h : PosC base w s ys a b d ca cb cd g1 g2 g3) (R : Row w g t cs) (ht : t ≠ 3) (k : Kept g w w') (hg : g < base) : PosC base w' s ys a b d ca cb cd g1 g2 g3 :=
 ⟨h.r1.kept k (by have := h.l1; omega), h.r2.kept k (by have := h.l2; omega), h.r3.kept k (by have := h.l3; omega), h.res.keptT R ht k, h.l1, h.l2, h.l3⟩
theorem position_any {w : World} {s ys : List Int} {a b : Option Addr} {ca cb : Nat} (A : ArgS w (.slice a s.length ca) s a ca) (na : a = none → ca = 0) (B : ArgS w (.slice b ys.length cb) ys b cb) (nb : b = none → cb = 0) (hs : s.length ≤ 1000000) (hy : ys.length ≤ 1000000) :
 Calls Tryz.prog 85 #[.slice a s.length ca, .slice b ys.length cb] w fun e w' => ∃ g1 g2 g3 d cd, e = .returned (.func (.func 127) #[] #[.pointer (some ⟨g1, 0, none⟩), .pointer (some ⟨g2, 0, none⟩), .pointer (some ⟨g3, 0, none⟩)]) ∧
  PosC w.heap.size w' s ys a b d ca cb cd g1 g2 g3 ∧ Below w.heap.size w w' := by
 obtain ⟨W, hW⟩ : ∃ W, ((w.alloc (.cells #[.slice a s.length ca] 23)).alloc (.cells #[.slice b ys.length cb] 22)) = W := ⟨_, rfl⟩
 have R0 : Row W w.heap.size 23 #[.slice a s.length ca] := by rw [← hW]; exact (Row.new _ _ _).alloc _
 have R1 : Row W (w.heap.size + 1) 22 #[.slice b ys.length cb] := by rw [← hW]; have h := Row.new (w.alloc (.cells #[.slice a s.length ca] 23)) 22 #[.slice b ys.length cb]; simp only [World.size_alloc] at h; exact h
 have hBW : Below w.heap.size w W := by rw [← hW]; exact ((Below.refl _ _).alloc (Nat.le_refl _) _).alloc (by simp) _
 have hsW : w.heap.size ≤ W.heap.size := hBW.size
 have hd := dropC_any (A.later hBW) (B.later hBW) na nb (by omega) (by omega)
 have hmf : ∀ (fn : Fn) (first cap : Array Value) (w : World), (Instr.makeFunc fn first cap).run Tryz.prog w = .ok (.func fn first cap) w := fun _ _ _ _ => rfl
 obtain ⟨L, hL⟩ : ∃ L, dropS s ys = L := ⟨_, rfl⟩
 rw [hL] at hd
 have HL := Lib.hid hL
 obtain ⟨sl, hsl⟩ : ∃ n, s.length = n := ⟨_, rfl⟩
 obtain ⟨yl, hyl⟩ : ∃ n, ys.length = n := ⟨_, rfl⟩
 have HSL := Lib.hid hsl
 have HYL := Lib.hid hyl
 rw [hsl] at R0 hW hd ⊢
 rw [hyl] at R1 hW hd ⊢
 have c0 := R0.cell 0
 have c1 := R1.cell 0
 clear A B hL hsl hyl
 go_enter Tryz.func85, Tryz.ntmps85
 (try rw [hW])
 go_wp2_with fail
 (try rw [hW])
 clear hW
 refine hd.mono ?_
 rintro e w1 ⟨r1, rfl, R2, hb1⟩
 obtain ⟨d, cd, rfl, R2', -, -⟩ := R2.slice
 obtain ⟨ll, hll⟩ : ∃ n, L.length = n := ⟨_, rfl⟩
 have HLL := Lib.hid hll
 rw [hll] at R2' ⊢
 clear R2 hll hd
 have s1 := hb1.size
 obtain ⟨V, hV⟩ : ∃ V, w1.alloc (.cells #[.slice d ll cd] 23) = V := ⟨_, rfl⟩
 have RV : Row V w1.heap.size 23 #[.slice d ll cd] := by rw [← hV]; exact Row.new _ _ _
 have bV : Below w1.heap.size w1 V := by rw [← hV]; exact (Below.refl _ _).alloc (Nat.le_refl _) _
 have hd1 : Below W.heap.size W V := hb1.trans (bV.mono s1)
 have P0 := R0.later hd1
 have P1 := R1.later hd1
 have PR := (R2'.later bV).mono hsW
 have HRV := Lib.hid RV
 clear c0 c1
 go_wp2_with fail
 (try rw [hV])
 go_ret
 refine ⟨_, _, _, d, cd, rfl, ⟨?_, ?_, ?_, ?_, Nat.le_refl _, by omega, by omega⟩, hBW.trans (hd1.mono hsW)⟩
 · rw [HSL.out]; exact P0
 · rw [HL.out, HLL.out]; exact HRV.out
 · rw [HYL.out]; exact P1
 · rw [HL.out, HLL.out]; exact PR
end
section
open Go.RowKit
theorem ResQ.keptT {base g n : Nat} {w w' : World} {u : Value} {x : Rat} {t : TypeId} {cs : Array Value} (h : ResQ base w u x n) (R : Row w g t cs) (ht : t ≠ 144) (k : Kept g w w') : ResQ base w' u x n := by
 have key : ∀ {v : Value} {zs : List Int} {m : Int}, Res base w v zs m → Res base w' v zs m := fun {v zs m} h => by
  refine ⟨?_, h.wf, h.full, h.eq⟩
  obtain ⟨h1, h2⟩ := h.num
  refine ⟨h1, ?_⟩
  rcases h2 with h2 | ⟨g', cap, cur, rfl, hb, hg, hr⟩
  · exact .inl h2
  · refine .inr ⟨g', cap, cur, rfl, hb, (k.block g' (lt_of_block hg) ?_).trans hg, hr⟩
    rintro rfl
    have e := hg.symm.trans R
    injection e with e
    injection e with _ e
    exact ht e.symm
 obtain ⟨zs, ys, ad, bd, ca, cb, rfl, A, B, h⟩ := h
 exact ⟨zs, ys, ad, bd, ca, cb, rfl, key A, key B, h⟩
theorem OwnE.keptT {base g : Nat} {T : TypeId} {w w' : World} {v : Value} {es : List E3} {t : TypeId} {cs : Array Value} (h : OwnE base T w v es) (R : Row w g t cs) (ht : t ≠ T) (k : Kept g w w') : OwnE base T w' v es := h.same fun k' hk' => by
 refine k.block k' (h.lt k' hk').2 fun e => ?_
 subst e
 obtain ⟨cur, hc⟩ := h.typed hk'
 have := hc.symm.trans R
 simp only [Option.some.injEq, Obj.cells.injEq] at this
 exact ht this.2.1.symm
theorem RowO.keptT {α : Type} {base g : Nat} {T : TypeId} {P : World → Value → α → Prop} {w w' : World} {u : Value} {L : List α} {t : TypeId} {cs : Array Value} (h : RowO base T P w u L) (R : Row w g t cs) (ht : t ≠ T) (k : Kept g w w') (hP : ∀ v x, P w v x → P w' v x) : RowO base T P w' u L := by
 obtain ⟨es, h1, h2⟩ := h
 exact ⟨es, h1.keptT R ht k, h2.imp fun v x _ => hP v x⟩
theorem OwnE.hits10 {base : Nat} {T : TypeId} {w : World} {v : Value} {es : List E3} (h : OwnE base T w v es) (hb : base ≤ w.heap.size) : ∃ r, (v.ownBlock = none ∨ v.ownBlock = some r) ∧ base ≤ r ∧ (∀ g t cs, Row w g t cs → t ≠ T → g ≠ r) ∧ ∀ A, A < w.heap.size → v.ownBlock ≠ some A → A ≠ r := by
 have hlt := h.lt
 cases e : v.ownBlock with
 | none => exact ⟨w.heap.size, .inl rfl, hb, (fun g t cs R _ => by have := R.lt; omega), fun A hA _ => by omega⟩
 | some r =>
  refine ⟨r, .inr rfl, (hlt r e).1, (fun g t cs R ht he => ?_), fun A _ h2 he => h2 (by rw [he])⟩
  subst he
  obtain ⟨cur, hc⟩ := h.typed e
  have := hc.symm.trans R
  simp only [Option.some.injEq, Obj.cells.injEq] at this
  exact ht this.2.1.symm
theorem Kept.grew {G : Nat} {W X w1 : World} {o : Obj} {v : Value} (h : Kept G W X) (hg : (X.alloc o).grownBy w1 v.ownBlock) (hv : ∀ k, v.ownBlock = some k → W.heap.size ≤ k) : Kept G W w1 := by
 have h2 : Kept G W (X.alloc o) := h.alloc o
 refine ⟨hg.os.trans h2.os, hg.tape.trans h2.tape, hg.output.trans h2.output, Nat.le_trans h2.size hg.size, fun k hk hr => ?_⟩
 rw [hg.block k (Nat.lt_of_lt_of_le hk h2.size) (fun e => by have := hv k e.symm; omega)]
 exact h2.block k hk hr
structure PartsQ (lo base N G : Nat) (w : World) (vs : List Value) (ls : List (List Rat)) : Prop where
 row : Row w G 24 vs.toArray
 len : vs.length = ls.length
 each : ∀ (i : Nat) v l, vs[i]? = some v → ls[i]? = some l → RowO lo 54 (fun W v x => ResQ base W v x N) w v l
 apart : ∀ (i j : Nat) u v g, vs[i]? = some u → vs[j]? = some v → u.ownBlock = some g → v.ownBlock = some g → i = j
theorem PartsQ.later {lo base N G : Nat} {w w' : World} {vs : List Value} {ls : List (List Rat)} (h : PartsQ lo base N G w vs ls) (hb : Below w.heap.size w w') : PartsQ lo base N G w' vs ls :=
 ⟨h.row.later hb, h.len, fun i v l h1 h2 => (h.each i v l h1 h2).later hb fun _ _ k => k.later hb, h.apart⟩
theorem PartsQ.at {lo base N G : Nat} {w : World} {vs : List Value} {ls : List (List Rat)} (h : PartsQ lo base N G w vs ls) {i : Nat} (hi : i < ls.length) : ∃ v l, vs[i]? = some v ∧ ls[i]? = some l ∧ w.cell? ⟨G, i, none⟩ = some v ∧ RowO lo 54 (fun W v x => ResQ base W v x N) w v l := by
 have hv : i < vs.length := by rw [h.len]; exact hi
 refine ⟨vs[i], ls[i], List.getElem?_eq_getElem hv, List.getElem?_eq_getElem hi, ?_, h.each i _ _ (List.getElem?_eq_getElem hv) (List.getElem?_eq_getElem hi)⟩
 rw [h.row.cell i]
 simp [hv]
theorem PartsQ.made (lo base N : Nat) (w : World) (m : Nat) : PartsQ lo base N w.heap.size (w.alloc (.cells (madeCells #[.slice none 0 0] m) 24)) (List.replicate m (.slice none 0 0)) (List.replicate m []) := by
 have e : (madeCells #[.slice none 0 0] m : Array Value) = (List.replicate m (Value.slice none 0 0)).toArray := by
  apply Array.ext
  · simp [madeCells]
  · intro i h1 h2
    simp [madeCells, Nat.mod_one]
 rw [e]
 refine ⟨Row.new _ _ _, by simp, fun i v l h1 h2 => ?_, fun i j u v g h1 h2 h3 h4 => ?_⟩
 · have e1 := List.eq_of_mem_replicate (List.mem_of_getElem? h1)
   have e2 := List.eq_of_mem_replicate (List.mem_of_getElem? h2)
   subst e1
   subst e2
   exact RowO.nil _ _ _ _
 · have e1 := List.eq_of_mem_replicate (List.mem_of_getElem? h1)
   subst e1
   cases h3
theorem PartsQ.push {lo base N G j g cap : Nat} {X w1 : World} {o : Obj} {vs : List Value} {ls : List (List Rat)} {v : Value} {l : List Rat} {es : List E3} {e : E3} {x : Rat} (h : PartsQ lo base N G X vs ls) (hv : vs[j]? = some v) (hl : ls[j]? = some l)
 (hown : OwnE lo 54 X v es) (hall : AllE (fun u x => ResQ base X u x N) es l) (hx : ResQ base X e.agg x N) (hlo : lo ≤ X.heap.size) (hG : G < lo)
 (hown' : w1.ownsRow lo 54 3 (.slice (some ⟨g, 0, none⟩) (es.length + 1) cap) (es.length + 1) (flat3 es ++ [e.a, e.b, e.c])) (hgrow : (X.alloc o).grownBy w1 v.ownBlock) (hg : v.ownBlock = some g ∨ g = (X.alloc o).heap.size) :
 PartsQ lo base N G (w1.setCell ⟨G, j, none⟩ (.slice (some ⟨g, 0, none⟩) (es.length + 1) cap)) (vs.set j (.slice (some ⟨g, 0, none⟩) (es.length + 1) cap)) (ls.set j (l ++ [x])) := by
 have hjv : j < vs.length := by
  rcases Nat.lt_or_ge j vs.length with k | k
  · exact k
  · rw [List.getElem?_eq_none k] at hv; cases hv
 have hjl : j < ls.length := by rw [← h.len]; exact hjv
 obtain ⟨h1, _⟩ := pushE (P := fun W v x => ResQ base W v x N) (Below.refl lo X) hlo hown hall hx (fun u y k => ResQ.apart hown hgrow (by decide) k) hown' hgrow
 have R1 : Row w1 G 24 vs.toArray := by
  refine (hgrow.block G (by have := h.row.lt; simp; omega) fun e => ?_).trans ((Below.heap_alloc _ _ _ h.row.lt).trans h.row)
  have := (hown.lt G e.symm).1
  omega
 refine ⟨?_, by rw [List.length_set, List.length_set, h.len], fun i u k hu hk => ?_, fun i i' u u' g' hu hu' e1 e2 => ?_⟩
 · have := R1.set j (.slice (some ⟨g, 0, none⟩) (es.length + 1) cap)
   simpa using this
 · have kk : ∀ k, k ≠ G → (w1.setCell ⟨G, j, none⟩ (.slice (some ⟨g, 0, none⟩) (es.length + 1) cap)).heap[k]? = w1.heap[k]? := fun k hk => Below.heap_setCell _ _ _ _ hk
   by_cases e : i = j
   · subst e
     rw [List.getElem?_set_self hjv] at hu
     rw [List.getElem?_set_self hjl] at hk
     cases hu
     cases hk
     exact h1.far R1 (by decide) kk (fun v y k => k.far R1 (by decide) kk)
   · rw [List.getElem?_set_ne (Ne.symm e)] at hu hk
     obtain ⟨ez, hz, haz⟩ := h.each i u k hu hk
     have h2 : RowO lo 54 (fun W v x => ResQ base W v x N) w1 u k := by
      refine ⟨ez, hz.same fun k' hk' => ?_, haz.imp fun u y _ k => ResQ.apart hown hgrow (by decide) k⟩
      have hlt := (hz.lt k' hk').2
      exact (hgrow.block k' (by simp; omega) (fun e' => e (h.apart i j u v k' hu hv hk' e'.symm))).trans (Below.heap_alloc _ _ _ hlt)
     exact h2.far R1 (by decide) kk (fun v y k => k.far R1 (by decide) kk)
 · have key : ∀ (i : Nat) u, i ≠ j → vs[i]? = some u → u.ownBlock ≠ some g := fun i u hne hu e => by
    obtain ⟨k, hk⟩ : ∃ k, ls[i]? = some k := by
     have hi : i < vs.length := by
      rcases Nat.lt_or_ge i vs.length with k | k
      · exact k
      · rw [List.getElem?_eq_none k] at hu; cases hu
     exact ⟨_, List.getElem?_eq_getElem (by rw [← h.len]; exact hi)⟩
    obtain ⟨ez, hz, _⟩ := h.each i u k hu hk
    have hlt := (hz.lt g e).2
    rcases hg with hg | hg
    · exact hne (h.apart i j u v g hu hv e hg)
    · simp at hg; omega
   by_cases e : i = j
   · by_cases e' : i' = j
     · omega
     · subst e
       rw [List.getElem?_set_self hjv] at hu
       rw [List.getElem?_set_ne (Ne.symm e')] at hu'
       cases hu
       have : g' = g := by simpa [Value.ownBlock] using e1.symm
       subst this
       exact absurd e2 (key i' u' e' hu')
   · by_cases e' : i' = j
     · subst e'
       rw [List.getElem?_set_self hjv] at hu'
       rw [List.getElem?_set_ne (Ne.symm e)] at hu
       cases hu'
       have : g' = g := by simpa [Value.ownBlock] using e2.symm
       subst this
       exact absurd e1 (key i u e hu)
     · rw [List.getElem?_set_ne (Ne.symm e)] at hu
       rw [List.getElem?_set_ne (Ne.symm e')] at hu'
       exact h.apart i i' u u' g' hu hu' e1 e2
def partsL (fm : Nat → Nat) (L : List Rat) (m k : Nat) : List (List Rat) := (List.range m).map fun i => partL fm L i k
theorem partsL_len (fm : Nat → Nat) (L : List Rat) (m k : Nat) : (partsL fm L m k).length = m := by simp [partsL]
theorem partsL_at (fm : Nat → Nat) (L : List Rat) (m k : Nat) {i : Nat} (hi : i < m) : (partsL fm L m k)[i]? = some (partL fm L i k) := by
 unfold partsL
 rw [List.getElem?_map, List.getElem?_range hi]; rfl
theorem partsL_zero (fm : Nat → Nat) (L : List Rat) (m : Nat) : partsL fm L m 0 = List.replicate m [] := by
 apply List.ext_getElem
 · simp [partsL]
 · intro i h1 h2
   simp [partsL, partL]
theorem partsL_next (fm : Nat → Nat) (L : List Rat) (m k : Nat) {x : Rat} (hx : L[k]? = some x) (hj : fm k < m) : partsL fm L m (k + 1) = (partsL fm L m k).set (fm k) (partL fm L (fm k) k ++ [x]) := by
 have e : L[k]?.getD 0 = x := by rw [hx]; rfl
 apply List.ext_getElem
 · simp [partsL]
 · intro i h1 h2
   have hi : i < m := by simpa [partsL] using h1
   rw [List.getElem_set]
   by_cases e2 : fm k = i
   · rw [if_pos e2]
     subst e2
     simp [partsL, partL, e]
   · rw [if_neg e2]
     simp [partsL, partL, e2]
theorem infoSQ : (Tryz.prog.info? 24).map (fun i => (i.zero, i.size, i.bytes)) = some (some (.slice none 0 0), 1, 24) := by kernel_rfl
theorem make_parts (m : Nat) (hc : m ≤ 1000000) (w : World) :
 (Instr.makeSlice 121 (.int .i64 (m : Int)) (.int .i64 (m : Int))).run Tryz.prog w = .ok (.slice (some ⟨w.heap.size, 0, none⟩) m m) (w.alloc (.cells (madeCells #[.slice none 0 0] m) 24)) := by
 obtain ⟨i0, hi, hz0, hz1, hz2⟩ := info_parts infoSQ
 have h := run_make (P := Tryz.prog) w 121 24 i0 (.slice none 0 0) Tryz.underlying121 hi hz0 .i64 .i64 m m (by omega) (by omega) (by rw [hz2]; omega) (by omega)
 simpa [hz1, Value.cells] using h
theorem field_elems (x0 : Option Addr) (x1 x2 : Nat) (x3 : Option Addr) (x4 x5 : Nat) (w : World) : (Instr.field 26 (.agg #[.slice x0 x1 x2, .slice x3 x4 x5]) 1).run Tryz.prog w = .ok (.slice x3 x4 x5) w := by kernel_rfl
end
section
open Go.RowKit Go.Shelf
attribute [local go_sem] Oper.semAt_some
structure KpR (g1 g2 : Nat) (A B : World) : Prop where
 b1 : B.heap[g1]? = A.heap[g1]?
 b2 : B.heap[g2]? = A.heap[g2]?
theorem KpR.refl (g1 g2 : Nat) (A : World) : KpR g1 g2 A A := ⟨rfl, rfl⟩
theorem KpR.trans {g1 g2 : Nat} {A B C : World} (h : KpR g1 g2 A B) (k : KpR g1 g2 B C) : KpR g1 g2 A C := ⟨k.b1.trans h.b1, k.b2.trans h.b2⟩
theorem KpR.b {g1 g2 : Nat} {w : World} (h1 : g1 < w.heap.size) (h2 : g2 < w.heap.size) (W : World) (l : Nat) (o o' : Obj) (hl : w.heap.size ≤ l) (h : W.heap[l]? = some o) (_ : o.isCells = false) (_ : o.isWalk = false) : KpR g1 g2 W (W.putObj l o') :=
 ⟨World.putObj_heap_other (by omega), World.putObj_heap_other (by omega)⟩
theorem KpR.below {g1 g2 B : Nat} {A C : World} (h : Below B A C) (h1 : g1 < B) (h2 : g2 < B) : KpR g1 g2 A C := ⟨h.block _ h1, h.block _ h2⟩
def rowAt (b o cap wd : Nat) {n : Nat} (x : Fin n) : Array Value := #[.slice (some ⟨b, o + x.val * wd * 3, none⟩) wd (cap - x.val * wd)]
theorem rows1_in (n l g1 g2 : Nat) (b o cap R wd : Nat) (hwd : 1 ≤ wd) (hm : R * wd ≤ 1000000) (hcap : R * wd ≤ cap) (J Jx : List (Fin R) → World → Prop)
 (hY : ∀ pre x W, J pre W → pre.length < R → YieldAt Fence.wide (n - 1) Tryz.prog l (rowAt b o cap wd x) W fun e W' =>
  (e = .returned (.bool true) ∧ J (pre ++ [x]) W' ∧ KpR g1 g2 W W') ∨ (e = .returned (.bool false) ∧ Jx (pre ++ [x]) W'))
 (W : World) (h1 : W.cell? ⟨g1, 1, none⟩ = some (.slice (some ⟨b, o, none⟩) (R * wd) cap)) (h2 : W.cell? ⟨g2, 0, none⟩ = some (.int .i64 (wd : Int))) (h0 : J [] W) :
 CallsIn Fence.wide n Tryz.prog 141 #[.func (.yield l) #[] #[], .pointer (some ⟨g1, 0, none⟩), .pointer (some ⟨g2, 0, none⟩)] W fun e W' => (∃ v, e = .returned v) ∧
  ((∃ ys, Upto ys R ∧ J ys W') ∨ (∃ pre, (∃ k, k ≤ R ∧ Upto pre k) ∧ Jx pre W')) := by
 obtain ⟨M, hM⟩ : ∃ M, R * wd = M := ⟨_, rfl⟩
 rw [hM] at hm hcap h1
 have HM := Lib.hid hM
 clear hM
 refine callsIn_of_wp Tryz.func141 rfl trivial ?_ rfl
 simp only [Tryz.ntmps141, List.size_toArray, List.length_cons, List.length_nil, Nat.reduceAdd, Nat.reduceSub, Array.replicate_succ, Array.replicate_zero, List.push_toArray, List.append_toArray, List.nil_append, List.cons_append]
 gi_wp2_with fail
 gi_loopw [4] (fun i wr => ∃ (k f : Nat) (pre : List (Fin R)), k ≤ R ∧ i = .int .i64 (f : Int) ∧ Hid (f = k * wd) ∧ Upto pre k ∧ J pre wr ∧ KpR g1 g2 W wr)
  (fun i _ => M - (intOf i).toNat)
 case atStart => exact ⟨0, 0, [], Nat.zero_le _, rfl, Lib.hid (by omega), rfl, h0, KpR.refl _ _ _⟩
 case round =>
  obtain ⟨k, f, pre, hk, rfl, hf, hup, hJs, hnx⟩ := hrel
  have c1 := (World.cell?_of_block (a := ⟨g1, 1, none⟩) hnx.b1).trans h1
  have c2 := (World.cell?_of_block (a := ⟨g2, 0, none⟩) hnx.b2).trans h2
  have hfM : (k < R → f + wd ≤ M) ∧ (k = R → f = M) := by
   have e1 := hf.out
   have e2 := HM.out
   refine ⟨fun h => ?_, fun h => by rw [e1, h, e2]⟩
   have := Nat.mul_le_mul_right wd (show k + 1 ≤ R by omega)
   rw [Nat.succ_mul] at this
   omega
  by_cases hlt : k < R
  · have hfl := hfM.1 hlt
    have hltI : (f : Int) < (M : Int) := by omega
    obtain ⟨fn, tmps, assign, body, hy, hR⟩ := hY pre ⟨k, hlt⟩ wr hJs (by rw [hup.length]; exact hlt)
    simp only [rowAt] at hy
    rw [← hf.out] at hy
    have hHY := Lib.hid hY
    have e3 : wrap64 ((f : Int) + (wd : Int)) = ((f + wd : Nat) : Int) := by unfold wrap64; omega
    have b0 : (0 : Int) ≤ (f : Int) := by clear e3; omega
    have b1 : (f : Int) ≤ ((f + wd : Nat) : Int) := by clear e3; omega
    have b2 : ((f + wd : Nat) : Int) ≤ (cap : Int) := by clear e3; omega
    have b3 : ¬ cap = f := by clear e3; omega
    have b4 : f + wd - f = wd := by clear e3; omega
    clear hY hfM
    gi_wp2_with fail
    refine ⟨(fun h => by cases h), hR.mono ?_⟩
    rintro e W3 (⟨rfl, hJ3, hk3⟩ | ⟨rfl, hJx3⟩)
    · have c3 := (World.cell?_of_block (a := ⟨g2, 0, none⟩) (hnx.trans hk3).b2).trans h2
      gi_wp2
      go_roundw
      case rel => exact ⟨k + 1, f + wd, _, by omega, by go_num, Lib.hid (by rw [hf.out, Nat.succ_mul]), hup.snoc hlt, hJ3, hnx.trans hk3⟩
      case measure => simp [intOf]; omega
    · gi_wp2
      refine bodyPost_ret (results_none rfl _ _ _) rfl ?_
      exact ⟨⟨_, rfl⟩, .inr ⟨_, ⟨k + 1, by omega, hup.snoc hlt⟩, hJx3⟩⟩
  · obtain rfl : k = R := by omega
    obtain rfl := hfM.2 rfl
    have hltI : ¬ (f : Int) < (f : Int) := by omega
    gi_wp2
    go_end0
    exact ⟨⟨_, rfl⟩, .inl ⟨_, hup, hJs⟩⟩
theorem rows1_stops (n g1 g2 : Nat) (b o cap R wd : Nat) (hwd : 1 ≤ wd) (hm : R * wd ≤ 1000000) (hcap : R * wd ≤ cap) (w : World) (hg1 : g1 < w.heap.size) (hg2 : g2 < w.heap.size)
 (h1 : w.cell? ⟨g1, 1, none⟩ = some (.slice (some ⟨b, o, none⟩) (R * wd) cap)) (h2 : w.cell? ⟨g2, 0, none⟩ = some (.int .i64 (wd : Int))) :
 SeqStopsK Fence.wide n Tryz.prog 141 #[.pointer (some ⟨g1, 0, none⟩), .pointer (some ⟨g2, 0, none⟩)] (rowAt b o cap wd (n := R)) (KpR g1 g2) (fun ys => Upto ys R) (fun pre => ∃ k, k ≤ R ∧ Upto pre k) R w := fun l J Jx W hW hJ _ hY h0 =>
 rows1_in n l g1 g2 b o cap R wd hwd hm hcap J Jx hY W ((hW.cell (p := ⟨g1, 1, none⟩) hg1).trans h1) ((hW.cell (p := ⟨g2, 0, none⟩) hg2).trans h2) h0
theorem rows_any {w : World} {s : List Int} {a b : Option Addr} {ca m cb : Nat} (A : ArgS w (.slice a s.length ca) s a ca) (h2 : 2 ≤ s.length) :
 Calls Tryz.prog 97 #[.agg #[.slice a s.length ca, .slice b m cb]] w fun e w' => e = .returned (.func (.func 141) #[] #[.pointer (some ⟨w.heap.size, 0, none⟩), .pointer (some ⟨w.heap.size + 1, 0, none⟩)]) ∧
  Row w' w.heap.size 26 #[.slice a s.length ca, .slice b m cb] ∧ Row w' (w.heap.size + 1) 3 #[.int .i64 (s.getD 1 0)] ∧ Below w.heap.size w w' ∧ w'.heap.size = w.heap.size + 1 + 1 := by
 have hmf : ∀ (fn : Fn) (first cap : Array Value) (w : World), (Instr.makeFunc fn first cap).run Tryz.prog w = .ok (.func fn first cap) w := fun _ _ _ _ => rfl
 obtain ⟨b1, o1, rfl, c1⟩ := A.at (i := 1) (by omega)
 obtain ⟨x, hx⟩ : ∃ x, s.getD 1 0 = x := ⟨_, rfl⟩
 obtain ⟨sl, hsl⟩ : ∃ n, s.length = n := ⟨_, rfl⟩
 rw [hx] at c1
 rw [hsl] at h2
 rw [hx, hsl]
 have j1 : 1 < sl := by omega
 obtain ⟨W, hW⟩ : ∃ W, w.alloc (.cells #[.slice (some ⟨b1, o1, none⟩) sl ca, .slice b m cb] 26) = W := ⟨_, rfl⟩
 have R0 : Row W w.heap.size 26 #[.slice (some ⟨b1, o1, none⟩) sl ca, .slice b m cb] := by rw [← hW]; exact Row.new _ _ _
 have bW : Below w.heap.size w W := by rw [← hW]; exact (Below.refl _ _).alloc (Nat.le_refl _) _
 have sW : W.heap.size = w.heap.size + 1 := by rw [← hW]; simp
 have c1' := (bW.cell (World.block_lt_of_cell? _ _ c1)).trans c1
 obtain ⟨p0, p1, _, _⟩ := R0.two
 have HSW := Lib.hid sW
 clear A hx hsl c1 sW
 go_enter Tryz.func97, Tryz.ntmps97
 (try rw [hW])
 go_wp2_with fail
 (try rw [hW])
 go_ret
 refine ⟨by rw [← HSW.out]; rfl, R0.alloc _, by rw [← HSW.out]; exact Row.new _ _ _, bW.alloc bW.size _, by rw [World.size_alloc, HSW.out]⟩
end
end Go.Proofs.YtengpgodmbfmkaaGreat
