/-
  Part 20 of 39: contracts and what they rest on (SRefD, SRefE, SRefF, SFacts, SCode3, SIter).
-/
import Derived.Test.YtengpgodmbfmkaaGreatG17
import Derived.Test.YtengpgodmbfmkaaGreatG18
namespace Go.Proofs.YtengpgodmbfmkaaGreat
set_option linter.unusedVariables false
set_option linter.unusedSimpArgs false
set_option maxRecDepth 100000
set_option maxHeartbeats 40000000
section
open Go.RowKit
def grownL (f t : List Int) : Nat → List Int
 | 0 => []
 | j + 1 => grownL f t j ++ (if backS f (t.length - j) = backS t (t.length - j) then [] else [(j : Int)])
def grownS (f t : List Int) : List Int := if fitC f t = 0 then grownL f t t.length else []
def dropL (s axes : List Int) : Nat → List Int
 | 0 => []
 | j + 1 => dropL s axes j ++ (if (j : Int) ∈ axes then [] else [s.getD j 0])
def dropS (s axes : List Int) : List Int := dropL s axes s.length
def onesL (s axes : List Int) : Nat → List Int
 | 0 => []
 | j + 1 => onesL s axes j ++ [if (j : Int) ∈ axes then 1 else s.getD j 0]
theorem dropL_le (s axes : List Int) (j : Nat) : (dropL s axes j).length ≤ j := by
 induction j with
 | zero => simp [dropL]
 | succ j ih =>
   simp only [dropL, List.length_append]
   by_cases h : (j : Int) ∈ axes
   · rw [if_pos h]; simp only [List.length_nil]; omega
   · rw [if_neg h]; simp only [List.length_cons, List.length_nil]; omega
end
section
open Go.RowKit
theorem step_copyS {ops : Array Oper} {rest : List Oper} {o : Oper} {a : Act} {w : World} {Q : Exit → Act → World → Prop} (hg : o.guard = none) (t : Nat) (T : TypeId) (hT : Tryz.prog.underlying T = some (.slice 3))
 (hop : o.op = Op.call { callee := Callee.builtin Builtin.append, args := #[Operand.const (.slice none 0 0), Operand.tmp t], argTypes := #[T, T] }) {xs : List Int} {ad : Option Addr} {cap : Nat} {u : Value} (hx : a.eval (.tmp t) = u)
 (hA : ArgS w u xs ad cap) (hn : ad = none → cap = 0) (hl : xs.length ≤ 17592186044416)
 (h : ∀ v' w1, ResS w.heap.size w1 v' xs → Below w.heap.size w w1 → wpList Tryz.prog ops Q rest (a.put o.dst v') w1) : wpList Tryz.prog ops Q (o :: rest) a w := by
 obtain ⟨i0, hi, hz0, hz1, hz2⟩ := info_parts infoS
 have hnil := World.ownsRow_nil w w.heap.size 3 1
 obtain ⟨rfl, lx, hle, wx⟩ := hA
 cases ad with
 | none =>
   have hc := hn rfl
   subst hc
   have hxs : xs = [] := List.eq_nil_of_length_eq_zero (by omega)
   subst hxs
   exact wpList_append_own_none hg (.const (.slice none 0 0)) (.tmp t) T hop w.heap.size 3 i0 1 hT hi (.slice none 0 0) 0 [] rfl hnil hx (h _ _ ⟨hnil, wx⟩ (Below.refl _ _))
 | some ad =>
   refine wpList_append_own w hg (.const (.slice none 0 0)) (.tmp t) T hop w.heap.size 3 i0 (.int .i64 0) 1 8 hT hi hz0 hz1 hz2 rfl (by decide) (.slice none 0 0) 0 [] rfl hnil ad xs.length cap (xs.map (Value.int .i64)) hx (by simp) (cells_argS (cap := cap) lx) (ints_oneCell _ _) (by unfold maxLen; omega) (by omega) (Nat.le_refl _) ?_
   intro v' w1 hown hgrow _
   refine h v' w1 ⟨?_, wx⟩ ((Below.refl _ w).grown hgrow (Nat.le_refl _) (fun k hk => by cases hk))
   unfold NumS
   simpa using hown
theorem zeros_wid (n : Nat) : Wid (List.replicate n 0) := fun x hx => by rw [List.eq_of_mem_replicate hx]; omega
theorem inS_wid {s xs : List Int} (h : inS s xs) (hs : Wid s) : Wid xs := by
 intro x hx
 obtain ⟨i, hi, rfl⟩ := List.getElem_of_mem hx
 have hl := inS_length h
 have h1 := inS_at h (i := i) (by omega)
 have h2 := hs.getD i
 have e : xs.getD i 0 = xs[i] := by simp [hi]
 rw [e] at h1
 omega
theorem back_at {xs : List Int} {L m : Nat} (hl : xs.length = L) (hm : m < L) : (xs.take (m + 1) ++ List.replicate (L - (m + 1)) 0).length = L ∧ (xs.take (m + 1) ++ List.replicate (L - (m + 1)) (0 : Int)).getD m 0 = xs.getD m 0 ∧
 ∀ y : Int, (xs.take (m + 1) ++ List.replicate (L - (m + 1)) (0 : Int)).set m y = xs.take m ++ (y :: List.replicate (L - (m + 1)) 0) := by
 have h1 : (xs.take (m + 1)).length = m + 1 := by rw [List.length_take]; omega
 refine ⟨by rw [List.length_append, h1, List.length_replicate]; omega, ?_, fun y => ?_⟩
 · rw [List.getD_eq_getElem?_getD, List.getElem?_append_left (by omega), List.getElem?_take, if_pos (by omega), List.getD_eq_getElem?_getD]
 · rw [take_next (by omega), List.append_assoc, List.set_append_right _ _ (by rw [List.length_take]; omega), List.length_take, Nat.min_eq_left (by omega), Nat.sub_self]
   rfl
def NextP (base : Nat) (w : World) (s xs : List Int) (r : Value) (t : Bool) : Prop := (∃ ys, nextS s xs = some ys ∧ t = true ∧ ResS base w r ys) ∨ (nextS s xs = none ∧ t = false)
def NextA (base : Nat) (w : World) (s xs : List Int) (e : Ending) : Prop := ∃ r t, e = .returned (.tuple #[r, .bool t]) ∧ NextP base w s xs r t
theorem nextR_any {u v : Value} {s xs : List Int} {a b : Option Addr} {ca cb : Nat} {w : World} (A : ArgS w u s a ca) (B : ArgS w v xs b cb) (hn : b = none → cb = 0) (ok : OkS s) (hin : inS s xs) :
 Calls Tryz.prog 95 #[u, v] w fun e w' => NextA w.heap.size w' s xs e ∧ Below w.heap.size w w' := by
 have HA := Lib.hid A
 have HB := Lib.hid B
 have HO := Lib.hid ok
 have HI := Lib.hid hin
 have hlen := inS_length hin
 have HN := Lib.hid hn
 have B' := B
 obtain rfl := A.is
 obtain rfl := B.is
 obtain ⟨L, hL⟩ : ∃ L, s.length = L := ⟨_, rfl⟩
 have hL2 : xs.length = L := by rw [hlen]; exact hL
 have HL := Lib.hid hL
 have HL2 := Lib.hid hL2
 have h4 : L ≤ 4 := by rw [← hL]; exact ok.rank
 rw [hL2] at B'
 rw [hL, hL2]
 clear A B ok hin hlen hn hL hL2
 go_enter Tryz.func95, Tryz.ntmps95
 go_wp2_with (at_builtin; refine step_copyS rfl _ 22 Tryz.underlying22 rfl rfl B' HN.out (by have := HL2.out; omega) ?_; intro r w1 R1 hb1)
 have hs1 := hb1.size
 rcases Nat.eq_zero_or_pos L with h0 | hpos
 · subst h0
   have e1 : s = [] := List.eq_nil_of_length_eq_zero HL.out
   have e2 : xs = [] := List.eq_nil_of_length_eq_zero HL2.out
   subst e1
   subst e2
   have HR := Lib.hid R1
   clear R1 B'
   go_wp2
   go_loop [7] (fun i => i = .int .i64 (-1)) (fun _ => 0)
   case atStart => first | rfl | trivial
   case round =>
    subst hrel
    go_wp2
    go_ret2
    exact ⟨⟨_, _, rfl, .inr ⟨rfl, rfl⟩⟩, hb1⟩
 · have hne : xs ≠ [] := by intro e; rw [e] at HL2; have := HL2.out; simp at this; omega
   obtain ⟨g, cap, rfl, hg, hcap, hP⟩ := R1.num.partS hne
   have hLI : (1 : Int) ≤ (L : Int) := by omega
   have hL4 : (L : Int) ≤ 4 := by omega
   have HCP := Lib.hid hcap
   have HP0 := Lib.hid hP
   have hLcap : (xs.length : Nat) = L := HL2.out
   rw [hLcap]
   clear R1 B' hne hP hcap hLcap
   go_wp2
   go_loopw [7] (fun i wr => ∃ j : Nat, i = .int .i64 ((j : Int) - 1) ∧ j ≤ L ∧ PartS wr g cap (xs.take j ++ List.replicate (L - j) 0) ∧ nextS (s.drop j) (xs.drop j) = none ∧ Below w.heap.size w wr) (fun i _ => (intOf i + 1).toNat)
   case atStart =>
    refine ⟨L, by go_num, Nat.le_refl _, ?_, ?_, hb1⟩
    · rw [take_all HL2.out, Nat.sub_self]; simpa using HP0.out
    · rw [List.drop_of_length_le (by rw [HL.out]; exact Nat.le_refl _)]; rfl
   case round =>
    obtain ⟨j, rfl, hjL, hp, hnx, hb⟩ := hrel
    have hsz := hb.size
    have HNX := Lib.hid hnx
    clear hnx
    rcases Nat.eq_zero_or_pos j with h0 | hj
    · subst h0
      have hi : (((0 : Nat) : Int) - 1) = -1 := by omega
      rw [hi]
      have HNX2 := Lib.hid (show nextS s xs = none by have := HNX.out; simpa using this)
      clear hp
      go_wp2
      go_ret2
      exact ⟨⟨_, _, rfl, .inr ⟨HNX2.out, rfl⟩⟩, hb⟩
    · obtain ⟨m, rfl⟩ : ∃ m, j = m + 1 := ⟨j - 1, by omega⟩
      have hi : (((m + 1 : Nat) : Int) - 1) = (m : Int) := by omega
      rw [hi]
      obtain ⟨l1, l2, l3⟩ := back_at (xs := xs) (L := L) (m := m) HL2.out (by omega)
      have hc := hp.cell m (by omega)
      have hf := hp.free m
      rw [l2] at hc
      obtain ⟨b1, o1, rfl, hc1⟩ := (HA.out.later hb).at (i := m) (by rw [HL.out]; omega)
      have hx := inS_at HI.out (i := m) (by rw [HL.out]; omega)
      have hle := getD_le_prod HO.out.pos (k := m) (by rw [HL.out]; omega)
      have hfew := HO.out.few
      have hnd := next_drop (s := s) (xs := xs) (by rw [HL.out, HL2.out]) (i := m) (by rw [HL.out]; omega) HNX.out
      obtain ⟨x, hxe⟩ : ∃ x, xs.getD m 0 = x := ⟨_, rfl⟩
      obtain ⟨d, hde⟩ : ∃ d, s.getD m 0 = d := ⟨_, rfl⟩
      rw [hxe] at hc hx hnd
      rw [hde] at hc1 hx hle hnd
      rw [HL.out] at hnd
      obtain ⟨hx0, hx1⟩ := hx
      have hdI : d ≤ 1024 := by omega
      have hmL : 0 ≤ (m : Int) ∧ (m : Int) < (L : Int) := by omega
      have hm0 : (0 : Int) ≤ (m : Int) := by omega
      have hmLI : (m : Int) < (L : Int) := by omega
      have HPT := Lib.hid hp
      have HL3 := Lib.hid l3
      have HL1 := Lib.hid l1
      have HND := Lib.hid hnd
      clear hxe hde hle hfew hnd hp l1 l2 l3
      by_cases hlt : x + 1 < d
      · have hset := HPT.out.set m (by rw [HL1.out]; omega) (x + 1)
        rw [HL3.out] at hset
        have hnext : nextS s xs = some (xs.take m ++ ((x + 1) :: List.replicate (L - (m + 1)) 0)) := by
         refine next_some (by rw [HL.out, HL2.out]) (by rw [HL.out]; omega) ?_
         rw [HND.out, if_pos hlt]
        have HSET := Lib.hid hset
        have HNE := Lib.hid hnext
        clear hset hnext
        go_wp2
        go_quiet (fail)
        go_wp2
        go_ret2
        refine ⟨⟨_, _, rfl, .inl ⟨_, HNE.out, rfl, ?_⟩⟩, ?_⟩
        · have hq : PartS ((wr.drewN nq).setCell ⟨g, m, none⟩ (.int .i64 (x + 1))) g cap (xs.take m ++ ((x + 1) :: List.replicate (L - (m + 1)) 0)) := by
           have h1 : PartS (wr.drewN nq) g cap (xs.take (m + 1) ++ List.replicate (L - (m + 1)) 0) := HPT.out.same rfl
           have h2 := h1.set m (by rw [HL1.out]; omega) (x + 1)
           rwa [HL3.out] at h2
          have hlen : (xs.take m ++ ((x + 1) :: List.replicate (L - (m + 1)) 0)).length = L := by
           have := HL1.out
           have h3 := congrArg List.length (HL3.out (x + 1))
           rw [List.length_set] at h3
           omega
          have hnum := hq.num hg HCP.out
          rw [hlen] at hnum
          refine ⟨hnum, ?_⟩
          have hw1 : Wid xs := HB.out.wf
          refine (hw1.take m).append ?_
          intro y hy
          rcases List.mem_cons.1 hy with h | h
          · omega
          · exact zeros_wid _ y h
        · exact (hb.trans (belowS_drew _ _ _)).setCell (p := ⟨g, m, none⟩) hg _
      · have hset := HPT.out.set m (by rw [HL1.out]; omega) 0
        rw [HL3.out] at hset
        go_wp2
        go_quiet (fail)
        go_wp2
        go_roundw
        case rel =>
         refine ⟨m, by go_num, by omega, ?_, by rw [HND.out, if_neg (by omega)], (hb.trans (belowS_drew _ _ _)).setCell (p := ⟨g, m, none⟩) hg _⟩
         have h1 : PartS (wr.drewN nq) g cap (xs.take (m + 1) ++ List.replicate (L - (m + 1)) 0) := HPT.out.same rfl
         have h2 := h1.set m (by rw [HL1.out]; omega) 0
         rw [HL3.out] at h2
         rw [show L - m = (L - (m + 1)) + 1 by omega, List.replicate_succ]
         exact h2
        case measure => simp [intOf] <;> omega
end
section
open Go.RowKit
theorem make_runS (n : Nat) (hc : n ≤ 17592186044416) (w : World) :
 (Instr.makeSlice 22 (.int .i64 (n : Int)) (.int .i64 (n : Int))).run Tryz.prog w = .ok (.slice (some ⟨w.heap.size, 0, none⟩) n n) (w.alloc (.cells (madeCells #[.int .i64 0] n) 3)) := by
 obtain ⟨i0, hi, hz0, hz1, hz2⟩ := info_parts infoS
 have h := run_make (P := Tryz.prog) w 22 3 i0 (.int .i64 0) Tryz.underlying22 hi hz0 .i64 .i64 n n (by omega) (by omega) (by rw [hz2]; omega) (by omega)
 simpa [hz1, Value.cells] using h
theorem zeroS (base : Nat) (w : World) (n : Nat) (hb : base ≤ w.heap.size) (hn : n ≤ 17592186044416) : ResS base (w.alloc (.cells (madeCells #[.int .i64 0] n) 3)) (.slice (some ⟨w.heap.size, 0, none⟩) n n) (List.replicate n 0) := by
 have := NumS.ofBlk (BlkS.made w n) hb n (by simp) (by simp; unfold maxLen; omega)
 rw [List.length_replicate, List.take_of_length_le (by simp)] at this
 exact ⟨this, zeros_wid n⟩
def allS (s : List Int) (k : Nat) : List (List Int) := (List.range k).map fun i : Nat => idxS s (i : Int)
theorem allS_length (s : List Int) (k : Nat) : (allS s k).length = k := by simp [allS]
theorem allS_at (s : List Int) {k i : Nat} (h : i < k) : (allS s k).getD i [] = idxS s (i : Int) := by
 unfold allS
 rw [List.getD_eq_getElem?_getD, List.getElem?_map, List.getElem?_range h]; rfl
theorem allS_next (s : List Int) (k : Nat) : allS s (k + 1) = allS s k ++ [idxS s (k : Int)] := by
 unfold allS
 rw [List.range_succ, List.map_append]; rfl
theorem rowsOne {base : Nat} {w : World} {u : Value} {xs : List Int} (R : ResS base w u xs) (hb : base ≤ w.heap.size) : RowsS base (w.alloc (.cells #[u] 22)) (.slice (some ⟨w.heap.size, 0, none⟩) 1 1) [xs] := by
 refine ⟨[u], ?_, rfl, fun i hi => ?_⟩
 · exact ⟨rfl, .inr ⟨w.heap.size, 1, #[u], rfl, hb, heap_alloc_new w _, Nat.le_refl _, by unfold maxLen; omega, by simp, by simp⟩⟩
 · simp only [List.length_cons, List.length_nil] at hi
   obtain rfl : i = 0 := by omega
   exact ⟨u, rfl, R.later ((Below.refl _ _).alloc (Nat.le_refl _) _)⟩
theorem indexesR_any {u : Value} {s : List Int} {a : Option Addr} {ca : Nat} {w : World} (A : ArgS w u s a ca) (ok : OkS s) :
 Calls Tryz.prog 52 #[u] w fun e w' => ∃ r, e = .returned r ∧ RowsS w.heap.size w' r (allS s (prodS s).toNat) ∧ Below w.heap.size w w' := by
 obtain ⟨i0, hi, hz0, hz1, hz2⟩ := info_parts infoSl
 have HA := Lib.hid A
 have HO := Lib.hid ok
 have h4 := ok.rank
 have hP1 := prodS_pos ok.pos
 have hP2 := ok.few
 obtain rfl := A.is
 obtain ⟨L, hL⟩ : ∃ L, s.length = L := ⟨_, rfl⟩
 have HL := Lib.hid hL
 obtain ⟨P, hP⟩ : ∃ P : Nat, (prodS s).toNat = P := ⟨_, rfl⟩
 have hPI : prodS s = (P : Int) := by omega
 have HPI := Lib.hid hPI
 have hP3 : 1 ≤ P := by omega
 have hP4 : P ≤ 1024 := by omega
 have hmk := make_runS L (by omega)
 rw [hL] at h4 ⊢
 rw [hP]
 have hz1 : ∀ h1 : i0.size = 1, True := fun _ => trivial
 have ok1 : RowsS w.heap.size ((w.alloc (.cells (madeCells #[.int .i64 0] L) 3)).alloc (.cells #[.slice (some ⟨w.heap.size, 0, none⟩) L L] 22)) (.slice (some ⟨w.heap.size + 1, 0, none⟩) 1 1) (allS s 1) := by
  have h := rowsOne (zeroS w.heap.size w L (Nat.le_refl _) (by omega)) (by simp)
  have e : allS s 1 = [List.replicate L 0] := by
   show [idxS s ((0 : Nat) : Int)] = _
   rw [show ((0 : Nat) : Int) = 0 from rfl, idx_zero, hL]
  rw [e]
  simpa using h
 have OK1 := Lib.hid ok1
 have hb1 : Below w.heap.size w ((w.alloc (.cells (madeCells #[.int .i64 0] L) 3)).alloc (.cells #[.slice (some ⟨w.heap.size, 0, none⟩) L L] 22)) := ((Below.refl _ w).alloc (Nat.le_refl _) _).alloc (by simp) _
 have HB1 := Lib.hid hb1
 clear A ok hL hP hPI hP1 hP2 hz1 ok1 hb1
 obtain ⟨i0, hi, hz0, hz1, hz2⟩ := info_parts infoSl
 go_enter Tryz.func52, Tryz.ntmps52
 go_wp2
 go_loopw [3] (fun v wr => ∃ k : Nat, 1 ≤ k ∧ k ≤ P ∧ RowsS w.heap.size wr v (allS s k) ∧ Below w.heap.size w wr) (fun v _ => P - (match v with | .slice _ n _ => n | _ => 0))
 case atStart => exact ⟨1, Nat.le_refl _, hP3, OK1.out, HB1.out⟩
 case round =>
  obtain ⟨k, hk1, hkP, R, hb⟩ := hrel
  have hsz := hb.size
  obtain ⟨g, cap, rfl, hg, hkc, hcap, hcells⟩ := R.slice (by intro e; have := congrArg List.length e; rw [allS_length] at this; simp at this; omega)
  rw [allS_length] at hkc hcells R ⊢
  obtain ⟨m, rfl⟩ : ∃ m, k = m + 1 := ⟨k - 1, by omega⟩
  obtain ⟨uv, hcu, RU⟩ := hcells m (by omega)
  rw [allS_at s (by omega)] at RU
  obtain ⟨bd, cb, rfl, RU', BU, hbn⟩ := RU.slice
  obtain ⟨hin, hpl⟩ := place_idx HO.out.pos (n := (m : Int)) (by omega) (by rw [HPI.out]; omega)
  have hnext := nextR_any (HA.out.later hb) BU hbn HO.out hin
  obtain ⟨n1, n2⟩ := next_idx hin
  rw [hpl, HPI.out] at n1 n2
  have hil : (idxS s (m : Int)).length = L := by rw [idx_length, HL.out]
  rw [hil] at hnext hcu
  rw [HL.out] at hnext
  have hmI : ((m + 1 : Nat) : Int) - 1 = (m : Int) := by omega
  have hmi2 : (m : Int) < ((m + 1 : Nat) : Int) := by omega
  have hm0 : (0 : Int) ≤ (m : Int) := by omega
  have HR := Lib.hid R
  have HN1 := Lib.hid n1
  have HN2 := Lib.hid n2
  clear R RU RU' BU hcells hpl hin n1 n2 hil hbn
  go_wp2_with fail
  refine hnext.mono ?_
  rintro e w2 ⟨⟨r2, t2, rfl, hnp⟩, hb2⟩
  have hB2 := hb.trans (hb2.mono hsz)
  have hs2 := hB2.size
  by_cases hlt : m + 1 < P
  · have hsome := HN1.out (by omega)
    have hr2 : t2 = true ∧ ResS w.heap.size w2 r2 (idxS s ((m + 1 : Nat) : Int)) := by
     rcases hnp with ⟨ys, h1, h2, h3⟩ | ⟨h1, _⟩
     · rw [hsome] at h1
       obtain rfl := Option.some.inj h1
       exact ⟨h2, by have := h3.mono hsz; simpa using this⟩
     · rw [hsome] at h1; cases h1
    obtain ⟨rfl, RR⟩ := hr2
    obtain ⟨bd2, cb2, rfl, RR', _, _⟩ := RR.slice
    obtain ⟨vals, v1, v2, v3⟩ := HR.out.later hb2
    have hvl : vals.length = m + 1 := by rw [v2, allS_length]
    rw [hvl] at v1
    have hl2 : (idxS s ((m + 1 : Nat) : Int)).length = L := by rw [idx_length, HL.out]
    rw [hl2] at RR'
    rw [hl2]
    have HV := Lib.hid (And.intro v1 (And.intro v2 v3))
    have HRR := Lib.hid RR'
    have hml : m + 1 ≤ 1024 := by omega
    clear hnp hsome RR v2 v3 hnext hl2 RR'
    go_wp2_with (at_builtin; refine wpList_append_own _ rfl _ _ 84 rfl w.heap.size 22 i0 (.slice none 0 0) 1 24 Tryz.underlying84 hi hz0 hz1 hz2 rfl (by decide) _ _ _ rfl (v1.alloc _) ⟨w2.heap.size, 0, none⟩ 1 1 [.slice bd2 L cb2] rfl rfl (cell_one_new _ _ _) (by simp [Value.oneCell']) (by unfold maxLen; omega) (by omega) (by simp; omega) ?_; intro v' w3 hown' hgrow _)
    obtain ⟨v1, v2, v3⟩ := HV.out
    have hpush := pushRow (xs := idxS s ((m + 1 : Nat) : Int)) hB2 hs2 (by rw [hvl]; exact v1) v2 v3 HRR.out (by rw [hvl]; exact hown') hgrow
    rw [← allS_next] at hpush
    obtain ⟨hrow, hb3⟩ := hpush
    obtain ⟨g3, c3, rfl, _⟩ := hrow.slice (by intro e; have := congrArg List.length e; rw [allS_length] at this; simp at this)
    rw [allS_length] at hrow ⊢
    go_roundw
    case rel => exact ⟨m + 1 + 1, by omega, by omega, hrow, hb3⟩
    case measure => simp; omega
  · have hnone := HN2.out (by omega)
    obtain rfl : t2 = false := by
     rcases hnp with ⟨ys, h1, _⟩ | ⟨_, h2⟩
     · rw [hnone] at h1; cases h1
     · exact h2
    obtain rfl : P = m + 1 := by omega
    have HQ := Lib.hid (HR.out.later hb2)
    clear hnp hnone hnext
    go_wp2
    go_ret
    exact ⟨_, rfl, HQ.out, hB2⟩
def offC (s xs : List Int) : Int := if mayC s ≠ 0 then mayC s else if xs.length ≠ s.length then 2 else if inS s xs then 0 else 21
def offV (s xs : List Int) : Int := if offC s xs = 0 then placeS s xs else 0
theorem offC_may {s xs : List Int} (h : mayC s ≠ 0) : offC s xs = mayC s := by unfold offC; rw [if_pos h]
theorem offC_arg {s xs : List Int} (h : mayC s = 0) (h2 : xs.length ≠ s.length) : offC s xs = 2 := by unfold offC; rw [if_neg (by rw [h]; simp), if_pos h2]
theorem offC_in {s xs : List Int} (h : mayC s = 0) (h3 : inS s xs) : offC s xs = 0 := by unfold offC; rw [if_neg (by rw [h]; simp), if_neg (by rw [inS_length h3]; simp), if_pos h3]
theorem offC_out {s xs : List Int} (h : mayC s = 0) (h2 : xs.length = s.length) (h3 : ¬ inS s xs) : offC s xs = 21 := by unfold offC; rw [if_neg (by rw [h]; simp), if_neg (by rw [h2]; simp), if_neg h3]
theorem offV_in {s xs : List Int} (h : mayC s = 0) (h3 : inS s xs) : offV s xs = placeS s xs := by unfold offV; rw [if_pos (offC_in h h3)]
theorem offV_bad {s xs : List Int} (h : offC s xs ≠ 0) : offV s xs = 0 := by unfold offV; rw [if_neg h]
end
section
theorem getD_elem {p : List Int} {i : Nat} (h : i < p.length) : p.getD i 0 = p[i] := by simp [List.getD_eq_getElem?_getD, List.getElem?_eq_getElem h]
theorem back_pos {s : List Int} (ok : OkS s) {k : Nat} (h1 : 1 ≤ k) (h2 : k ≤ s.length) : 1 ≤ backS s k := by
 unfold backS
 rw [if_neg (by omega)]
 exact ok.pos.getD (by omega)
theorem back_zero {s : List Int} {k : Nat} (h : s.length < k) : backS s k = 0 := by unfold backS; rw [if_pos h]
theorem fitC_is {f t : List Int} (h : fitC f t = 0) : OkS f ∧ OkS t ∧ fitU f t f.length := by
 by_cases h1 : mayC f = 0
 · by_cases h2 : mayC t = 0
   · by_cases h3 : fitU f t f.length
     · exact ⟨mayC_zero.1 h1, mayC_zero.1 h2, h3⟩
     · rw [fitC_bad h1 h2 h3] at h; cases h
   · rw [fitC_to h1 h2] at h; exact absurd h h2
 · rw [fitC_from h1] at h; exact absurd h h1
theorem fitC_of {f t : List Int} (h1 : OkS f) (h2 : OkS t) (h3 : fitU f t f.length) : fitC f t = 0 := fitC_ok (mayC_ok h1) (mayC_ok h2) h3
theorem fit_len {f t : List Int} (h : fitC f t = 0) : f.length ≤ t.length := by
 obtain ⟨o1, o2, hu⟩ := fitC_is h
 rcases Nat.lt_or_ge t.length f.length with g | g
 · have := (hu f.length (by omega) (Nat.le_refl _)).1
   rw [back_zero g] at this
   exact absurd rfl this
 · exact g
theorem prod_two (s axes : List Int) (ps : posS s) (j : Nat) (hj : j ≤ s.length) : prodS (dropL s axes j) = prodS (onesL s axes j) ∧ prodS (onesL s axes j) ≤ prodS (s.take j) ∧ posS (onesL s axes j) ∧ posS (dropL s axes j) := by
 induction j with
 | zero => exact ⟨rfl, by simp [onesL, prodS], (fun x h => by simp [onesL] at h), (fun x h => by simp [dropL] at h)⟩
 | succ j ih =>
   obtain ⟨h1, h2, h3, h4⟩ := ih (by omega)
   have hx := ps.getD (i := j) (by omega)
   have p1 := prodS_pos h3
   simp only [onesL, dropL]
   rw [prodS_take (by omega), prodS_append, prodS_append]
   by_cases hm : (j : Int) ∈ axes
   · rw [if_pos hm, if_pos hm]
     simp only [prodS, Int.mul_one]
     have := Int.mul_le_mul_of_nonneg_left hx (show 0 ≤ prodS (s.take j) by have := prodS_pos (ps.take j); omega)
     refine ⟨h1, by omega, fun x h => ?_, fun x h => h4 x (by simpa using h)⟩
     rcases List.mem_append.1 h with h | h
     · exact h3 x h
     · rw [List.mem_singleton.1 h]; omega
   · rw [if_neg hm, if_neg hm]
     simp only [prodS, Int.mul_one]
     refine ⟨by rw [h1], Int.mul_le_mul_of_nonneg_right h2 (by omega), fun x h => ?_, fun x h => ?_⟩
     · rcases List.mem_append.1 h with h | h
       · exact h3 x h
       · rw [List.mem_singleton.1 h]; exact hx
     · rcases List.mem_append.1 h with h | h
       · exact h4 x h
       · rw [List.mem_singleton.1 h]; exact hx
theorem drop_ok {s : List Int} (axes : List Int) (h : OkS s) : OkS (dropS s axes) := by
 obtain ⟨h1, h2, _, h4⟩ := prod_two s axes h.pos s.length (Nat.le_refl _)
 rw [take_all rfl] at h2
 exact ⟨by have := dropL_le s axes s.length; have := h.rank; unfold dropS; omega, h4, by have := h.few; unfold dropS; omega⟩
end
section
open Go.RowKit
theorem back_to {t : List Int} {k : Nat} (h : k < t.length) : backS t (t.length - k) = t.getD k 0 := by
 unfold backS
 rw [if_neg (by omega), show t.length - (t.length - k) = k by omega]
theorem back_ahead {f t : List Int} {k : Nat} (h : k < t.length - f.length) : backS f (t.length - k) = 0 := by
 unfold backS
 rw [if_pos (by omega)]
theorem back_in {f t : List Int} {k : Nat} (hl : f.length ≤ t.length) (hk : k < t.length) (h : t.length - f.length ≤ k) : backS f (t.length - k) = f.getD (k - (t.length - f.length)) 0 := by
 unfold backS
 rw [if_neg (by omega), show f.length - (t.length - k) = k - (t.length - f.length) by omega]
def fitP (f t : List Int) (k : Nat) : Prop := ∀ i, i < k → t.length - f.length ≤ i → f.getD (i - (t.length - f.length)) 0 = t.getD i 0 ∨ f.getD (i - (t.length - f.length)) 0 = 1
theorem fitP.next {f t : List Int} {k : Nat} (h : fitP f t k) (h2 : t.length - f.length ≤ k → f.getD (k - (t.length - f.length)) 0 = t.getD k 0 ∨ f.getD (k - (t.length - f.length)) 0 = 1) : fitP f t (k + 1) := by
 intro i hi h3
 by_cases e : i = k
 · subst e; exact h2 h3
 · exact h i (by omega) h3
theorem fitP.all {f t : List Int} (ok : OkS t) (hl : f.length ≤ t.length) (h : fitP f t t.length) : fitU f t f.length := by
 intro j j1 j2
 refine ⟨by have := back_pos ok j1 (by omega); omega, ?_⟩
 have h3 := h (t.length - j) (by omega) (by omega)
 have e1 : backS f j = f.getD (t.length - j - (t.length - f.length)) 0 := by
  rw [← back_in hl (by omega) (by omega)]; congr 1; omega
 have e2 : backS t j = t.getD (t.length - j) 0 := by
  rw [← back_to (by omega)]; congr 1; omega
 rw [e1, e2]
 omega
theorem fitU.at {f t : List Int} (hl : f.length ≤ t.length) (h : fitU f t f.length) {k : Nat} (hk : k < t.length) (h2 : t.length - f.length ≤ k) : f.getD (k - (t.length - f.length)) 0 = t.getD k 0 ∨ f.getD (k - (t.length - f.length)) 0 = 1 := by
 have h3 := (h (t.length - k) (by omega) (by omega)).2
 rw [back_in hl hk h2, back_to hk] at h3
 omega
theorem fit_far {f t : List Int} (o1 : OkS f) (o2 : OkS t) (h : t.length < f.length) : fitC f t = 13 := by
 refine fitC_bad (mayC_ok o1) (mayC_ok o2) fun hu => ?_
 have := (hu f.length (by omega) (Nat.le_refl _)).1
 rw [back_zero h] at this
 exact this rfl
theorem grownS_bad {f t : List Int} (h : fitC f t ≠ 0) : grownS f t = [] := by unfold grownS; rw [if_neg h]
theorem grownS_ok {f t : List Int} (h : fitC f t = 0) : grownS f t = grownL f t t.length := by unfold grownS; rw [if_pos h]
theorem grown_any {u v : Value} {xs ys : List Int} {a b : Option Addr} {ca cb : Nat} {w : World} (A : ArgS w u xs a ca) (B : ArgS w v ys b cb) :
 Calls Tryz.prog 100 #[u, v] w fun e w' => ∃ r, e = .returned (.tuple #[r, .int .i64 (fitC xs ys)]) ∧ ResS w.heap.size w' r (grownS xs ys) ∧ Below w.heap.size w w' := by
 obtain ⟨i0, hi, hz0, hz1, hz2⟩ := info_parts infoS
 have HA := Lib.hid A
 have HB := Lib.hid B
 obtain rfl := A.is
 obtain rfl := B.is
 obtain ⟨c, hc⟩ : ∃ c, fitC xs ys = c := ⟨_, rfl⟩
 obtain ⟨r, hr⟩ : ∃ r, grownS xs ys = r := ⟨_, rfl⟩
 obtain ⟨F, hF⟩ : ∃ F, xs.length = F := ⟨_, rfl⟩
 obtain ⟨T, hT⟩ : ∃ T, ys.length = T := ⟨_, rfl⟩
 have HC := Lib.hid hc
 have HR := Lib.hid hr
 have HF := Lib.hid hF
 have HT := Lib.hid hT
 rw [hc, hr, hF, hT]
 clear A B hc hr hF hT
 go_enter Tryz.func100, Tryz.ntmps100
 go_wp2
 go_step3
 go_wp2
 have hbW : Below w.heap.size w (w.alloc (.cells #[.slice a F ca, .slice b T cb] 23)) := (Below.refl _ _).alloc (Nat.le_refl _) _
 have hc0 : (w.alloc (.cells #[.slice a F ca, .slice b T cb] 23)).cell? ⟨w.heap.size, 0, none⟩ = some (.slice a F ca) := cell_of_row _ _ 0 _ 23 (0, 0) (heap_alloc_new w _)
 have hc1 : (w.alloc (.cells #[.slice a F ca, .slice b T cb] 23)).cell? ⟨w.heap.size, 1, none⟩ = some (.slice b T cb) := cell_of_row _ _ 1 _ 23 (0, 0) (heap_alloc_new w _)
 obtain ⟨W, hW⟩ : ∃ W, w.alloc (.cells #[.slice a F ca, .slice b T cb] 23) = W := ⟨_, rfl⟩
 rw [hW] at hbW hc0 hc1 ⊢
 clear hW
 have hm1 := mayS_eq (HA.out.later hbW)
 have hm2 := mayS_eq (HB.out.later hbW)
 rw [HF.out] at hm1
 rw [HT.out] at hm2
 go_loop [7, 8, 17] (fun _ _ i => ∃ (k : Nat), i = .int .i64 (k : Int) ∧ k ≤ 2 ∧ (1 ≤ k → mayC xs = 0) ∧ (2 ≤ k → mayC ys = 0)) (fun _ _ i => 2 - (intOf i).toNat)
 case atStart => exact ⟨0, rfl, by omega, fun h => by omega, fun h => by omega⟩
 case round =>
  obtain ⟨k, rfl, hk, h1, h2⟩ := hrel
  rcases (show k = 0 ∨ k = 1 ∨ k = 2 by omega) with rfl | rfl | rfl
  · obtain ⟨m, hm⟩ : ∃ m, mayC xs = m := ⟨_, rfl⟩
    rw [hm] at hm1
    have HM := Lib.hid hm
    clear hm h1 h2
    by_cases h0 : m = 0
    · subst h0
      go_wp2_with (go_at_call 96; refine hm1.mono ?_; rintro e w1 ⟨rfl, rfl⟩)
      go_round
      case rel => exact ⟨1, by go_num, by omega, fun _ => HM.out, fun h => by omega⟩
      case measure => simp [intOf]
    · have hcc := fitC_from (f := xs) (t := ys) (by rw [HM.out]; exact h0)
      obtain rfl : c = m := by rw [← HC.out, hcc]; exact HM.out
      obtain rfl : r = [] := by rw [← HR.out]; exact grownS_bad (by rw [HC.out]; exact h0)
      have hne : (c != 0) = true := by simpa using h0
      clear hcc
      go_wp2_with (go_at_call 96; refine hm1.mono ?_; rintro e w1 ⟨rfl, rfl⟩)
      (try rw [Exit.noGoto_ret])
      go_ret2
      exact ⟨_, rfl, ResS.nil _ _, hbW⟩
  · obtain ⟨m, hm⟩ : ∃ m, mayC ys = m := ⟨_, rfl⟩
    have H1 := Lib.hid (h1 (by omega))
    rw [hm] at hm2
    have HM := Lib.hid hm
    clear hm h1 h2
    by_cases h0 : m = 0
    · subst h0
      go_wp2_with (go_at_call 96; refine hm2.mono ?_; rintro e w1 ⟨rfl, rfl⟩)
      go_round
      case rel => exact ⟨2, by go_num, by omega, fun _ => H1.out, fun _ => HM.out⟩
      case measure => simp [intOf]
    · have hcc := fitC_to (f := xs) (t := ys) H1.out (by rw [HM.out]; exact h0)
      obtain rfl : c = m := by rw [← HC.out, hcc]; exact HM.out
      obtain rfl : r = [] := by rw [← HR.out]; exact grownS_bad (by rw [HC.out]; exact h0)
      have hne : (c != 0) = true := by simpa using h0
      clear hcc
      go_wp2_with (go_at_call 96; refine hm2.mono ?_; rintro e w1 ⟨rfl, rfl⟩)
      (try rw [Exit.noGoto_ret])
      go_ret2
      exact ⟨_, rfl, ResS.nil _ _, hbW⟩
  · have o1 := mayC_zero.1 (h1 (by omega))
    have o2 := mayC_zero.1 (h2 (by omega))
    have l1 := o1.rank
    have l2 := o2.rank
    rw [HF.out] at l1
    rw [HT.out] at l2
    have O1 := Lib.hid o1
    have O2 := Lib.hid o2
    clear h1 h2 hm1 hm2 o1 o2
    have hnn : ¬ ((2 : Nat) : Int) < 2 := by omega
    by_cases hft : F ≤ T
    · obtain ⟨D, hD⟩ : ∃ D, T - F = D := ⟨_, rfl⟩
      have hDI : (T : Int) - (F : Int) = (D : Int) := by omega
      have hD0 : ¬ (D : Int) < 0 := by omega
      have HD := Lib.hid hD
      clear hD
      go_wp2
      go_step3
      go_wp2
      go_loopw [10, 11, 12, 36] (fun s _ _ i wr => ∃ (k : Nat) (zs : List Int), i = .int .i64 (k : Int) ∧ k ≤ T ∧ ResS w.heap.size wr s zs ∧ zs.length ≤ k ∧ grownL xs ys k = zs ∧ fitP xs ys k ∧ Below w.heap.size w wr) (fun _ _ _ i _ => T - (intOf i).toNat)
      case atStart => exact ⟨0, [], rfl, Nat.zero_le _, ResS.nil _ _, Nat.le_refl _, rfl, fun i hi => by omega, hbW⟩
      case round =>
       obtain ⟨k, zs, rfl, hk, R, hzl, hz, hfp, hb⟩ := hrel
       have hsz := hb.size
       have HZ := Lib.hid hz
       have HFP := Lib.hid hfp
       have HRES := Lib.hid R
       have hrow : wr.ownsRow w.heap.size 3 1 _ zs.length (zs.map (Value.int .i64)) := R.num
       clear hz hfp R
       by_cases hlt : k < T
       · obtain ⟨b2, o2, rfl, c2⟩ := (HB.out.later hb).at (i := k) (by rw [HT.out]; exact hlt)
         have hst : grownL xs ys (k + 1) = zs ++ (if backS xs (ys.length - k) = backS ys (ys.length - k) then [] else [(k : Int)]) := by simp only [grownL]; rw [HZ.out]
         rw [back_to (t := ys) (by rw [HT.out]; exact hlt)] at hst
         have hdp := O2.out.pos.getD (i := k) (by rw [HT.out]; exact hlt)
         obtain ⟨d, hde⟩ : ∃ d, ys.getD k 0 = d := ⟨_, rfl⟩
         rw [hde] at c2 hst hdp
         have HDE := Lib.hid hde
         have hltI : (k : Int) < (T : Int) := by omega
         clear hde
         by_cases hin : k < D
         · have hinI : (k : Int) < (D : Int) := by omega
           rw [back_ahead (f := xs) (t := ys) (by rw [HT.out, HF.out, HD.out]; exact hin), if_neg (by omega)] at hst
           have HST := Lib.hid hst
           have HN := Lib.hid (HFP.out.next fun h => by rw [HT.out, HF.out, HD.out] at h; omega)
           clear hst
           go_wp2_with (at_builtin; refine wpList_append_own _ rfl _ _ 22 rfl w.heap.size 3 i0 (.int .i64 0) 1 8 Tryz.underlying22 hi hz0 hz1 hz2 rfl (by decide) _ _ _ rfl (hrow.alloc _) ⟨wr.heap.size, 0, none⟩ 1 1 [.int .i64 (k : Int)] rfl rfl (cell_one_new _ _ _) (by simp [Value.oneCell']) (by unfold maxLen; omega) (by omega) (by simp; omega) ?_; intro v' w1 hown' hgrow _)
           go_roundw
           case rel =>
            obtain ⟨hn, hbw⟩ := pushS hb hsz HRES.out.num hown' hgrow
            exact ⟨k + 1, zs ++ [(k : Int)], by go_num, by omega, ⟨hn, HRES.out.wf.append (Wid.one (by omega))⟩, by rw [List.length_append]; simp only [List.length_cons, List.length_nil]; omega, HST.out, HN.out, hbw⟩
           case measure => simp [intOf]; omega
         · have hinI : ¬ (k : Int) < (D : Int) := by omega
           obtain ⟨j, hj⟩ : ∃ j, k - D = j := ⟨_, rfl⟩
           have hjI : (k : Int) - (D : Int) = (j : Int) := by omega
           have hjF : j < F := by have := HD.out; omega
           have hjFI : (j : Int) < (F : Int) := by omega
           obtain ⟨b1, o1, rfl, c1⟩ := (HA.out.later hb).at (i := j) (by rw [HF.out]; exact hjF)
           have hle : xs.length ≤ ys.length := by rw [HF.out, HT.out]; exact hft
           have hkk : ys.length - xs.length ≤ k := by rw [HT.out, HF.out, HD.out]; omega
           have hkt : k < ys.length := by rw [HT.out]; exact hlt
           have ej : k - (ys.length - xs.length) = j := by rw [HT.out, HF.out, HD.out]; exact hj
           rw [back_in hle hkt hkk, ej] at hst
           have hno : xs.getD j 0 ≠ d → xs.getD j 0 ≠ 1 → fitC xs ys = 13 := fun g1 g2 => fitC_bad (mayC_ok O1.out) (mayC_ok O2.out) fun hu => by
            have := hu.at hle hkt hkk
            rw [ej, HDE.out] at this
            omega
           have hyes : xs.getD j 0 = d ∨ xs.getD j 0 = 1 → fitP xs ys (k + 1) := fun g => HFP.out.next fun _ => by rw [ej, HDE.out]; exact g
           obtain ⟨x, hxe⟩ : ∃ x, xs.getD j 0 = x := ⟨_, rfl⟩
           rw [hxe] at c1 hst hno hyes
           have HNO := Lib.hid hno
           have HYES := Lib.hid hyes
           clear hno hyes hle hkk hkt ej hxe hj
           by_cases hxd : x = d
           · subst hxd
             rw [if_pos rfl, List.append_nil] at hst
             have HST := Lib.hid hst
             have heq : (x == x) = true := by simp
             clear hst
             go_wp2
             go_roundw
             case rel => exact ⟨k + 1, zs, by go_num, by omega, HRES.out, by omega, HST.out, HYES.out (.inl rfl), hb⟩
             case measure => simp [intOf]; omega
           · rw [if_neg hxd] at hst
             have HST := Lib.hid hst
             have heq : (x == d) = false := by simpa using hxd
             clear hst
             by_cases hx1 : x = 1
             · subst hx1
               go_wp2_with (at_builtin; refine wpList_append_own _ rfl _ _ 22 rfl w.heap.size 3 i0 (.int .i64 0) 1 8 Tryz.underlying22 hi hz0 hz1 hz2 rfl (by decide) _ _ _ rfl (hrow.alloc _) ⟨wr.heap.size, 0, none⟩ 1 1 [.int .i64 (k : Int)] rfl rfl (cell_one_new _ _ _) (by simp [Value.oneCell']) (by unfold maxLen; omega) (by omega) (by simp; omega) ?_; intro v' w1 hown' hgrow _)
               go_roundw
               case rel =>
                obtain ⟨hn, hbw⟩ := pushS hb hsz HRES.out.num hown' hgrow
                exact ⟨k + 1, zs ++ [(k : Int)], by go_num, by omega, ⟨hn, HRES.out.wf.append (Wid.one (by omega))⟩, by rw [List.length_append]; simp only [List.length_cons, List.length_nil]; omega, HST.out, HYES.out (.inr rfl), hbw⟩
               case measure => simp [intOf]; omega
             · have hcc := HNO.out hxd hx1
               obtain rfl : c = 13 := by rw [← HC.out]; exact hcc
               obtain rfl : r = [] := by rw [← HR.out]; exact grownS_bad (by rw [hcc]; decide)
               have hne : (x != 1) = true := by simpa using hx1
               clear hcc
               go_wp2
               (try rw [Exit.noGoto_ret])
               go_ret2
               exact ⟨_, rfl, ResS.nil _ _, hb⟩
       · obtain rfl : k = T := by omega
         have hu := fitP.all (f := xs) (t := ys) O2.out (by rw [HF.out, HT.out]; exact hft) (by rw [HT.out]; exact HFP.out)
         have hcc := fitC_of O1.out O2.out hu
         obtain rfl : c = 0 := by rw [← HC.out]; exact hcc
         have hrr : zs = r := by rw [← HR.out, grownS_ok hcc, HT.out]; exact HZ.out.symm
         subst hrr
         have hltI : ¬ (k : Int) < (k : Int) := by omega
         clear hu hcc
         go_wp2
         (try rw [Exit.noGoto_ret])
         go_ret2
         exact ⟨_, rfl, HRES.out, hb⟩
    · obtain rfl : c = 13 := by rw [← HC.out]; exact fit_far O1.out O2.out (by rw [HF.out, HT.out]; omega)
      obtain rfl : r = [] := by rw [← HR.out]; exact grownS_bad (by rw [HC.out]; decide)
      have hd : (T : Int) - (F : Int) < 0 := by omega
      go_wp2
      go_ret2
      exact ⟨_, rfl, ResS.nil _ _, hbW⟩
theorem fitsS_any {u v : Value} {xs ys : List Int} {a b : Option Addr} {ca cb : Nat} {w : World} (A : ArgS w u xs a ca) (B : ArgS w v ys b cb) (ha : a = none → ca = 0) (hb : b = none → cb = 0) (hx : xs.length ≤ 17592186044416) (hy : ys.length ≤ 17592186044416) :
 Calls Tryz.prog 58 #[u, v] w fun e w' => e = .returned (.int .i64 (fitC xs ys)) ∧ Below w.heap.size w w' := by
 have h := grown_any A B
 obtain rfl := A.is
 obtain rfl := B.is
 obtain ⟨c, hc⟩ : ∃ c, fitC xs ys = c := ⟨_, rfl⟩
 obtain ⟨z, hz⟩ : ∃ z, grownS xs ys = z := ⟨_, rfl⟩
 obtain ⟨n, hn⟩ : ∃ n, xs.length = n := ⟨_, rfl⟩
 obtain ⟨m, hm⟩ : ∃ n, ys.length = n := ⟨_, rfl⟩
 rw [hc, hz, hn, hm] at h
 rw [hc, hn, hm]
 clear A B ha hb hx hy hc hz hn hm
 go_enter Tryz.func58, Tryz.ntmps58
 go_wp2_with (go_at_call 100; refine h.mono ?_; rintro e w1 ⟨r, rfl, R, hb⟩)
 go_ret
 exact ⟨rfl, hb⟩
theorem grownC_any {u v : Value} {xs ys : List Int} {a b : Option Addr} {ca cb : Nat} {w : World} (A : ArgS w u xs a ca) (B : ArgS w v ys b cb) (ha : a = none → ca = 0) (hb : b = none → cb = 0) (hx : xs.length ≤ 17592186044416) (hy : ys.length ≤ 17592186044416) :
 Calls Tryz.prog 101 #[u, v] w fun e w' => ∃ r, e = .returned r ∧ ResS w.heap.size w' r (grownS xs ys) ∧ Below w.heap.size w w' := by
 have h := grown_any A B
 obtain rfl := A.is
 obtain rfl := B.is
 obtain ⟨c, hc⟩ : ∃ c, fitC xs ys = c := ⟨_, rfl⟩
 obtain ⟨z, hz⟩ : ∃ z, grownS xs ys = z := ⟨_, rfl⟩
 obtain ⟨n, hn⟩ : ∃ n, xs.length = n := ⟨_, rfl⟩
 obtain ⟨m, hm⟩ : ∃ n, ys.length = n := ⟨_, rfl⟩
 rw [hc, hz, hn, hm] at h
 rw [hz, hn, hm]
 clear A B ha hb hx hy hc hz hn hm
 go_enter Tryz.func101, Tryz.ntmps101
 go_wp2_with (go_at_call 100; refine h.mono ?_; rintro e w1 ⟨r, rfl, R, hb⟩)
 go_ret
 exact ⟨_, rfl, R, hb⟩
end
section
open Go.RowKit Go.Shelf
attribute [local go_sem] Oper.semAt_some
theorem wideCallS {n : Nat} {P : Program} {f : FuncId} {args : Array Value} {w : World} {R : Ending → World → Prop} (h : Calls P f args w R) :
 Fence.wide.fn f ∧ (Fence.wide.depth.isSome = true → 1 ≤ n) ∧ CallsIn Fence.wide (n - 1) P f args w R := ⟨trivial, (fun h => by cases h), callsIn_wide.2 h⟩
def numAt (xs : List Int) {n : Nat} (x : Fin n) : Array Value := #[.int .i64 (x.val : Int), .int .i64 (xs[x.val]?.getD 0)]
def DowntoS {n : Nat} (pre : List (Fin n)) (k : Nat) : Prop := pre.length = k ∧ ∀ i (h : i < pre.length), (pre[i]).val + i + 1 = n
theorem DowntoS.nil {n : Nat} : DowntoS ([] : List (Fin n)) 0 := ⟨rfl, fun i h => by simp at h⟩
theorem DowntoS.snoc {n k : Nat} {pre : List (Fin n)} (h : DowntoS pre k) (x : Fin n) (hx : x.val + k + 1 = n) : DowntoS (pre ++ [x]) (k + 1) := by
 obtain ⟨h1, h2⟩ := h
 refine ⟨by simp [h1], fun i hi => ?_⟩
 by_cases hlt : i < pre.length
 · rw [List.getElem_append_left hlt]; exact h2 i hlt
 · have : i = k := by simp at hi; omega
   subst this
   rw [List.getElem_append_right (by omega)]
   simp [h1, hx]
structure KpS (G Bs : Nat) (W W' : World) : Prop where
 below : Below G W W'
 box : W'.heap[Bs]? = W.heap[Bs]?
theorem KpS.refl (G Bs : Nat) (W : World) : KpS G Bs W W := ⟨Below.refl _ _, rfl⟩
theorem KpS.trans {G Bs : Nat} {A B C : World} (h : KpS G Bs A B) (k : KpS G Bs B C) : KpS G Bs A C := ⟨h.below.trans k.below, k.box.trans h.box⟩
theorem KpS.b {G Bs : Nat} {w : World} (hg : G ≤ w.heap.size) (hn : Bs < w.heap.size) (W : World) (l : Nat) (o o' : Obj) (hl : w.heap.size ≤ l) (h : W.heap[l]? = some o) (h1 : o.isCells = false) (h2 : o.isWalk = false) : KpS G Bs W (W.putObj l o') :=
 ⟨belowK_b hg W l o o' hl h h1 h2, World.putObj_heap_other (by omega)⟩
theorem backS1_in (n l Bs n₀ : Nat) (ad : Option Addr) (xs : List Int) (cap : Nat) (hm : xs.length ≤ 35184372088832) (hb : xs ≠ [] → ∀ a, ad = some a → a.block < n₀) (J Jx : List (Fin xs.length) → World → Prop)
 (hY : ∀ pre x W, J pre W → pre.length < xs.length → YieldAt Fence.wide (n - 1) Tryz.prog l (numAt xs x) W fun e W' =>
   (e = .returned (.bool true) ∧ J (pre ++ [x]) W' ∧ KpS n₀ Bs W W') ∨ (e = .returned (.bool false) ∧ Jx (pre ++ [x]) W'))
 (W : World) (hBs : W.cell? ⟨Bs, 0, none⟩ = some (.slice ad xs.length cap)) (hl : LimS W ad xs) (h0 : J [] W) :
 CallsIn Fence.wide n Tryz.prog 174 #[.func (.yield l) #[] #[], .pointer (some ⟨Bs, 0, none⟩)] W fun e W' => (∃ v, e = .returned v) ∧
  ((∃ ys, DowntoS ys xs.length ∧ J ys W') ∨ (∃ pre, (∃ k, k ≤ xs.length ∧ DowntoS pre k) ∧ Jx pre W')) := by
 refine callsIn_of_wp Tryz.func174 rfl trivial ?_ rfl
 simp only [Tryz.ntmps174, List.size_toArray, List.length_cons, List.length_nil, Nat.reduceAdd, Nat.reduceSub, Array.replicate_succ, Array.replicate_zero, List.push_toArray, List.append_toArray, List.nil_append, List.cons_append]
 gi_wp2_with fail
 gi_loopw [3] (fun i wr => ∃ (k : Nat) (pre : List (Fin xs.length)), k ≤ xs.length ∧ i = .int .i64 ((xs.length : Int) - 1 - k) ∧ DowntoS pre k ∧ J pre wr ∧ KpS n₀ Bs W wr)
  (fun i _ => (intOf i + 1).toNat)
 case atStart => exact ⟨0, [], Nat.zero_le _, by simp, DowntoS.nil, h0, KpS.refl _ _ _⟩
 case round =>
  obtain ⟨k, pre, hk, rfl, hdn, hJs, hnx⟩ := hrel
  have hBr := (World.cell?_of_block (a := ⟨Bs, 0, none⟩) hnx.box).trans hBs
  by_cases hlt : k < xs.length
  · rcases hl with rfl | ⟨b, off, rfl, hc⟩
    · simp at hlt
    · obtain ⟨j, hj⟩ : ∃ j, j + k + 1 = xs.length := ⟨xs.length - k - 1, by omega⟩
      have hji : ((xs.length : Int) - 1 - k) = (j : Int) := by omega
      rw [hji]
      have hjl : j < xs.length := by omega
      obtain ⟨fn, tmps, assign, body, hy, hR⟩ := hY pre ⟨j, hjl⟩ wr hJs (by rw [hdn.1]; exact hlt)
      simp only [numAt] at hy
      have hcx := (hnx.below.cell (p := ⟨b, off + j, none⟩) (hb (by rintro rfl; simp at hlt) ⟨b, off, none⟩ rfl)).trans (hc j (by omega))
      have ej : xs[j]?.getD 0 = xs[j] := by simp [hjl]
      rw [ej] at hy
      have HJ := Lib.hid hj
      clear hc hj hji ej
      gi_wp2
      refine ⟨(fun h => by cases h), hR.mono ?_⟩
      rintro e W3 (⟨rfl, hJ3, hk3⟩ | ⟨rfl, hJx3⟩)
      · gi_wp2
        go_roundw
        case rel => exact ⟨k + 1, _, by omega, by have := HJ.out; congr 1; omega, hdn.snoc ⟨j, hjl⟩ HJ.out, hJ3, hnx.trans hk3⟩
        case measure => simp [intOf]
      · gi_wp2
        refine bodyPost_ret (results_none rfl _ _ _) rfl ?_
        exact ⟨⟨_, rfl⟩, .inr ⟨_, ⟨k + 1, by omega, hdn.snoc ⟨j, hjl⟩ HJ.out⟩, hJx3⟩⟩
  · obtain rfl : k = xs.length := by omega
    have hji : ((xs.length : Int) - 1 - xs.length) = -1 := by omega
    rw [hji]
    clear hji
    gi_wp2
    go_end0
    exact ⟨⟨_, rfl⟩, .inl ⟨_, hdn, hJs⟩⟩
theorem backI_any (ad : Option Addr) (n cap : Nat) (w : World) :
 Calls Tryz.prog 155 #[.slice ad n cap] w fun e w' => e = .returned (.func (.func 174) #[] #[.pointer (some ⟨w.heap.size, 0, none⟩)]) ∧ w' = w.alloc (.cells #[.slice ad n cap] 23) := by
 go_enter Tryz.func155, Tryz.ntmps155
 go_wp2
 go_ret
 exact ⟨rfl, rfl⟩
theorem backI_stops (n Bs n₀ : Nat) (ad : Option Addr) (xs : List Int) (cap : Nat) (hm : xs.length ≤ 35184372088832) (hb : xs ≠ [] → ∀ a, ad = some a → a.block < n₀) (w : World) (hBs : Bs < w.heap.size)
 (hc : w.cell? ⟨Bs, 0, none⟩ = some (.slice ad xs.length cap)) (hl : LimS w ad xs) :
 SeqStopsK Fence.wide n Tryz.prog 174 #[.pointer (some ⟨Bs, 0, none⟩)] (numAt xs (n := xs.length)) (KpS n₀ Bs) (fun ys => DowntoS ys xs.length) (fun pre => ∃ k, k ≤ xs.length ∧ DowntoS pre k) xs.length w := fun l J Jx W hW _ _ hY h0 =>
 backS1_in n l Bs n₀ ad xs cap hm hb J Jx hY W ((hW.cell (p := ⟨Bs, 0, none⟩) hBs).trans hc) (hl.later hW) h0
theorem blkS_own {β : Type} (g : Nat) (f : β → List Int) : Own (fun s W => BlkS W g (f s)) := fun s X Y row hs hg hrow =>
 hs.grown hg (fun e' => by obtain ⟨o, ho, hc⟩ := hrow g e'.symm; rw [show X.heap[g]? = _ from hs] at ho; cases ho; cases hc)
theorem boxS_far {W : World} {B : Nat} {t : TypeId} {v : Value} (h : Boxed W B t v) {p : Addr} (hne : B ≠ p.block) (u : Value) : Boxed (W.setCell p u) B t v := (Below.heap_setCell _ _ _ _ hne).trans h
theorem ownS_and2 {β : Type} {I J : β → World → Prop} (h : Own I) (k : Own J) : Own (fun s W => I s W ∧ J s W) := fun s X Y row hs hg hr => ⟨h s X Y row hs.1 hg hr, k s X Y row hs.2 hg hr⟩
theorem BlkS.far {w : World} {g : Nat} {zs : List Int} (h : BlkS w g zs) {p : Addr} (hne : g ≠ p.block) (u : Value) : BlkS (w.setCell p u) g zs := h.same (Below.heap_setCell _ _ _ _ hne)
def downs (L k : Nat) : List Nat := (List.range k).map fun i => L - 1 - i
theorem downs_next (L k : Nat) : downs L (k + 1) = downs L k ++ [L - 1 - k] := by
 unfold downs
 rw [List.range_succ, List.map_append]; rfl
theorem DowntoS.downs {n k : Nat} {pre : List (Fin n)} (h : DowntoS pre k) : pre.map Fin.val = downs n k := by
 obtain ⟨h1, h2⟩ := h
 apply List.ext_getElem
 · simp [Proofs.YtengpgodmbfmkaaGreat.downs, h1]
 · intro i g1 g2
   have h3 := h2 i (by simpa using g1)
   simp only [List.getElem_map, Proofs.YtengpgodmbfmkaaGreat.downs, List.getElem_range]
   omega
end
end Go.Proofs.YtengpgodmbfmkaaGreat
