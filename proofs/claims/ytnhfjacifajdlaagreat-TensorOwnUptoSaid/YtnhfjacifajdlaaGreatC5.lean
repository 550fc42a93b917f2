/-
  slices.Backward over numbers: its contract. (As XBack has it for limbs.)
-/
import Derived.Test.YtnhfjacifajdlaaGreatC4
namespace Go.Proofs.YtnhfjacifajdlaaGreat
set_option maxRecDepth 100000
section
open Go.RowKit
set_option linter.unusedVariables false
set_option linter.unusedSimpArgs false
theorem make_runS (n : Nat) (hc : n ≤ 17592186044416) (w : World) :
    (Instr.makeSlice 22 (.int .i64 (n : Int)) (.int .i64 (n : Int))).run Tryz.prog w = .ok (.slice (some ⟨w.heap.size, 0, none⟩) n n) (w.alloc (.cells (madeCells #[.int .i64 0] n) 3)) := by
  obtain ⟨i0, hi, hz0, hz1, hz2⟩ := info_parts infoS
  have h := run_make (P := Tryz.prog) w 22 3 i0 (.int .i64 0) Tryz.underlying22 hi hz0 .i64 .i64 n n (by omega) (by omega) (by rw [hz2]; omega) (by omega)
  simpa [hz1, Value.cells] using h
theorem zeroS (base : Nat) (w : World) (n : Nat) (hb : base ≤ w.heap.size) (hn : n ≤ 17592186044416) : ResS base (w.alloc (.cells (madeCells #[.int .i64 0] n) 3)) (.slice (some ⟨w.heap.size, 0, none⟩) n n) (List.replicate n 0) := by
  have := NumS.ofBlk (BlkS.made w n) hb n (by simp) (by simp; unfold maxLen; omega)
  rw [List.length_replicate, List.take_of_length_le (by simp)] at this
  exact ⟨this, zeros_wid n⟩
/-- the first k indexes -/
def allS (s : List Int) (k : Nat) : List (List Int) := (List.range k).map fun i : Nat => idxS s (i : Int)
theorem allS_length (s : List Int) (k : Nat) : (allS s k).length = k := by simp [allS]
theorem allS_at (s : List Int) {k i : Nat} (h : i < k) : (allS s k).getD i [] = idxS s (i : Int) := by
  unfold allS
  rw [List.getD_eq_getElem?_getD, List.getElem?_map, List.getElem?_range h]; rfl
theorem allS_next (s : List Int) (k : Nat) : allS s (k + 1) = allS s k ++ [idxS s (k : Int)] := by
  unfold allS
  rw [List.range_succ, List.map_append]; rfl
theorem rowsOne {base : Nat} {w : World} {u : Value} {xs : List Int} (R : ResS base w u xs) (hb : base ≤ w.heap.size) : RowsS base (w.alloc (.cells #[u] 22)) (.slice (some ⟨w.heap.size, 0, none⟩) 1 1) [xs] := by
  refine ⟨[u], ?_, rfl, fun i hi => ?_⟩
  · exact ⟨rfl, .inr ⟨w.heap.size, 1, #[u], rfl, hb, heap_alloc_new w _, Nat.le_refl _, by unfold maxLen; omega, by simp, by simp⟩⟩
  · simp only [List.length_cons, List.length_nil] at hi
    obtain rfl : i = 0 := by omega
    exact ⟨u, rfl, R.later ((Below.refl _ _).alloc (Nat.le_refl _) _)⟩
set_option maxRecDepth 100000 in
set_option maxHeartbeats 4000000 in
theorem indexesR_any {u : Value} {s : List Int} {a : Option Addr} {ca : Nat} {w : World} (A : ArgS w u s a ca) (ok : OkS s) :
    Calls Tryz.prog 64 #[u] w fun e w' => ∃ r, e = .returned r ∧ RowsS w.heap.size w' r (allS s (prodS s).toNat) ∧ Below w.heap.size w w' := by
  obtain ⟨i0, hi, hz0, hz1, hz2⟩ := info_parts infoSl
  have HA := Lib.hid A
  have HO := Lib.hid ok
  have h4 := ok.rank
  have hP1 := prodS_pos ok.pos
  have hP2 := ok.few
  obtain rfl := A.is
  obtain ⟨L, hL⟩ : ∃ L, s.length = L := ⟨_, rfl⟩
  have HL := Lib.hid hL
  obtain ⟨P, hP⟩ : ∃ P : Nat, (prodS s).toNat = P := ⟨_, rfl⟩
  have hPI : prodS s = (P : Int) := by omega
  have HPI := Lib.hid hPI
  have hP3 : 1 ≤ P := by omega
  have hP4 : P ≤ 1024 := by omega
  have hmk := make_runS L (by omega)
  rw [hL] at h4 ⊢
  rw [hP]
  have hz1 : ∀ h1 : i0.size = 1, True := fun _ => trivial
  have ok1 : RowsS w.heap.size ((w.alloc (.cells (madeCells #[.int .i64 0] L) 3)).alloc (.cells #[.slice (some ⟨w.heap.size, 0, none⟩) L L] 22)) (.slice (some ⟨w.heap.size + 1, 0, none⟩) 1 1) (allS s 1) := by
    have h := rowsOne (zeroS w.heap.size w L (Nat.le_refl _) (by omega)) (by simp)
    have e : allS s 1 = [List.replicate L 0] := by
      show [idxS s ((0 : Nat) : Int)] = _
      rw [show ((0 : Nat) : Int) = 0 from rfl, idx_zero, hL]
    rw [e]
    simpa using h
  have OK1 := Lib.hid ok1
  have hb1 : Below w.heap.size w ((w.alloc (.cells (madeCells #[.int .i64 0] L) 3)).alloc (.cells #[.slice (some ⟨w.heap.size, 0, none⟩) L L] 22)) := ((Below.refl _ w).alloc (Nat.le_refl _) _).alloc (by simp) _
  have HB1 := Lib.hid hb1
  clear A ok hL hP hPI hP1 hP2 hz1 ok1 hb1
  obtain ⟨i0, hi, hz0, hz1, hz2⟩ := info_parts infoSl
  go_enter Tryz.func64, Tryz.ntmps64
  go_wp2
  go_loopw [3] (fun v wr => ∃ k : Nat, 1 ≤ k ∧ k ≤ P ∧ RowsS w.heap.size wr v (allS s k) ∧ Below w.heap.size w wr) (fun v _ => P - (match v with | .slice _ n _ => n | _ => 0))
  case atStart => exact ⟨1, Nat.le_refl _, hP3, OK1.out, HB1.out⟩
  case round =>
    obtain ⟨k, hk1, hkP, R, hb⟩ := hrel
    have hsz := hb.size
    obtain ⟨g, cap, rfl, hg, hkc, hcap, hcells⟩ := R.slice (by intro e; have := congrArg List.length e; rw [allS_length] at this; simp at this; omega)
    rw [allS_length] at hkc hcells R ⊢
    obtain ⟨m, rfl⟩ : ∃ m, k = m + 1 := ⟨k - 1, by omega⟩
    obtain ⟨uv, hcu, RU⟩ := hcells m (by omega)
    rw [allS_at s (by omega)] at RU
    obtain ⟨bd, cb, rfl, RU', BU, hbn⟩ := RU.slice
    obtain ⟨hin, hpl⟩ := place_idx HO.out.pos (n := (m : Int)) (by omega) (by rw [HPI.out]; omega)
    have hnext := nextR_any (HA.out.later hb) BU hbn HO.out hin
    obtain ⟨n1, n2⟩ := next_idx hin
    rw [hpl, HPI.out] at n1 n2
    have hil : (idxS s (m : Int)).length = L := by rw [idx_length, HL.out]
    rw [hil] at hnext hcu
    rw [HL.out] at hnext
    have hmI : ((m + 1 : Nat) : Int) - 1 = (m : Int) := by omega
    have hmi2 : (m : Int) < ((m + 1 : Nat) : Int) := by omega
    have hm0 : (0 : Int) ≤ (m : Int) := by omega
    have HR := Lib.hid R
    have HN1 := Lib.hid n1
    have HN2 := Lib.hid n2
    clear R RU RU' BU hcells hpl hin n1 n2 hil hbn
    go_wp2_with fail
    refine hnext.mono ?_
    rintro e w2 ⟨⟨r2, t2, rfl, hnp⟩, hb2⟩
    have hB2 := hb.trans (hb2.mono hsz)
    have hs2 := hB2.size
    by_cases hlt : m + 1 < P
    · have hsome := HN1.out (by omega)
      have hr2 : t2 = true ∧ ResS w.heap.size w2 r2 (idxS s ((m + 1 : Nat) : Int)) := by
        rcases hnp with ⟨ys, h1, h2, h3⟩ | ⟨h1, _⟩
        · rw [hsome] at h1
          obtain rfl := Option.some.inj h1
          exact ⟨h2, by have := h3.mono hsz; simpa using this⟩
        · rw [hsome] at h1; cases h1
      obtain ⟨rfl, RR⟩ := hr2
      obtain ⟨bd2, cb2, rfl, RR', _, _⟩ := RR.slice
      obtain ⟨vals, v1, v2, v3⟩ := HR.out.later hb2
      have hvl : vals.length = m + 1 := by rw [v2, allS_length]
      rw [hvl] at v1
      have hl2 : (idxS s ((m + 1 : Nat) : Int)).length = L := by rw [idx_length, HL.out]
      rw [hl2] at RR'
      rw [hl2]
      have HV := Lib.hid (And.intro v1 (And.intro v2 v3))
      have HRR := Lib.hid RR'
      have hml : m + 1 ≤ 1024 := by omega
      clear hnp hsome RR v2 v3 hnext hl2 RR'
      go_wp2_with (at_builtin; refine wpList_append_own _ rfl _ _ 94 rfl w.heap.size 22 i0 (.slice none 0 0) 1 24 Tryz.underlying94 hi hz0 hz1 hz2 rfl (by decide) _ _ _ rfl (v1.alloc _) ⟨w2.heap.size, 0, none⟩ 1 1 [.slice bd2 L cb2] rfl rfl (cell_one_new _ _ _) (by simp [Value.oneCell']) (by unfold maxLen; omega) (by omega) (by simp; omega) ?_; intro v' w3 hown' hgrow _)
      obtain ⟨v1, v2, v3⟩ := HV.out
      have hpush := pushRow (xs := idxS s ((m + 1 : Nat) : Int)) hB2 hs2 (by rw [hvl]; exact v1) v2 v3 HRR.out (by rw [hvl]; exact hown') hgrow
      rw [← allS_next] at hpush
      obtain ⟨hrow, hb3⟩ := hpush
      obtain ⟨g3, c3, rfl, _⟩ := hrow.slice (by intro e; have := congrArg List.length e; rw [allS_length] at this; simp at this)
      rw [allS_length] at hrow ⊢
      go_roundw
      case rel => exact ⟨m + 1 + 1, by omega, by omega, hrow, hb3⟩
      case measure => simp; omega
    · have hnone := HN2.out (by omega)
      obtain rfl : t2 = false := by
        rcases hnp with ⟨ys, h1, _⟩ | ⟨_, h2⟩
        · rw [hnone] at h1; cases h1
        · exact h2
      obtain rfl : P = m + 1 := by omega
      have HQ := Lib.hid (HR.out.later hb2)
      clear hnp hnone hnext
      go_wp2
      go_ret
      exact ⟨_, rfl, HQ.out, hB2⟩
/-- why an index has no place: 0, or an error; its place -/
def offC (s xs : List Int) : Int := if mayC s ≠ 0 then mayC s else if xs.length ≠ s.length then 2 else if inS s xs then 0 else 21
def offV (s xs : List Int) : Int := if offC s xs = 0 then placeS s xs else 0
theorem offC_may {s xs : List Int} (h : mayC s ≠ 0) : offC s xs = mayC s := by unfold offC; rw [if_pos h]
theorem offC_arg {s xs : List Int} (h : mayC s = 0) (h2 : xs.length ≠ s.length) : offC s xs = 2 := by unfold offC; rw [if_neg (by rw [h]; simp), if_pos h2]
theorem offC_in {s xs : List Int} (h : mayC s = 0) (h3 : inS s xs) : offC s xs = 0 := by unfold offC; rw [if_neg (by rw [h]; simp), if_neg (by rw [inS_length h3]; simp), if_pos h3]
theorem offC_out {s xs : List Int} (h : mayC s = 0) (h2 : xs.length = s.length) (h3 : ¬ inS s xs) : offC s xs = 21 := by unfold offC; rw [if_neg (by rw [h]; simp), if_neg (by rw [h2]; simp), if_neg h3]
theorem offV_in {s xs : List Int} (h : mayC s = 0) (h3 : inS s xs) : offV s xs = placeS s xs := by unfold offV; rw [if_pos (offC_in h h3)]
theorem offV_bad {s xs : List Int} (h : offC s xs ≠ 0) : offV s xs = 0 := by unfold offV; rw [if_neg h]
theorem offC_zero {s xs : List Int} (h : offC s xs = 0) : OkS s ∧ inS s xs := by
  by_cases h1 : mayC s = 0
  · by_cases h2 : xs.length = s.length
    · by_cases h3 : inS s xs
      · exact ⟨mayC_zero.1 h1, h3⟩
      · rw [offC_out h1 h2 h3] at h; cases h
    · rw [offC_arg h1 h2] at h; cases h
  · rw [offC_may h1] at h; exact absurd h h1
set_option maxRecDepth 100000 in
set_option maxHeartbeats 4000000 in
theorem offsetR_any {u v : Value} {s xs : List Int} {a b : Option Addr} {ca cb : Nat} {w : World} (A : ArgS w u s a ca) (B : ArgS w v xs b cb) :
    Calls Tryz.prog 29 #[u, v] w fun e w' => e = .returned (.tuple #[.int .i64 (offV s xs), .int .i64 (offC s xs)]) ∧ Below w.heap.size w w' := by
  have hm := mayR6_any A
  by_cases h0 : mayC s = 0
  · have ok := mayC_zero.1 h0
    rw [h0] at hm
    by_cases hl : xs.length = s.length
    · have hix := indexesR_any A ok
      have hP1 := prodS_pos ok.pos
      have hP2 := ok.few
      obtain ⟨c, hc⟩ : ∃ c, offC s xs = c := ⟨_, rfl⟩
      obtain ⟨o, ho⟩ : ∃ o, offV s xs = o := ⟨_, rfl⟩
      have hin : inS s xs → c = 0 ∧ o = placeS s xs := fun h => ⟨by rw [← hc, offC_in h0 h], by rw [← ho, offV_in h0 h]⟩
      have hout : ¬ inS s xs → c = 21 ∧ o = 0 := fun h => by
        have e := offC_out h0 hl h
        exact ⟨by rw [← hc, e], by rw [← ho, offV_bad (by rw [e]; decide)]⟩
      have HIN := Lib.hid hin
      have HOUT := Lib.hid hout
      have HO := Lib.hid ok
      have HB := Lib.hid B
      rw [hc, ho]
      obtain rfl := A.is
      obtain rfl := B.is
      obtain ⟨L, hL⟩ : ∃ L, s.length = L := ⟨_, rfl⟩
      obtain ⟨P, hP⟩ : ∃ P : Nat, (prodS s).toNat = P := ⟨_, rfl⟩
      have HPI := Lib.hid (show prodS s = (P : Int) by omega)
      have hP3 : 1 ≤ P := by omega
      have hP4 : P ≤ 1024 := by omega
      have HXL := Lib.hid (show xs.length = L by rw [hl, hL])
      have HSL := Lib.hid hL
      have hL4 : L ≤ 4 := by rw [← hL]; exact ok.rank
      rw [hL] at hm hix
      rw [hP] at hix
      rw [hl, hL]
      clear A B ok hc ho hin hout hL hP hP1 hP2 h0 hl
      have hne : ((L : Int) != (L : Int)) = false := by simp
      go_enter Tryz.func29, Tryz.ntmps29
      go_wp2_with fail
      refine hm.mono ?_
      rintro e w1 ⟨rfl, rfl⟩
      clear hm
      go_wp2_with fail
      refine hix.mono ?_
      rintro e w2 ⟨r2, rfl, R, hb2⟩
      clear hix
      obtain ⟨g, cap, rfl, hg, hkc, hcap, hcells⟩ := R.slice (by intro e; have := congrArg List.length e; rw [allS_length] at this; simp at this; omega)
      rw [allS_length] at hkc hcells R ⊢
      have HR := Lib.hid R
      clear R hcells hcap hkc
      go_wp2
      go_loopw [8] (fun i wr => ∃ k : Nat, i = .int .i64 (k : Int) ∧ k ≤ P ∧ (∀ j, j < k → idxS s (j : Int) ≠ xs) ∧ Below w2.heap.size w2 wr) (fun i _ => P - (intOf i).toNat)
      case atStart => exact ⟨0, rfl, Nat.zero_le _, (fun j h => by omega), Below.refl _ _⟩
      case round =>
        obtain ⟨k, rfl, hkP, hp, hb⟩ := hrel
        have HP := Lib.hid hp
        have hB := hb2.trans (hb.mono hb2.size)
        clear hp
        by_cases hlt : k < P
        · obtain ⟨g', cap', e', _, _, _, hcells⟩ := (HR.out.later hb).slice (by intro e; have := congrArg List.length e; rw [allS_length] at this; simp at this; omega)
          simp only [Value.slice.injEq, Option.some.injEq, Addr.mk.injEq, and_true, true_and] at e'
          obtain ⟨rfl, hxx, rfl⟩ := e'
          clear hxx
          rw [allS_length] at hcells
          obtain ⟨uv, hcu, RU⟩ := hcells k hlt
          rw [allS_at s hlt] at RU
          obtain ⟨bd, cb2, rfl, RU', BU, hbn⟩ := RU.slice
          have hil : (idxS s (k : Int)).length = L := by rw [idx_length]; exact HSL.out
          have hsame := sameL_any BU (HB.out.later hB) (by rw [hil]; omega)
          rw [hil] at hsame hcu
          rw [HXL.out] at hsame
          have hltI : (k : Int) < (P : Int) := by omega
          have hk0 : (0 : Int) ≤ (k : Int) := by omega
          clear RU RU' BU hbn hcells hil
          by_cases heq : idxS s (k : Int) = xs
          · rw [decide_eq_true heq] at hsame
            obtain ⟨h1, h2⟩ := place_idx HO.out.pos (n := (k : Int)) (by omega) (by rw [HPI.out]; omega)
            rw [heq] at h1 h2
            obtain ⟨hc0, ho0⟩ := HIN.out h1
            rw [h2] at ho0
            subst hc0
            subst ho0
            clear heq h1 h2
            go_wp2_with (go_at_call 65; refine hsame.mono ?_; rintro e w3 ⟨rfl, hb3⟩)
            go_ret2
            exact ⟨rfl, hB.trans (hb3.mono hB.size)⟩
          · rw [decide_eq_false heq] at hsame
            have HNE := Lib.hid heq
            clear heq
            go_wp2_with (go_at_call 65; refine hsame.mono ?_; rintro e w3 ⟨rfl, hb3⟩)
            go_roundw
            case rel =>
              refine ⟨k + 1, by go_num, by omega, fun j hj => ?_, hb.trans (hb3.mono hb.size)⟩
              by_cases hjk : j = k
              · subst hjk; exact HNE.out
              · exact HP.out j (by omega)
            case measure => simp [intOf]; omega
        · obtain rfl : k = P := by omega
          have hno : ¬ inS s xs := by
            intro h
            obtain ⟨h1, h2⟩ := place_range h
            rw [HPI.out] at h2
            refine HP.out (placeS s xs).toNat (by omega) ?_
            rw [show (((placeS s xs).toNat : Nat) : Int) = placeS s xs by omega]
            exact idx_place h
          obtain ⟨rfl, rfl⟩ := HOUT.out hno
          have hltI : ¬ (k : Int) < (k : Int) := by omega
          clear hno
          go_wp2
          go_ret2
          exact ⟨rfl, hB⟩
    · have hc := offC_arg h0 hl
      have ho : offV s xs = 0 := offV_bad (by rw [hc]; decide)
      rw [hc, ho]
      obtain rfl := A.is
      obtain rfl := B.is
      obtain ⟨L, hL⟩ : ∃ L, s.length = L := ⟨_, rfl⟩
      obtain ⟨M, hM⟩ : ∃ M, xs.length = M := ⟨_, rfl⟩
      rw [hL, hM] at hl ⊢
      rw [hL] at hm
      have hne : ((M : Int) != (L : Int)) = true := by rw [bne_iff_ne]; omega
      clear A B ok hc ho hL hM h0
      go_enter Tryz.func29, Tryz.ntmps29
      go_wp2_with fail
      refine hm.mono ?_
      rintro e w1 ⟨rfl, rfl⟩
      clear hm
      go_wp2
      go_ret2
      exact ⟨rfl, Below.refl _ _⟩
  · have hc := offC_may (xs := xs) h0
    have ho : offV s xs = 0 := offV_bad (by rw [hc]; exact h0)
    rw [hc, ho]
    obtain ⟨c, hcc⟩ : ∃ c, mayC s = c := ⟨_, rfl⟩
    rw [hcc] at hm h0 ⊢
    have hne : (c != 0) = true := bne_iff_ne.2 h0
    clear hc ho hcc h0 A B
    go_enter Tryz.func29, Tryz.ntmps29
    go_wp2_with fail
    refine hm.mono ?_
    rintro e w1 ⟨rfl, rfl⟩
    clear hm
    go_wp2
    go_ret2
    exact ⟨rfl, Below.refl _ _⟩
end
section
set_option linter.unusedVariables false
set_option linter.unusedSimpArgs false
def invL (p : List Int) : List Int := (List.range p.length).map fun i : Nat => (p.idxOf (i : Int) : Int)
end
section
set_option linter.unusedVariables false
set_option linter.unusedSimpArgs false
theorem perm_of_all {p q : List Int} (hq : q.Nodup) (hs : ∀ x, x ∈ q → x ∈ p) (hl : p.length ≤ q.length) : p.Perm q := by
  induction q generalizing p with
  | nil =>
    obtain rfl := List.eq_nil_of_length_eq_zero (show p.length = 0 by simpa using hl)
    exact List.Perm.refl _
  | cons a q ih =>
    obtain ⟨l1, l2, rfl⟩ := List.append_of_mem (hs a (List.mem_cons_self ..))
    rw [List.nodup_cons] at hq
    have h2 := ih (p := l1 ++ l2) hq.2 (fun x hx => by
      have := hs x (List.mem_cons_of_mem _ hx)
      have hne : x ≠ a := fun e => hq.1 (e ▸ hx)
      rcases List.mem_append.1 this with h | h
      · exact List.mem_append.2 (.inl h)
      · rcases List.mem_cons.1 h with h | h
        · exact absurd h hne
        · exact List.mem_append.2 (.inr h)) (by simp only [List.length_append, List.length_cons] at hl ⊢; omega)
    exact (List.perm_middle).trans (List.Perm.cons a h2)
def upS (n : Nat) : List Int := (List.range n).map fun i : Nat => (i : Int)
theorem upS_length (n : Nat) : (upS n).length = n := by simp [upS]
theorem mem_upS {n : Nat} {x : Int} : x ∈ upS n ↔ 0 ≤ x ∧ x < n := by
  unfold upS
  rw [List.mem_map]
  constructor
  · rintro ⟨i, hi, rfl⟩
    rw [List.mem_range] at hi
    omega
  · intro h
    exact ⟨x.toNat, List.mem_range.2 (by omega), by omega⟩
structure IsPerm (p : List Int) : Prop where
  nodup : p.Nodup
  mem : ∀ x, x ∈ p ↔ 0 ≤ x ∧ x < p.length
theorem invL_length (p : List Int) : (invL p).length = p.length := by simp [invL]
theorem invL_at (p : List Int) {i : Nat} (h : i < p.length) : (invL p).getD i 0 = (p.idxOf (i : Int) : Int) := by
  unfold invL
  rw [List.getD_eq_getElem?_getD, List.getElem?_map, List.getElem?_range h]; rfl
theorem getD_elem {p : List Int} {i : Nat} (h : i < p.length) : p.getD i 0 = p[i] := by simp [List.getD_eq_getElem?_getD, List.getElem?_eq_getElem h]
theorem back_pos {s : List Int} (ok : OkS s) {k : Nat} (h1 : 1 ≤ k) (h2 : k ≤ s.length) : 1 ≤ backS s k := by
  unfold backS
  rw [if_neg (by omega)]
  exact ok.pos.getD (by omega)
end
section
open Go.RowKit
/-- a slice of numbers, in a block from lo on, that is not block g -/
def CellzS (lo g : Nat) (w : World) (v : Value) : Prop :=
  ∃ ad n cap, v = .slice ad n cap ∧ n ≤ maxLen ∧ (n = 0 ∨ ∃ b cur, ad = some ⟨b, 0, none⟩ ∧ lo ≤ b ∧ b < g ∧ w.heap[b]? = some (.cells cur 3 (0, 0)) ∧ ∀ k, k < n → ∃ z, cur[k]? = some (.int .i64 z))
theorem CellzS.nil (lo g : Nat) (w : World) : CellzS lo g w (.slice none 0 0) := ⟨none, 0, 0, rfl, by unfold maxLen; omega, .inl rfl⟩
theorem NumS.cellz {base lo : Nat} {w : World} {v : Value} {xs : List Int} (h : NumS base w v xs) (hl : lo ≤ base) : CellzS lo w.heap.size w v := by
  obtain ⟨h1, h2⟩ := h
  rcases h2 with ⟨rfl, hn⟩ | ⟨g, cap, cur, rfl, hb, hg, hc, hm, hs, ht⟩
  · exact CellzS.nil _ _ _
  · refine ⟨_, _, _, rfl, by omega, .inr ⟨g, cur, rfl, by omega, lt_of_block hg, hg, fun k hk => ⟨xs.getD k 0, ?_⟩⟩⟩
    have e : (cur.toList.take (xs.length * 1))[k]? = (xs.map (Value.int .i64))[k]? := by rw [ht]
    rw [List.getElem?_take, if_pos (by omega), List.getElem?_map] at e
    rw [← Array.getElem?_toList, e]
    simp [hk]
theorem CellzS.later {lo g : Nat} {w w' : World} {v : Value} (h : CellzS lo g w v) (hb : Below g w w') : CellzS lo g w' v := by
  obtain ⟨ad, n, cap, rfl, hm, h⟩ := h
  refine ⟨ad, n, cap, rfl, hm, ?_⟩
  rcases h with h | ⟨b, cur, rfl, h1, h2, h3, h4⟩
  · exact .inl h
  · exact .inr ⟨b, cur, rfl, h1, h2, (hb.block b h2).trans h3, h4⟩
theorem CellzS.mono {lo g g' : Nat} {w : World} {v : Value} (h : CellzS lo g w v) (hg : g ≤ g') : CellzS lo g' w v := by
  obtain ⟨ad, n, cap, rfl, hm, h⟩ := h
  refine ⟨ad, n, cap, rfl, hm, ?_⟩
  rcases h with h | ⟨b, cur, rfl, h1, h2, h3, h4⟩
  · exact .inl h
  · exact .inr ⟨b, cur, rfl, h1, by omega, h3, h4⟩
theorem CellzS.next {lo : Nat} {w w' : World} {v : Value} (h : CellzS lo w.heap.size w v) (hb : Below w.heap.size w w') : CellzS lo w'.heap.size w' v := (h.later hb).mono hb.size
theorem CellzS.set {lo g : Nat} {w : World} {v : Value} (h : CellzS lo g w v) (b' k' : Nat) (z' : Int) : CellzS lo g (w.setCell ⟨b', k', none⟩ (.int .i64 z')) v := by
  obtain ⟨ad, n, cap, rfl, hm, h⟩ := h
  refine ⟨ad, n, cap, rfl, hm, ?_⟩
  rcases h with h | ⟨b, cur, rfl, h1, h2, h3, h4⟩
  · exact .inl h
  · by_cases e : b = b'
    · subst e
      refine .inr ⟨b, _, rfl, h1, h2, heap_setCell_same w b k' cur 3 (.int .i64 z') h3, fun k hk => ?_⟩
      obtain ⟨z, hz⟩ := h4 k hk
      rw [Array.getElem?_setIfInBounds]
      by_cases ek : k' = k
      · subst ek
        rw [if_pos rfl, if_pos (Array.getElem?_eq_some_iff.1 hz).1]
        exact ⟨z', rfl⟩
      · rw [if_neg ek]
        exact ⟨z, hz⟩
    · exact .inr ⟨b, cur, rfl, h1, h2, (Below.heap_setCell _ _ _ _ e).trans h3, h4⟩
end
section
open Go.RowKit
set_option linter.unusedVariables false
set_option linter.unusedSimpArgs false
def belowB (n m : Int) : Bool := decide (0 ≤ n ∧ n < m)
theorem belowB_yes {n m : Int} (h : 0 ≤ n) (h2 : n < m) : belowB n m = true := decide_eq_true ⟨h, h2⟩
theorem belowB_no {n m : Int} (h : n < 0 ∨ m ≤ n) : belowB n m = false := decide_eq_false (by omega)
set_option maxRecDepth 100000 in
set_option maxHeartbeats 2000000 in
theorem below_any (n m : Int) (w : World) : Calls Tryz.prog 101 #[.int .i64 n, .int .i64 m] w fun e w' => e = .returned (.bool (belowB n m)) ∧ w = w' := by
  obtain ⟨b, hb⟩ : ∃ b, belowB n m = b := ⟨_, rfl⟩
  rw [hb]
  by_cases h0 : 0 ≤ n
  · by_cases h1 : n < m
    · obtain rfl : b = true := by rw [← hb, belowB_yes h0 h1]
      clear hb
      go_enter Tryz.func101, Tryz.ntmps101
      go_wp2
      go_ret
      exact ⟨rfl, rfl⟩
    · obtain rfl : b = false := by rw [← hb, belowB_no (by omega)]
      clear hb
      go_enter Tryz.func101, Tryz.ntmps101
      go_wp2
      go_ret
      exact ⟨rfl, rfl⟩
  · obtain rfl : b = false := by rw [← hb, belowB_no (by omega)]
    clear hb
    go_enter Tryz.func101, Tryz.ntmps101
    go_wp2
    go_ret
    exact ⟨rfl, rfl⟩
/-- what has been counted of the first k dimensions: the product, the error -/
def Cnt (s : List Int) (k : Nat) (n e : Int) : Prop := posS (s.take k) ∧ 1 ≤ n ∧ n ≤ 1024 ∧ (e = 0 ∧ n = prodS (s.take k) ∨ e = 14 ∧ 1024 < prodS (s.take k))
theorem Cnt.nil (s : List Int) : Cnt s 0 1 0 := ⟨(fun x h => by simp at h), by omega, by omega, .inl ⟨rfl, rfl⟩⟩
theorem quo_lt {d n : Int} (h1 : 1 ≤ n) : 1024 / n < d ↔ 1024 < n * d := by
  rw [Int.ediv_lt_iff_lt_mul (by omega), Int.mul_comm]
theorem take_pos {s : List Int} {k : Nat} {d : Int} (h : posS (s.take k)) (hd : s[k]? = some d) (h1 : 1 ≤ d) : posS (s.take (k + 1)) := by
  rw [List.take_add_one, hd, Option.toList_some]
  intro x hx
  rcases List.mem_append.1 hx with h2 | h2
  · exact h x h2
  · rw [List.mem_singleton.1 h2]; exact h1
theorem prod_next {s : List Int} {k : Nat} {d : Int} (hd : s[k]? = some d) : prodS (s.take (k + 1)) = prodS (s.take k) * d := by
  have hk : k < s.length := by
    rcases Nat.lt_or_ge k s.length with g | g
    · exact g
    · rw [List.getElem?_eq_none g] at hd; cases hd
  rw [prodS_take hk, List.getD_eq_getElem?_getD, hd]
  rfl
theorem Cnt.big {s : List Int} {k : Nat} {n e d : Int} (h : Cnt s k n e) (hd : s[k]? = some d) (h1 : 1 ≤ d) (h2 : 1024 / n < d) : Cnt s (k + 1) n 14 := by
  obtain ⟨hp, n1, n2, h3⟩ := h
  refine ⟨take_pos hp hd h1, n1, n2, .inr ⟨rfl, ?_⟩⟩
  rw [prod_next hd]
  rw [quo_lt n1] at h2
  rcases h3 with ⟨_, rfl⟩ | ⟨_, h4⟩
  · exact h2
  · have := Int.mul_le_mul_of_nonneg_left h1 (show 0 ≤ prodS (s.take k) by omega)
    omega
theorem Cnt.next {s : List Int} {k : Nat} {n e d : Int} (h : Cnt s k n e) (hd : s[k]? = some d) (h1 : 1 ≤ d) (h2 : ¬ 1024 / n < d) : Cnt s (k + 1) (n * d) e ∧ 1 ≤ n * d ∧ n * d ≤ 1024 := by
  obtain ⟨hp, n1, n2, h3⟩ := h
  rw [quo_lt n1] at h2
  have h5 : 1 * 1 ≤ n * d := Int.mul_le_mul n1 h1 (by omega) (by omega)
  refine ⟨⟨take_pos hp hd h1, by omega, by omega, ?_⟩, by omega, by omega⟩
  rw [prod_next hd]
  rcases h3 with ⟨h3, rfl⟩ | ⟨h3, h4⟩
  · exact .inl ⟨h3, rfl⟩
  · refine .inr ⟨h3, ?_⟩
    have := Int.mul_le_mul_of_nonneg_left h1 (show 0 ≤ prodS (s.take k) by omega)
    omega
set_option maxRecDepth 100000 in
set_option maxHeartbeats 2000000 in
theorem cnt_any {u : Value} {xs : List Int} {ad : Option Addr} {cap : Nat} {w : World} (A : ArgS w u xs ad cap) :
    Calls Tryz.prog 93 #[u] w fun e w' => e = .returned (.tuple #[.int .i64 (countS xs), .int .i64 (mayC xs)]) ∧ w = w' := by
  have HA := Lib.hid A
  obtain rfl := A.is
  obtain ⟨L, hL⟩ : ∃ L, xs.length = L := ⟨_, rfl⟩
  have HL := Lib.hid hL
  obtain ⟨c, hc⟩ : ∃ c, mayC xs = c := ⟨_, rfl⟩
  have HC := Lib.hid hc
  obtain ⟨t, ht⟩ : ∃ t, countS xs = t := ⟨_, rfl⟩
  have HT := Lib.hid ht
  rw [hL, hc, ht]
  clear A hL hc ht
  by_cases h4 : 4 < L
  · have hm : mayC xs = 14 := mayC_rank (by rw [HL.out]; exact h4)
    obtain rfl : c = 14 := by rw [← HC.out]; exact hm
    obtain rfl : t = 0 := by rw [← HT.out]; exact count_bad (by rw [hm]; decide)
    have h4I : (4 : Int) < (L : Int) := by omega
    clear hm
    go_enter Tryz.func93, Tryz.ntmps93
    go_wp2
    go_step3
    go_wp2
    rw [Exit.noGoto_ret]
    go_ret2
    exact ⟨rfl, rfl⟩
  · have h4I : ¬ (4 : Int) < (L : Int) := by omega
    go_enter Tryz.func93, Tryz.ntmps93
    go_wp2
    go_step3
    go_wp2
    go_step3
    go_wp2
    go_loop [4, 5, 13] (fun n e i => ∃ (k : Nat) (N E : Int), i = .int .i64 (k : Int) ∧ n = .int .i64 N ∧ e = .int .i64 E ∧ k ≤ L ∧ Cnt xs k N E) (fun _ _ i => L - (intOf i).toNat)
    case atStart => exact ⟨0, 1, 0, rfl, rfl, rfl, Nat.zero_le _, Cnt.nil _⟩
    case round =>
      obtain ⟨k, N, E, rfl, rfl, rfl, hkL, hI⟩ := hrel
      obtain ⟨hp, n1, n2, hE⟩ := hI
      by_cases hlt : k < L
      · obtain ⟨b, off, rfl, hc⟩ := HA.out.at (i := k) (by rw [HL.out]; exact hlt)
        have hx : xs[k]? = some (xs.getD k 0) := by rw [List.getD_eq_getElem?_getD, List.getElem?_eq_getElem (by rw [HL.out]; exact hlt)]; rfl
        obtain ⟨x, hxe⟩ : ∃ x, xs.getD k 0 = x := ⟨_, rfl⟩
        rw [hxe] at hc hx
        have HX := Lib.hid hx
        have hltI : (k : Int) < (L : Int) := by omega
        have HI : Hid (Cnt xs k N E) := Lib.hid ⟨hp, n1, n2, hE⟩
        clear hxe hx hp hE
        by_cases h1 : x < 1
        · have hm : mayC xs = 13 := by
            refine mayC_dim (by rw [HL.out]; omega) fun hp => ?_
            have := hp x (List.mem_of_getElem? HX.out)
            omega
          obtain rfl : c = 13 := by rw [← HC.out]; exact hm
          obtain rfl : t = 0 := by rw [← HT.out]; exact count_bad (by rw [hm]; decide)
          clear hm
          go_wp2
          go_ret2
          exact ⟨rfl, rfl⟩
        · by_cases h2 : 1024 / N < x
          · go_wp2
            go_round
            case rel => exact ⟨k + 1, N, 14, by go_num, rfl, rfl, by omega, HI.out.big HX.out (by omega) h2⟩
            case measure => simp [intOf]; omega
          · obtain ⟨hI, m1, m2⟩ := HI.out.next HX.out (by omega) h2
            have hw : wrap64 (N * x) = N * x := by unfold wrap64; omega
            have HJ := Lib.hid hI
            clear hI
            go_wp2
            go_round
            case rel => exact ⟨k + 1, _, E, by go_num, by first | rfl | rw [hw], rfl, by omega, HJ.out⟩
            case measure => simp [intOf]; omega
      · obtain rfl : k = L := by omega
        have hltI : ¬ (k : Int) < (k : Int) := by omega
        rw [List.take_of_length_le (by rw [HL.out]; exact Nat.le_refl _)] at hE hp
        rcases hE with ⟨rfl, hN⟩ | ⟨rfl, hN⟩
        · have ok : OkS xs := ⟨by rw [HL.out]; omega, hp, by omega⟩
          obtain rfl : c = 0 := by rw [← HC.out]; exact mayC_ok ok
          obtain rfl : t = N := by rw [← HT.out, ok.count]; exact hN.symm
          clear hN hp ok
          go_wp2
          go_ret2
          exact ⟨rfl, rfl⟩
        · have hm : mayC xs = 14 := mayC_count (by rw [HL.out]; omega) hp hN
          obtain rfl : c = 14 := by rw [← HC.out]; exact hm
          obtain rfl : t = 0 := by rw [← HT.out]; exact count_bad (by rw [hm]; decide)
          clear hN hp hm
          go_wp2
          go_ret2
          exact ⟨rfl, rfl⟩
set_option maxRecDepth 100000 in
set_option maxHeartbeats 2000000 in
theorem mayS_eq {u : Value} {xs : List Int} {ad : Option Addr} {cap : Nat} {w : World} (A : ArgS w u xs ad cap) :
    Calls Tryz.prog 55 #[u] w fun e w' => e = .returned (.int .i64 (mayC xs)) ∧ w = w' := by
  have h := cnt_any A
  obtain rfl := A.is
  obtain ⟨c, hc⟩ : ∃ c, mayC xs = c := ⟨_, rfl⟩
  obtain ⟨t, ht⟩ : ∃ t, countS xs = t := ⟨_, rfl⟩
  obtain ⟨L, hL⟩ : ∃ L, xs.length = L := ⟨_, rfl⟩
  rw [hc, ht, hL] at h
  rw [hc, hL]
  clear A hc ht hL
  go_enter Tryz.func55, Tryz.ntmps55
  go_wp2_with (go_at_call 93; refine h.mono ?_; rintro e w1 ⟨rfl, rfl⟩)
  go_ret
  exact ⟨rfl, rfl⟩
set_option maxRecDepth 100000 in
set_option maxHeartbeats 2000000 in
theorem countS_eq {u : Value} {xs : List Int} {ad : Option Addr} {cap : Nat} {w : World} (A : ArgS w u xs ad cap) :
    Calls Tryz.prog 57 #[u] w fun e w' => e = .returned (.int .i64 (countS xs)) ∧ w = w' := by
  have h := cnt_any A
  obtain rfl := A.is
  obtain ⟨c, hc⟩ : ∃ c, mayC xs = c := ⟨_, rfl⟩
  obtain ⟨t, ht⟩ : ∃ t, countS xs = t := ⟨_, rfl⟩
  obtain ⟨L, hL⟩ : ∃ L, xs.length = L := ⟨_, rfl⟩
  rw [hc, ht, hL] at h
  rw [ht, hL]
  clear A hc ht hL
  go_enter Tryz.func57, Tryz.ntmps57
  go_wp2_with (go_at_call 93; refine h.mono ?_; rintro e w1 ⟨rfl, rfl⟩)
  go_ret
  exact ⟨rfl, rfl⟩
set_option maxRecDepth 100000 in
set_option maxHeartbeats 4000000 in
theorem eqI_any {w : World} {xs ys : List Int} {a b : Option Addr} {c d : Nat} (A : ArgS w (.slice a xs.length c) xs a c) (B : ArgS w (.slice b ys.length d) ys b d) (hx : xs.length ≤ 70368744177664) (hy : ys.length ≤ 70368744177664) :
    Calls Tryz.prog 104 #[.slice a xs.length c, .slice b ys.length d] w fun e w' => e = .returned (.bool (decide (xs = ys))) ∧ Below w.heap.size w w' := by
  by_cases hl : xs.length = ys.length
  case neg =>
    have hne : decide (xs = ys) = false := decide_eq_false (fun h => hl (by rw [h]))
    have hn1 : ((xs.length : Int) != (ys.length : Int)) = true := by simp; omega
    rw [hne]
    clear hl hne
    go_enter Tryz.func104, Tryz.ntmps104
    go_wp2_with fail
    go_ret
    exact ⟨rfl, Below.refl _ _⟩
  obtain ⟨m, hm⟩ : ∃ m, xs.length = m := ⟨_, rfl⟩
  have hm2 : ys.length = m := by omega
  have la := A.lim
  have lb := B.lim
  have hext : (∀ j, j < m → xs.getD j 0 = ys.getD j 0) → xs = ys := by
    intro h
    apply List.ext_getElem (by omega)
    intro i h1 h2
    have := h i (by omega)
    simpa [h1, h2] using this
  have HX := Lib.hid hext
  have hmm : ((m : Int) != (m : Int)) = false := by simp
  have HL1 := Lib.hid hm
  have HL2 := Lib.hid hm2
  rw [hm] at hx ⊢
  rw [hm2]
  clear hl hm hm2 hext A B hy
  go_enter Tryz.func104, Tryz.ntmps104
  go_wp2_with fail
  go_loopw [5, 13] (fun _ i wr => ∃ k : Nat, i = .int .i64 k ∧ k ≤ m ∧ (∀ j, j < k → xs.getD j 0 = ys.getD j 0) ∧ Below w.heap.size w wr) (fun _ i _ => m - (intOf i).toNat)
  case atStart => exact ⟨0, rfl, Nat.zero_le _, fun j hj => by omega, Below.refl _ _⟩
  case round =>
    obtain ⟨k, rfl, hk, hall, hb⟩ := hrel
    have HA := Lib.hid hall
    clear hall
    by_cases hlt : k < m
    · have HK := Lib.hid hlt
      obtain ⟨p, o, rfl, c1⟩ : ∃ p o, a = some ⟨p, o, none⟩ ∧ wr.cell? ⟨p, o + k, none⟩ = some (.int .i64 (xs.getD k 0)) := by
        rcases la.later hb with e | ⟨p, o, e, hc⟩
        · rw [e] at HL1; have := HL1.out; simp at this; omega
        · exact ⟨p, o, e, hc k (by rw [HL1.out]; exact hlt)⟩
      obtain ⟨p2, o2, rfl, c2⟩ : ∃ p o, b = some ⟨p, o, none⟩ ∧ wr.cell? ⟨p, o + k, none⟩ = some (.int .i64 (ys.getD k 0)) := by
        rcases lb.later hb with e | ⟨p, o, e, hc⟩
        · rw [e] at HL2; have := HL2.out; simp at this; omega
        · exact ⟨p, o, e, hc k (by rw [HL2.out]; exact hlt)⟩
      obtain ⟨x, hxk⟩ : ∃ x, xs.getD k 0 = x := ⟨_, rfl⟩
      obtain ⟨y, hyk⟩ : ∃ y, ys.getD k 0 = y := ⟨_, rfl⟩
      rw [hxk] at c1
      rw [hyk] at c2
      have HXK := Lib.hid hxk
      have HYK := Lib.hid hyk
      have hk0 : (0 : Int) ≤ (k : Int) := Int.natCast_nonneg _
      have hk1 : (k : Int) < (m : Int) := by omega
      clear hxk hyk la lb
      by_cases e : x = y
      · have hne : (x != y) = false := by simp [e]
        have fin : ∃ j : Nat, Value.int .i64 ((k : Int) + 1) = .int .i64 j ∧ j ≤ m ∧ (∀ i, i < j → xs.getD i 0 = ys.getD i 0) :=
          ⟨k + 1, by go_num, HK.out, fun i hi => by
            by_cases h : i = k
            · subst h; rw [HXK.out, HYK.out]; exact e
            · exact HA.out i (by omega)⟩
        have FIN := Lib.hid fin
        clear fin e
        go_wp2_with fail
        go_quiet (fail)
        go_wp2_with fail
        go_roundw
        case rel =>
          obtain ⟨j, h1, h2, h3⟩ := FIN.out
          exact ⟨j, h1, h2, h3, ⟨hb.os, hb.tape, hb.output, hb.size, hb.block⟩⟩
        case measure => have := HK.out; simp [intOf]; omega
      · have hne : (x != y) = true := by simp [e]
        have hd : decide (xs = ys) = false := decide_eq_false (fun h => e (by rw [← HXK.out, ← HYK.out, h]))
        have HD := Lib.hid hd
        clear e hd
        go_wp2_with fail
        go_quiet (fail)
        go_wp2_with fail
        go_ret
        exact ⟨by rw [HD.out]; rfl, ⟨hb.os, hb.tape, hb.output, hb.size, hb.block⟩⟩
    · obtain rfl : k = m := by omega
      have hd : decide (xs = ys) = true := decide_eq_true (HX.out HA.out)
      have HD := Lib.hid hd
      clear hd
      go_wp2_with fail
      go_ret
      exact ⟨by rw [HD.out]; rfl, hb⟩
set_option maxRecDepth 100000 in
set_option maxHeartbeats 2000000 in
theorem sameS_any {u v : Value} {xs ys : List Int} {a b : Option Addr} {ca cb : Nat} {w : World} (A : ArgS w u xs a ca) (B : ArgS w v ys b cb) (ha : a = none → ca = 0) (hb : b = none → cb = 0) (hx : xs.length ≤ 17592186044416) (hy : ys.length ≤ 17592186044416) :
    Calls Tryz.prog 67 #[u, v] w fun e w' => e = .returned (.bool (decide (xs = ys))) ∧ Below w.heap.size w w' := by
  obtain rfl := A.is
  obtain rfl := B.is
  have h := eqI_any A B (by omega) (by omega)
  obtain ⟨t, ht⟩ : ∃ t, decide (xs = ys) = t := ⟨_, rfl⟩
  obtain ⟨n, hn⟩ : ∃ n, xs.length = n := ⟨_, rfl⟩
  obtain ⟨m, hm⟩ : ∃ n, ys.length = n := ⟨_, rfl⟩
  rw [ht, hn, hm] at h
  rw [ht, hn, hm]
  clear A B ha hb hx hy ht hn hm
  go_enter Tryz.func67, Tryz.ntmps67
  go_wp2_with (go_at_call 104; refine h.mono ?_; rintro e w1 ⟨rfl, hb⟩)
  go_ret
  exact ⟨rfl, hb⟩
end
section
open Go.RowKit
set_option linter.unusedVariables false
set_option linter.unusedSimpArgs false
theorem place_snoc {s xs : List Int} (hl : xs.length = s.length) (d x : Int) : placeS (s ++ [d]) (xs ++ [x]) = placeS s xs * d + x := by
  induction s generalizing xs with
  | nil =>
    obtain rfl := List.eq_nil_of_length_eq_zero hl
    simp [placeS, prodS]
  | cons c cs ih => cases xs with
    | nil => simp at hl
    | cons y ys =>
      have := ih (xs := ys) (by simpa using hl)
      simp only [List.cons_append, placeS, this, prodS_append, prodS]
      rw [Int.add_mul, Int.mul_one, Int.mul_assoc]
      omega
theorem inS_snoc {s xs : List Int} (h : inS s xs) {d x : Int} (h0 : 0 ≤ x) (h1 : x < d) : inS (s ++ [d]) (xs ++ [x]) := by
  induction s generalizing xs with
  | nil =>
    obtain rfl := List.eq_nil_of_length_eq_zero (inS_length h)
    exact ⟨⟨h0, h1⟩, trivial⟩
  | cons c cs ih => cases xs with
    | nil => exact h.elim
    | cons y ys => exact ⟨h.1, ih h.2⟩
theorem inS_next {s xs : List Int} {k : Nat} {d x : Int} (h : inS (s.take k) (xs.take k)) (hd : s[k]? = some d) (hx : xs[k]? = some x) (h0 : 0 ≤ x) (h1 : x < d) : inS (s.take (k + 1)) (xs.take (k + 1)) := by
  rw [List.take_add_one, List.take_add_one, hd, hx]
  exact inS_snoc h h0 h1
theorem place_next {s xs : List Int} {k : Nat} {d x : Int} (h : inS (s.take k) (xs.take k)) (hd : s[k]? = some d) (hx : xs[k]? = some x) : placeS (s.take (k + 1)) (xs.take (k + 1)) = placeS (s.take k) (xs.take k) * d + x := by
  rw [List.take_add_one, List.take_add_one, hd, hx]
  exact place_snoc (inS_length h) d x
theorem place_small {s xs : List Int} {k : Nat} (ok : OkS s) (h : inS (s.take k) (xs.take k)) : 0 ≤ placeS (s.take k) (xs.take k) ∧ placeS (s.take k) (xs.take k) < 1024 := by
  have h1 := place_range h
  have h2 := prodS_take_le ok.pos k
  have h3 := ok.few
  omega
set_option maxRecDepth 100000 in
set_option maxHeartbeats 2000000 in
theorem offsetS_any {u v : Value} {s xs : List Int} {a b : Option Addr} {ca cb : Nat} {w : World} (A : ArgS w u s a ca) (B : ArgS w v xs b cb) (ha : a = none → ca = 0) (hb : b = none → cb = 0) (hx : s.length ≤ 17592186044416) (hy : xs.length ≤ 17592186044416) :
    Calls Tryz.prog 63 #[u, v] w fun e w' => e = .returned (.tuple #[.int .i64 (offV s xs), .int .i64 (offC s xs)]) ∧ Below w.heap.size w w' := by
  refine Calls.mono (R := fun e w' => e = .returned (.tuple #[.int .i64 (offV s xs), .int .i64 (offC s xs)]) ∧ w = w') ?_ (fun _ _ ⟨h1, h2⟩ => ⟨h1, h2 ▸ Below.refl _ _⟩)
  have hm := mayS_eq A
  have HA := Lib.hid A
  have HB := Lib.hid B
  obtain rfl := A.is
  obtain rfl := B.is
  obtain ⟨c, hc⟩ : ∃ c, offC s xs = c := ⟨_, rfl⟩
  obtain ⟨t, ht⟩ : ∃ t, offV s xs = t := ⟨_, rfl⟩
  obtain ⟨m, hmc⟩ : ∃ m, mayC s = m := ⟨_, rfl⟩
  obtain ⟨L, hL⟩ : ∃ L, s.length = L := ⟨_, rfl⟩
  obtain ⟨M, hM⟩ : ∃ M, xs.length = M := ⟨_, rfl⟩
  rw [hmc, hL] at hm
  rw [hc, ht, hL, hM]
  have HC := Lib.hid hc
  have HT := Lib.hid ht
  have HM := Lib.hid hM
  have HL := Lib.hid hL
  have HMC := Lib.hid hmc
  rw [hL] at hx
  rw [hM] at hy
  clear A B ha hb hc ht hmc hL hM
  by_cases h0 : m = 0
  · subst h0
    by_cases hl : M = L
    · subst hl
      have hlI : ((M : Int) != (M : Int)) = false := by simp
      have ok := mayC_zero.1 HMC.out
      have hM4 : M ≤ 4 := by rw [← HL.out]; exact ok.rank
      have HO := Lib.hid ok
      clear ok
      go_enter Tryz.func63, Tryz.ntmps63
      go_wp2_with (go_at_call 55; refine hm.mono ?_; rintro e w1 ⟨rfl, rfl⟩)
      clear hm
      go_loop [7, 8, 9, 22] (fun p _ _ i => ∃ (k : Nat) (P : Int), i = .int .i64 (k : Int) ∧ p = .int .i64 P ∧ k ≤ M ∧ inS (s.take k) (xs.take k) ∧ P = placeS (s.take k) (xs.take k)) (fun _ _ _ i => M - (intOf i).toNat)
      case atStart => exact ⟨0, 0, rfl, rfl, Nat.zero_le _, trivial, rfl⟩
      case round =>
        obtain ⟨k, P, rfl, rfl, hk, hin, hP⟩ := hrel
        have hsm := place_small HO.out hin
        rw [← hP] at hsm
        obtain ⟨hP0, hP1⟩ := hsm
        have HIN := Lib.hid hin
        have HP := Lib.hid hP
        clear hin hP
        by_cases hlt : k < M
        · obtain ⟨b1, o1, rfl, c1⟩ := HA.out.at (i := k) (by rw [HL.out]; exact hlt)
          obtain ⟨b2, o2, rfl, c2⟩ := HB.out.at (i := k) (by rw [HM.out]; exact hlt)
          have hd := getD_some (xs := s) (k := k) (by rw [HL.out]; exact hlt)
          have hxx := getD_some (xs := xs) (k := k) (by rw [HM.out]; exact hlt)
          have hd1 := HO.out.pos.getD (i := k) (by rw [HL.out]; exact hlt)
          have hd2 := getD_le_prod HO.out.pos (k := k) (by rw [HL.out]; exact hlt)
          have hf := HO.out.few
          obtain ⟨d, hde⟩ : ∃ d, s.getD k 0 = d := ⟨_, rfl⟩
          obtain ⟨x, hxe⟩ : ∃ x, xs.getD k 0 = x := ⟨_, rfl⟩
          rw [hde] at c1 hd hd1 hd2
          rw [hxe] at c2 hxx
          have HD := Lib.hid hd
          have HX := Lib.hid hxx
          have HDE := Lib.hid hde
          have HXE := Lib.hid hxe
          have hbw := below_any x d w
          have hltI : (k : Int) < (M : Int) := by omega
          have hd3 : d ≤ 1024 := by omega
          clear hd hxx hd2 hf hde hxe
          by_cases hg : 0 ≤ x ∧ x < d
          · obtain ⟨g0, g1⟩ := hg
            rw [belowB_yes g0 g1] at hbw
            have hn := inS_next HIN.out HD.out HX.out g0 g1
            have hp := place_next HIN.out HD.out HX.out
            have hs := place_small HO.out hn
            rw [hp, ← HP.out] at hs
            have e0 : 0 ≤ P * d := Int.mul_nonneg hP0 (by omega)
            have e1 : P * d ≤ 1024 * 1024 := Int.mul_le_mul (by omega) hd3 (by omega) (by omega)
            have w1 : wrap64 (P * d) = P * d := by unfold wrap64; omega
            have w2 : wrap64 (P * d + x) = P * d + x := by unfold wrap64; omega
            have HN := Lib.hid hn
            have HPN := Lib.hid hp
            clear hn hp hs
            go_wp2_with (go_at_call 101; refine hbw.mono ?_; rintro e w1 ⟨rfl, rfl⟩)
            go_round
            case rel => exact ⟨k + 1, _, by go_num, rfl, by omega, HN.out, by rw [HPN.out, ← HP.out] <;> first | exact w2 | rw [w1, w2]⟩
            case measure => simp [intOf]; omega
          · rw [belowB_no (by omega)] at hbw
            have hno : ¬ inS s xs := fun h => by
              have := inS_at h (i := k) (by rw [HL.out]; exact hlt)
              rw [HDE.out, HXE.out] at this
              exact hg this
            have hcc := offC_out HMC.out (by rw [HM.out, HL.out]) hno
            obtain rfl : c = 21 := by rw [← HC.out]; exact hcc
            obtain rfl : t = 0 := by rw [← HT.out]; exact offV_bad (by rw [hcc]; decide)
            clear hcc hno hg
            go_wp2_with (go_at_call 101; refine hbw.mono ?_; rintro e w1 ⟨rfl, rfl⟩)
            go_ret2
            exact ⟨rfl, rfl⟩
        · obtain rfl : k = M := by omega
          have hin := HIN.out
          have hP := HP.out
          rw [take_all HL.out, take_all HM.out] at hin hP
          obtain rfl : c = 0 := by rw [← HC.out]; exact offC_in HMC.out hin
          obtain rfl : t = P := by rw [← HT.out, offV_in HMC.out hin]; exact hP.symm
          have hltI : ¬ (k : Int) < (k : Int) := by omega
          clear hin hP
          go_wp2
          go_ret2
          exact ⟨rfl, rfl⟩
    · have hcc := offC_arg HMC.out (by rw [HM.out, HL.out]; exact hl)
      obtain rfl : c = 2 := by rw [← HC.out]; exact hcc
      obtain rfl : t = 0 := by rw [← HT.out]; exact offV_bad (by rw [hcc]; decide)
      have hlI : ((M : Int) != (L : Int)) = true := by simp; omega
      clear hcc
      go_enter Tryz.func63, Tryz.ntmps63
      go_wp2_with (go_at_call 55; refine hm.mono ?_; rintro e w1 ⟨rfl, rfl⟩)
      go_ret2
      exact ⟨rfl, rfl⟩
  · have hcc := offC_may (s := s) (xs := xs) (by rw [HMC.out]; exact h0)
    obtain rfl : c = m := by rw [← HC.out, hcc]; exact HMC.out
    obtain rfl : t = 0 := by rw [← HT.out]; exact offV_bad (by rw [HC.out]; exact h0)
    have hne : (c != 0) = true := by simpa using h0
    clear hcc
    go_enter Tryz.func63, Tryz.ntmps63
    go_wp2_with (go_at_call 55; refine hm.mono ?_; rintro e w1 ⟨rfl, rfl⟩)
    go_ret2
    exact ⟨rfl, rfl⟩
/-- the first k numbers are axes; the last one of them -/
def axU (l : List Int) (rank : Int) (k : Nat) : Prop := ∀ i, i < k → (0 ≤ l.getD i 0 ∧ l.getD i 0 < rank) ∧ (0 < i → l.getD (i - 1) 0 < l.getD i 0)
def lastS (l : List Int) : Nat → Int
  | 0 => -1
  | k + 1 => l.getD k 0
theorem axU.next {l : List Int} {rank : Int} {k : Nat} (h : axU l rank k) (h0 : lastS l k < l.getD k 0) (h1 : 0 ≤ l.getD k 0) (h2 : l.getD k 0 < rank) : axU l rank (k + 1) := by
  intro i hi
  by_cases e : i = k
  · subst e
    refine ⟨⟨h1, h2⟩, fun hp => ?_⟩
    obtain ⟨j, rfl⟩ : ∃ j, i = j + 1 := ⟨i - 1, by omega⟩
    exact h0
  · exact h i (by omega)
end
section
open Go.RowKit
set_option linter.unusedVariables false
set_option linter.unusedSimpArgs false
theorem back_to {t : List Int} {k : Nat} (h : k < t.length) : backS t (t.length - k) = t.getD k 0 := by
  unfold backS
  rw [if_neg (by omega), show t.length - (t.length - k) = k by omega]
theorem back_in {f t : List Int} {k : Nat} (hl : f.length ≤ t.length) (hk : k < t.length) (h : t.length - f.length ≤ k) : backS f (t.length - k) = f.getD (k - (t.length - f.length)) 0 := by
  unfold backS
  rw [if_neg (by omega), show f.length - (t.length - k) = k - (t.length - f.length) by omega]
/-- the first k dimensions of the other one fit -/
def fitP (f t : List Int) (k : Nat) : Prop := ∀ i, i < k → t.length - f.length ≤ i → f.getD (i - (t.length - f.length)) 0 = t.getD i 0 ∨ f.getD (i - (t.length - f.length)) 0 = 1
theorem fitP.next {f t : List Int} {k : Nat} (h : fitP f t k) (h2 : t.length - f.length ≤ k → f.getD (k - (t.length - f.length)) 0 = t.getD k 0 ∨ f.getD (k - (t.length - f.length)) 0 = 1) : fitP f t (k + 1) := by
  intro i hi h3
  by_cases e : i = k
  · subst e; exact h2 h3
  · exact h i (by omega) h3
theorem fitP.all {f t : List Int} (ok : OkS t) (hl : f.length ≤ t.length) (h : fitP f t t.length) : fitU f t f.length := by
  intro j j1 j2
  refine ⟨by have := back_pos ok j1 (by omega); omega, ?_⟩
  have h3 := h (t.length - j) (by omega) (by omega)
  have e1 : backS f j = f.getD (t.length - j - (t.length - f.length)) 0 := by
    rw [← back_in hl (by omega) (by omega)]; congr 1; omega
  have e2 : backS t j = t.getD (t.length - j) 0 := by
    rw [← back_to (by omega)]; congr 1; omega
  rw [e1, e2]
  omega
theorem fitU.at {f t : List Int} (hl : f.length ≤ t.length) (h : fitU f t f.length) {k : Nat} (hk : k < t.length) (h2 : t.length - f.length ≤ k) : f.getD (k - (t.length - f.length)) 0 = t.getD k 0 ∨ f.getD (k - (t.length - f.length)) 0 = 1 := by
  have h3 := (h (t.length - k) (by omega) (by omega)).2
  rw [back_in hl hk h2, back_to hk] at h3
  omega
end
section
open Go.RowKit
set_option linter.unusedVariables false
set_option linter.unusedSimpArgs false
/-- a block of marks, known whole -/
def MrkS (w : World) (g : Nat) (zs : List Bool) : Prop := w.heap[g]? = some (.cells (zs.map Value.bool).toArray 4 (0, 0))
theorem MrkS.cell {w : World} {g : Nat} {zs : List Bool} (h : MrkS w g zs) (i : Nat) (hi : i < zs.length) : w.cell? ⟨g, i, none⟩ = some (.bool (zs.getD i false)) := by
  have e : w.cell? ⟨g, i, none⟩ = ((zs.map Value.bool).toArray)[i]? := cell_of_row w g i _ 4 (0, 0) h
  rw [e]; simp [hi]
theorem MrkS.free {w : World} {g : Nat} {zs : List Bool} (h : MrkS w g zs) (i : Nat) : w.frozen? ⟨g, i, none⟩ = false := frozen_of_row w g i _ 4 h
theorem MrkS.lt {w : World} {g : Nat} {zs : List Bool} (h : MrkS w g zs) : g < w.heap.size := lt_of_block h
theorem MrkS.same {w w' : World} {g : Nat} {zs : List Bool} (h : MrkS w g zs) (e : w'.heap[g]? = w.heap[g]?) : MrkS w' g zs := e.trans h
theorem MrkS.alloc {w : World} {g : Nat} {zs : List Bool} (h : MrkS w g zs) (o : Obj) : MrkS (w.alloc o) g zs := h.same (Below.heap_alloc _ _ _ h.lt)
theorem MrkS.below {w w' : World} {g B : Nat} {zs : List Bool} (h : MrkS w g zs) (k : Below B w w') (hb : g < B) : MrkS w' g zs := h.same (k.block g hb)
theorem MrkS.far {w : World} {g : Nat} {zs : List Bool} (h : MrkS w g zs) {p : Addr} (hne : g ≠ p.block) (u : Value) : MrkS (w.setCell p u) g zs := h.same (Below.heap_setCell _ _ _ _ hne)
theorem MrkS.set {w : World} {g : Nat} {zs : List Bool} (h : MrkS w g zs) (i : Nat) (x : Bool) : MrkS (w.setCell ⟨g, i, none⟩ (.bool x)) g (zs.set i x) := by
  have hh := heap_setCell_same w g i _ 4 (.bool x) h
  unfold MrkS
  rw [hh]
  congr 2
  simp [List.map_set]
theorem MrkS.made (w : World) (n : Nat) : MrkS (w.alloc (.cells (madeCells #[.bool false] n) 4)) w.heap.size (List.replicate n false) := by
  have h := heap_alloc_new w (.cells (madeCells #[.bool false] n) 4)
  unfold MrkS
  rw [h]
  congr 2
  apply Array.ext
  · simp [madeCells]
  · intro i h1 h2
    simp [madeCells, Nat.mod_one]
/-- a list's numbers are marked, below n -/
def MarkS (w : World) (p n : Nat) (l : List Int) : Prop := ∃ g, w.cell? ⟨p, 0, none⟩ = some (.slice (some ⟨g, 0, none⟩) n n) ∧ ∀ i, i < n → w.cell? ⟨g, i, none⟩ = some (.bool (decide ((i : Int) ∈ l)))
theorem MarkS.later {w w' : World} {p n : Nat} {l : List Int} (h : MarkS w p n l) (hb : Below w.heap.size w w') : MarkS w' p n l := by
  obtain ⟨g, h1, h2⟩ := h
  exact ⟨g, (hb.cell (World.block_lt_of_cell? w _ h1)).trans h1, fun i hi => (hb.cell (World.block_lt_of_cell? w _ (h2 i hi))).trans (h2 i hi)⟩
/-- the marks, when the first k numbers have been seen -/
def SeenM (l : List Int) (n k : Nat) (M : List Bool) : Prop := M.length = n ∧ ∀ i, i < n → M.getD i false = decide ((i : Int) ∈ l.take k)
theorem SeenM.nil (l : List Int) (n : Nat) : SeenM l n 0 (List.replicate n false) := ⟨by simp, fun i hi => by simp [List.getD_eq_getElem?_getD, hi]⟩
end
section
open Go.RowKit
set_option linter.unusedVariables false
set_option linter.unusedSimpArgs false
/-- the first k numbers of a list are different ones, below L; each one's place is told -/
def SeenP (p : List Int) (L k : Nat) (zs : List Int) : Prop := zs.length = L ∧ (p.take k).Nodup ∧ (∀ x, x ∈ p.take k → 0 ≤ x ∧ x < L) ∧ ∀ j, j < k → zs.getD (p.getD j 0).toNat 0 = (j : Int)
theorem SeenP.nil (p : List Int) (L : Nat) : SeenP p L 0 (List.replicate L 0) := ⟨by simp, by simp, fun x h => by simp at h, fun j hj => by omega⟩
theorem mem_takeS {p : List Int} {j k : Nat} (hj : j < k) (hl : j < p.length) : p.getD j 0 ∈ p.take k := by
  rw [getD_elem hl, List.mem_take_iff_getElem]
  exact ⟨j, by omega, rfl⟩
theorem SeenP.next {p : List Int} {L k m : Nat} {zs : List Int} (h : SeenP p L k zs) (hk : k < p.length) (hx : p[k]? = some (m : Int)) (hm : m < L) (hn : ¬ (m : Int) ∈ p.take k) : SeenP p L (k + 1) (zs.set m (k : Int)) := by
  obtain ⟨h1, h2, h3, h4⟩ := h
  have ht : p.take (k + 1) = p.take k ++ [(m : Int)] := by rw [List.take_add_one, hx]; rfl
  refine ⟨by rw [List.length_set]; exact h1, ?_, fun x hx2 => ?_, fun j hj => ?_⟩
  · rw [ht, List.nodup_append]
    refine ⟨h2, by simp, fun a ha b hb e => ?_⟩
    rw [List.mem_singleton] at hb
    subst hb
    subst e
    exact hn ha
  · rw [ht, List.mem_append, List.mem_singleton] at hx2
    rcases hx2 with g | g
    · exact h3 x g
    · omega
  · by_cases e : j = k
    · subst e
      have e2 : p.getD j 0 = (m : Int) := by rw [List.getD_eq_getElem?_getD, hx]; rfl
      rw [e2, List.getD_eq_getElem?_getD, show (m : Int).toNat = m by omega, List.getElem?_set_self (by omega)]
      rfl
    · have hmem := mem_takeS (p := p) (j := j) (k := k) (by omega) (by omega)
      have hr := h3 _ hmem
      have hne : m ≠ (p.getD j 0).toNat := fun e2 => hn (by rw [e2, show (((p.getD j 0).toNat : Nat) : Int) = p.getD j 0 by omega]; exact hmem)
      rw [List.getD_eq_getElem?_getD, List.getElem?_set_ne hne, ← List.getD_eq_getElem?_getD]
      exact h4 j (by omega)
theorem SeenP.full {p : List Int} {L : Nat} {zs : List Int} (h : SeenP p L L zs) (hL : p.length = L) : IsPerm p ∧ zs = invL p := by
  obtain ⟨h1, h2, h3, h4⟩ := h
  rw [take_all hL] at h2 h3
  have hp := perm_of_all (p := upS L) (q := p) h2 (fun x hx => mem_upS.2 (h3 x hx)) (by rw [upS_length, hL]; exact Nat.le_refl _)
  have ip : IsPerm p := ⟨h2, fun x => by rw [← hp.mem_iff, mem_upS, hL]⟩
  refine ⟨ip, ?_⟩
  apply List.ext_getElem
  · rw [h1, invL_length, hL]
  · intro i g1 g2
    rw [← getD_elem g1, ← getD_elem g2, invL_at p (by omega)]
    have hmem := (ip.mem (i : Int)).2 (by omega)
    have hlt := List.idxOf_lt_length_of_mem hmem
    have hget := List.getElem_idxOf hlt
    have h5 := h4 (p.idxOf (i : Int)) (by omega)
    rw [getD_elem hlt, hget, show ((i : Nat) : Int).toNat = i by omega] at h5
    exact h5
end
section
open Go.RowKit Go.Shelf
attribute [local go_sem] Oper.semAt_some
set_option linter.unusedVariables false
set_option linter.unusedSimpArgs false
/-- the last k places, from above -/
def DowntoS {n : Nat} (pre : List (Fin n)) (k : Nat) : Prop := pre.length = k ∧ ∀ i (h : i < pre.length), (pre[i]).val + i + 1 = n
theorem DowntoS.nil {n : Nat} : DowntoS ([] : List (Fin n)) 0 := ⟨rfl, fun i h => by simp at h⟩
theorem DowntoS.snoc {n k : Nat} {pre : List (Fin n)} (h : DowntoS pre k) (x : Fin n) (hx : x.val + k + 1 = n) : DowntoS (pre ++ [x]) (k + 1) := by
  obtain ⟨h1, h2⟩ := h
  refine ⟨by simp [h1], fun i hi => ?_⟩
  by_cases hlt : i < pre.length
  · rw [List.getElem_append_left hlt]; exact h2 i hlt
  · have : i = k := by simp at hi; omega
    subst this
    rw [List.getElem_append_right (by omega)]
    simp [h1, hx]
/-- nothing below G has changed, nor block Bs -/
structure KpS (G Bs : Nat) (W W' : World) : Prop where
  below : Below G W W'
  box : W'.heap[Bs]? = W.heap[Bs]?
theorem KpS.refl (G Bs : Nat) (W : World) : KpS G Bs W W := ⟨Below.refl _ _, rfl⟩
theorem KpS.trans {G Bs : Nat} {A B C : World} (h : KpS G Bs A B) (k : KpS G Bs B C) : KpS G Bs A C := ⟨h.below.trans k.below, k.box.trans h.box⟩
theorem KpS.b {G Bs : Nat} {w : World} (hg : G ≤ w.heap.size) (hn : Bs < w.heap.size) (W : World) (l : Nat) (o o' : Obj) (hl : w.heap.size ≤ l) (h : W.heap[l]? = some o) (h1 : o.isCells = false) (h2 : o.isWalk = false) : KpS G Bs W (W.putObj l o') :=
  ⟨belowK_b hg W l o o' hl h h1 h2, World.putObj_heap_other (by omega)⟩
theorem BlkS.far {w : World} {g : Nat} {zs : List Int} (h : BlkS w g zs) {p : Addr} (hne : g ≠ p.block) (u : Value) : BlkS (w.setCell p u) g zs := h.same (Below.heap_setCell _ _ _ _ hne)
end
end Go.Proofs.YtnhfjacifajdlaaGreat
