/-
  The reference of layer 6: Indexes, Offset.
-/
import Derived.Test.YthlohkehacnolaaSRefE
namespace Go.Proofs.Ythlohkehacnolaa
open Go.RowKit
set_option linter.unusedVariables false
set_option linter.unusedSimpArgs false

theorem make_runS (n : Nat) (hc : n ≤ 17592186044416) (w : World) :
    (Instr.makeSlice 22 (.int .i64 (n : Int)) (.int .i64 (n : Int))).run Try.prog w = .ok (.slice (some ⟨w.heap.size, 0, none⟩) n n) (w.alloc (.cells (madeCells #[.int .i64 0] n) 3)) := by
  obtain ⟨i0, hi, hz0, hz1, hz2⟩ := info_parts infoS
  have h := run_make (P := Try.prog) w 22 3 i0 (.int .i64 0) Try.underlying22 hi hz0 .i64 .i64 n n (by omega) (by omega) (by rw [hz2]; omega) (by omega)
  simpa [hz1, Value.cells] using h
theorem zeroS (base : Nat) (w : World) (n : Nat) (hb : base ≤ w.heap.size) (hn : n ≤ 17592186044416) : ResS base (w.alloc (.cells (madeCells #[.int .i64 0] n) 3)) (.slice (some ⟨w.heap.size, 0, none⟩) n n) (List.replicate n 0) := by
  have := NumS.ofBlk (BlkS.made w n) hb n (by simp) (by simp; unfold maxLen; omega)
  rw [List.length_replicate, List.take_of_length_le (by simp)] at this
  exact ⟨this, zeros_wid n⟩
/-- the first k indexes -/
def allS (s : List Int) (k : Nat) : List (List Int) := (List.range k).map fun i : Nat => idxS s (i : Int)
theorem allS_length (s : List Int) (k : Nat) : (allS s k).length = k := by simp [allS]
theorem allS_at (s : List Int) {k i : Nat} (h : i < k) : (allS s k).getD i [] = idxS s (i : Int) := by
  unfold allS
  rw [List.getD_eq_getElem?_getD, List.getElem?_map, List.getElem?_range h]; rfl
theorem allS_next (s : List Int) (k : Nat) : allS s (k + 1) = allS s k ++ [idxS s (k : Int)] := by
  unfold allS
  rw [List.range_succ, List.map_append]; rfl
theorem rowsOne {base : Nat} {w : World} {u : Value} {xs : List Int} (R : ResS base w u xs) (hb : base ≤ w.heap.size) : RowsS base (w.alloc (.cells #[u] 22)) (.slice (some ⟨w.heap.size, 0, none⟩) 1 1) [xs] := by
  refine ⟨[u], ?_, rfl, fun i hi => ?_⟩
  · exact ⟨rfl, .inr ⟨w.heap.size, 1, #[u], rfl, hb, heap_alloc_new w _, Nat.le_refl _, by unfold maxLen; omega, by simp, by simp⟩⟩
  · simp only [List.length_cons, List.length_nil] at hi
    obtain rfl : i = 0 := by omega
    exact ⟨u, rfl, R.later ((Below.refl _ _).alloc (Nat.le_refl _) _)⟩

set_option maxRecDepth 100000 in
set_option maxHeartbeats 4000000 in
theorem indexesR_any {u : Value} {s : List Int} {a : Option Addr} {ca : Nat} {w : World} (A : ArgS w u s a ca) (ok : OkS s) :
    Calls Try.prog 25 #[u] w fun e w' => ∃ r, e = .returned r ∧ RowsS w.heap.size w' r (allS s (prodS s).toNat) ∧ Below w.heap.size w w' := by
  obtain ⟨i0, hi, hz0, hz1, hz2⟩ := info_parts infoSl
  have HA := Lib.hid A
  have HO := Lib.hid ok
  have h4 := ok.rank
  have hP1 := prodS_pos ok.pos
  have hP2 := ok.few
  obtain rfl := A.is
  obtain ⟨L, hL⟩ : ∃ L, s.length = L := ⟨_, rfl⟩
  have HL := Lib.hid hL
  obtain ⟨P, hP⟩ : ∃ P : Nat, (prodS s).toNat = P := ⟨_, rfl⟩
  have hPI : prodS s = (P : Int) := by omega
  have HPI := Lib.hid hPI
  have hP3 : 1 ≤ P := by omega
  have hP4 : P ≤ 1024 := by omega
  have hmk := make_runS L (by omega)
  rw [hL] at h4 ⊢
  rw [hP]
  have hz1 : ∀ h1 : i0.size = 1, True := fun _ => trivial
  have ok1 : RowsS w.heap.size ((w.alloc (.cells (madeCells #[.int .i64 0] L) 3)).alloc (.cells #[.slice (some ⟨w.heap.size, 0, none⟩) L L] 22)) (.slice (some ⟨w.heap.size + 1, 0, none⟩) 1 1) (allS s 1) := by
    have h := rowsOne (zeroS w.heap.size w L (Nat.le_refl _) (by omega)) (by simp)
    have e : allS s 1 = [List.replicate L 0] := by
      show [idxS s ((0 : Nat) : Int)] = _
      rw [show ((0 : Nat) : Int) = 0 from rfl, idx_zero, hL]
    rw [e]
    simpa using h
  have OK1 := Lib.hid ok1
  have hb1 : Below w.heap.size w ((w.alloc (.cells (madeCells #[.int .i64 0] L) 3)).alloc (.cells #[.slice (some ⟨w.heap.size, 0, none⟩) L L] 22)) := ((Below.refl _ w).alloc (Nat.le_refl _) _).alloc (by simp) _
  have HB1 := Lib.hid hb1
  clear A ok hL hP hPI hP1 hP2 hz1 ok1 hb1
  obtain ⟨i0, hi, hz0, hz1, hz2⟩ := info_parts infoSl
  go_enter Try.func25, Try.ntmps25
  go_wp2
  go_loopw [3] (fun v wr => ∃ k : Nat, 1 ≤ k ∧ k ≤ P ∧ RowsS w.heap.size wr v (allS s k) ∧ Below w.heap.size w wr) (fun v _ => P - (match v with | .slice _ n _ => n | _ => 0))
  case atStart => exact ⟨1, Nat.le_refl _, hP3, OK1.out, HB1.out⟩
  case round =>
    obtain ⟨k, hk1, hkP, R, hb⟩ := hrel
    have hsz := hb.size
    obtain ⟨g, cap, rfl, hg, hkc, hcap, hcells⟩ := R.slice (by intro e; have := congrArg List.length e; rw [allS_length] at this; simp at this; omega)
    rw [allS_length] at hkc hcells R ⊢
    obtain ⟨m, rfl⟩ : ∃ m, k = m + 1 := ⟨k - 1, by omega⟩
    obtain ⟨uv, hcu, RU⟩ := hcells m (by omega)
    rw [allS_at s (by omega)] at RU
    obtain ⟨bd, cb, rfl, RU', BU, hbn⟩ := RU.slice
    obtain ⟨hin, hpl⟩ := place_idx HO.out.pos (n := (m : Int)) (by omega) (by rw [HPI.out]; omega)
    have hnext := nextR_any (HA.out.later hb) BU hbn HO.out hin
    obtain ⟨n1, n2⟩ := next_idx hin
    rw [hpl, HPI.out] at n1 n2
    have hil : (idxS s (m : Int)).length = L := by rw [idx_length, HL.out]
    rw [hil] at hnext hcu
    rw [HL.out] at hnext
    have hmI : ((m + 1 : Nat) : Int) - 1 = (m : Int) := by omega
    have hmi2 : (m : Int) < ((m + 1 : Nat) : Int) := by omega
    have hm0 : (0 : Int) ≤ (m : Int) := by omega
    have HR := Lib.hid R
    have HN1 := Lib.hid n1
    have HN2 := Lib.hid n2
    clear R RU RU' BU hcells hpl hin n1 n2 hil hbn
    go_wp2_with fail
    refine hnext.mono ?_
    rintro e w2 ⟨⟨r2, t2, rfl, hnp⟩, hb2⟩
    have hB2 := hb.trans (hb2.mono hsz)
    have hs2 := hB2.size
    by_cases hlt : m + 1 < P
    · have hsome := HN1.out (by omega)
      have hr2 : t2 = true ∧ ResS w.heap.size w2 r2 (idxS s ((m + 1 : Nat) : Int)) := by
        rcases hnp with ⟨ys, h1, h2, h3⟩ | ⟨h1, _⟩
        · rw [hsome] at h1
          obtain rfl := Option.some.inj h1
          exact ⟨h2, by have := h3.mono hsz; simpa using this⟩
        · rw [hsome] at h1; cases h1
      obtain ⟨rfl, RR⟩ := hr2
      obtain ⟨bd2, cb2, rfl, RR', _, _⟩ := RR.slice
      obtain ⟨vals, v1, v2, v3⟩ := HR.out.later hb2
      have hvl : vals.length = m + 1 := by rw [v2, allS_length]
      rw [hvl] at v1
      have hl2 : (idxS s ((m + 1 : Nat) : Int)).length = L := by rw [idx_length, HL.out]
      rw [hl2] at RR'
      rw [hl2]
      have HV := Lib.hid (And.intro v1 (And.intro v2 v3))
      have HRR := Lib.hid RR'
      have hml : m + 1 ≤ 1024 := by omega
      clear hnp hsome RR v2 v3 hnext hl2 RR'
      go_wp2_with (at_builtin; refine wpList_append_own _ rfl _ _ 41 rfl w.heap.size 22 i0 (.slice none 0 0) 1 24 Try.underlying41 hi hz0 hz1 hz2 rfl (by decide) _ _ _ rfl (v1.alloc _) ⟨w2.heap.size, 0, none⟩ 1 1 [.slice bd2 L cb2] rfl rfl (cell_one_new _ _ _) (by simp [Value.oneCell']) (by unfold maxLen; omega) (by omega) (by simp; omega) ?_; intro v' w3 hown' hgrow _)
      obtain ⟨v1, v2, v3⟩ := HV.out
      have hpush := pushRow (xs := idxS s ((m + 1 : Nat) : Int)) hB2 hs2 (by rw [hvl]; exact v1) v2 v3 HRR.out (by rw [hvl]; exact hown') hgrow
      rw [← allS_next] at hpush
      obtain ⟨hrow, hb3⟩ := hpush
      obtain ⟨g3, c3, rfl, _⟩ := hrow.slice (by intro e; have := congrArg List.length e; rw [allS_length] at this; simp at this)
      rw [allS_length] at hrow ⊢
      go_roundw
      case rel => exact ⟨m + 1 + 1, by omega, by omega, hrow, hb3⟩
      case measure => simp; omega
    · have hnone := HN2.out (by omega)
      obtain rfl : t2 = false := by
        rcases hnp with ⟨ys, h1, _⟩ | ⟨_, h2⟩
        · rw [hnone] at h1; cases h1
        · exact h2
      obtain rfl : P = m + 1 := by omega
      have HQ := Lib.hid (HR.out.later hb2)
      clear hnp hnone hnext
      go_wp2
      go_ret
      exact ⟨_, rfl, HQ.out, hB2⟩

/-- why an index has no place: 0, or an error; its place -/
def offC (s xs : List Int) : Int := if mayC s ≠ 0 then mayC s else if xs.length ≠ s.length then 2 else if inS s xs then 0 else 21
def offV (s xs : List Int) : Int := if offC s xs = 0 then placeS s xs else 0
theorem offC_may {s xs : List Int} (h : mayC s ≠ 0) : offC s xs = mayC s := by unfold offC; rw [if_pos h]
theorem offC_arg {s xs : List Int} (h : mayC s = 0) (h2 : xs.length ≠ s.length) : offC s xs = 2 := by unfold offC; rw [if_neg (by rw [h]; simp), if_pos h2]
theorem offC_in {s xs : List Int} (h : mayC s = 0) (h3 : inS s xs) : offC s xs = 0 := by unfold offC; rw [if_neg (by rw [h]; simp), if_neg (by rw [inS_length h3]; simp), if_pos h3]
theorem offC_out {s xs : List Int} (h : mayC s = 0) (h2 : xs.length = s.length) (h3 : ¬ inS s xs) : offC s xs = 21 := by unfold offC; rw [if_neg (by rw [h]; simp), if_neg (by rw [h2]; simp), if_neg h3]
theorem offV_in {s xs : List Int} (h : mayC s = 0) (h3 : inS s xs) : offV s xs = placeS s xs := by unfold offV; rw [if_pos (offC_in h h3)]
theorem offV_bad {s xs : List Int} (h : offC s xs ≠ 0) : offV s xs = 0 := by unfold offV; rw [if_neg h]
theorem offC_zero {s xs : List Int} (h : offC s xs = 0) : OkS s ∧ inS s xs := by
  by_cases h1 : mayC s = 0
  · by_cases h2 : xs.length = s.length
    · by_cases h3 : inS s xs
      · exact ⟨mayC_zero.1 h1, h3⟩
      · rw [offC_out h1 h2 h3] at h; cases h
    · rw [offC_arg h1 h2] at h; cases h
  · rw [offC_may h1] at h; exact absurd h h1

set_option maxRecDepth 100000 in
set_option maxHeartbeats 4000000 in
theorem offsetR_any {u v : Value} {s xs : List Int} {a b : Option Addr} {ca cb : Nat} {w : World} (A : ArgS w u s a ca) (B : ArgS w v xs b cb) :
    Calls Try.prog 22 #[u, v] w fun e w' => e = .returned (.tuple #[.int .i64 (offV s xs), .int .i64 (offC s xs)]) ∧ Below w.heap.size w w' := by
  have hm := mayR6_any A
  by_cases h0 : mayC s = 0
  · have ok := mayC_zero.1 h0
    rw [h0] at hm
    by_cases hl : xs.length = s.length
    · have hix := indexesR_any A ok
      have hP1 := prodS_pos ok.pos
      have hP2 := ok.few
      obtain ⟨c, hc⟩ : ∃ c, offC s xs = c := ⟨_, rfl⟩
      obtain ⟨o, ho⟩ : ∃ o, offV s xs = o := ⟨_, rfl⟩
      have hin : inS s xs → c = 0 ∧ o = placeS s xs := fun h => ⟨by rw [← hc, offC_in h0 h], by rw [← ho, offV_in h0 h]⟩
      have hout : ¬ inS s xs → c = 21 ∧ o = 0 := fun h => by
        have e := offC_out h0 hl h
        exact ⟨by rw [← hc, e], by rw [← ho, offV_bad (by rw [e]; decide)]⟩
      have HIN := Lib.hid hin
      have HOUT := Lib.hid hout
      have HO := Lib.hid ok
      have HB := Lib.hid B
      rw [hc, ho]
      obtain rfl := A.is
      obtain rfl := B.is
      obtain ⟨L, hL⟩ : ∃ L, s.length = L := ⟨_, rfl⟩
      obtain ⟨P, hP⟩ : ∃ P : Nat, (prodS s).toNat = P := ⟨_, rfl⟩
      have HPI := Lib.hid (show prodS s = (P : Int) by omega)
      have hP3 : 1 ≤ P := by omega
      have hP4 : P ≤ 1024 := by omega
      have HXL := Lib.hid (show xs.length = L by rw [hl, hL])
      have HSL := Lib.hid hL
      have hL4 : L ≤ 4 := by rw [← hL]; exact ok.rank
      rw [hL] at hm hix
      rw [hP] at hix
      rw [hl, hL]
      clear A B ok hc ho hin hout hL hP hP1 hP2 h0 hl
      have hne : ((L : Int) != (L : Int)) = false := by simp
      go_enter Try.func22, Try.ntmps22
      go_wp2_with fail
      refine hm.mono ?_
      rintro e w1 ⟨rfl, rfl⟩
      clear hm
      go_wp2_with fail
      refine hix.mono ?_
      rintro e w2 ⟨r2, rfl, R, hb2⟩
      clear hix
      obtain ⟨g, cap, rfl, hg, hkc, hcap, hcells⟩ := R.slice (by intro e; have := congrArg List.length e; rw [allS_length] at this; simp at this; omega)
      rw [allS_length] at hkc hcells R ⊢
      have HR := Lib.hid R
      clear R hcells hcap hkc
      go_wp2
      go_loopw [8] (fun i wr => ∃ k : Nat, i = .int .i64 (k : Int) ∧ k ≤ P ∧ (∀ j, j < k → idxS s (j : Int) ≠ xs) ∧ Below w2.heap.size w2 wr) (fun i _ => P - (intOf i).toNat)
      case atStart => exact ⟨0, rfl, Nat.zero_le _, (fun j h => by omega), Below.refl _ _⟩
      case round =>
        obtain ⟨k, rfl, hkP, hp, hb⟩ := hrel
        have HP := Lib.hid hp
        have hB := hb2.trans (hb.mono hb2.size)
        clear hp
        by_cases hlt : k < P
        · obtain ⟨g', cap', e', _, _, _, hcells⟩ := (HR.out.later hb).slice (by intro e; have := congrArg List.length e; rw [allS_length] at this; simp at this; omega)
          simp only [Value.slice.injEq, Option.some.injEq, Addr.mk.injEq, and_true, true_and] at e'
          obtain ⟨rfl, hxx, rfl⟩ := e'
          clear hxx
          rw [allS_length] at hcells
          obtain ⟨uv, hcu, RU⟩ := hcells k hlt
          rw [allS_at s hlt] at RU
          obtain ⟨bd, cb2, rfl, RU', BU, hbn⟩ := RU.slice
          have hil : (idxS s (k : Int)).length = L := by rw [idx_length]; exact HSL.out
          have hsame := sameL_any BU (HB.out.later hB) (by rw [hil]; omega)
          rw [hil] at hsame hcu
          rw [HXL.out] at hsame
          have hltI : (k : Int) < (P : Int) := by omega
          have hk0 : (0 : Int) ≤ (k : Int) := by omega
          clear RU RU' BU hbn hcells hil
          by_cases heq : idxS s (k : Int) = xs
          · rw [decide_eq_true heq] at hsame
            obtain ⟨h1, h2⟩ := place_idx HO.out.pos (n := (k : Int)) (by omega) (by rw [HPI.out]; omega)
            rw [heq] at h1 h2
            obtain ⟨hc0, ho0⟩ := HIN.out h1
            rw [h2] at ho0
            subst hc0
            subst ho0
            clear heq h1 h2
            go_wp2_with (go_at_call 24; refine hsame.mono ?_; rintro e w3 ⟨rfl, hb3⟩)
            go_ret2
            exact ⟨rfl, hB.trans (hb3.mono hB.size)⟩
          · rw [decide_eq_false heq] at hsame
            have HNE := Lib.hid heq
            clear heq
            go_wp2_with (go_at_call 24; refine hsame.mono ?_; rintro e w3 ⟨rfl, hb3⟩)
            go_roundw
            case rel =>
              refine ⟨k + 1, by go_num, by omega, fun j hj => ?_, hb.trans (hb3.mono hb.size)⟩
              by_cases hjk : j = k
              · subst hjk; exact HNE.out
              · exact HP.out j (by omega)
            case measure => simp [intOf]; omega
        · obtain rfl : k = P := by omega
          have hno : ¬ inS s xs := by
            intro h
            obtain ⟨h1, h2⟩ := place_range h
            rw [HPI.out] at h2
            refine HP.out (placeS s xs).toNat (by omega) ?_
            rw [show (((placeS s xs).toNat : Nat) : Int) = placeS s xs by omega]
            exact idx_place h
          obtain ⟨rfl, rfl⟩ := HOUT.out hno
          have hltI : ¬ (k : Int) < (k : Int) := by omega
          clear hno
          go_wp2
          go_ret2
          exact ⟨rfl, hB⟩
    · have hc := offC_arg h0 hl
      have ho : offV s xs = 0 := offV_bad (by rw [hc]; decide)
      rw [hc, ho]
      obtain rfl := A.is
      obtain rfl := B.is
      obtain ⟨L, hL⟩ : ∃ L, s.length = L := ⟨_, rfl⟩
      obtain ⟨M, hM⟩ : ∃ M, xs.length = M := ⟨_, rfl⟩
      rw [hL, hM] at hl ⊢
      rw [hL] at hm
      have hne : ((M : Int) != (L : Int)) = true := by rw [bne_iff_ne]; omega
      clear A B ok hc ho hL hM h0
      go_enter Try.func22, Try.ntmps22
      go_wp2_with fail
      refine hm.mono ?_
      rintro e w1 ⟨rfl, rfl⟩
      clear hm
      go_wp2
      go_ret2
      exact ⟨rfl, Below.refl _ _⟩
  · have hc := offC_may (xs := xs) h0
    have ho : offV s xs = 0 := offV_bad (by rw [hc]; exact h0)
    rw [hc, ho]
    obtain ⟨c, hcc⟩ : ∃ c, mayC s = c := ⟨_, rfl⟩
    rw [hcc] at hm h0 ⊢
    have hne : (c != 0) = true := bne_iff_ne.2 h0
    clear hc ho hcc h0 A B
    go_enter Try.func22, Try.ntmps22
    go_wp2_with fail
    refine hm.mono ?_
    rintro e w1 ⟨rfl, rfl⟩
    clear hm
    go_wp2
    go_ret2
    exact ⟨rfl, Below.refl _ _⟩
end Go.Proofs.Ythlohkehacnolaa
