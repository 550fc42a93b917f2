/-
  Package tensor as it landed: what its walks share; its iterators (all, beside).
-/
import Derived.Test.YtjcacmnmbbnffaaGreatE4
import Derived.Deep.DeepCutAuto
import Derived.Laws.OwnMore
import Derived.OrdersHeld
import Derived.Deep.RegionHeld
import Derived.ArgAppend
import Derived.Deep.Slices
namespace Go.Proofs.YtjcacmnmbbnffaaGreat
set_option maxRecDepth 100000
section
open Go.RowKit
set_option linter.unusedVariables false
set_option linter.unusedSimpArgs false
set_option maxRecDepth 100000 in
set_option maxHeartbeats 2000000 in
theorem mayR6_any {u : Value} {xs : List Int} {ad : Option Addr} {cap : Nat} {w : World} (A : ArgS w u xs ad cap) :
    Calls Tryz.prog 62 #[u] w fun e w' => e = .returned (.int .i64 (mayC xs)) ∧ w = w' := by
  have HA := Lib.hid A
  obtain rfl := A.is
  obtain ⟨L, hL⟩ : ∃ L, xs.length = L := ⟨_, rfl⟩
  have HL := Lib.hid hL
  obtain ⟨c, hc⟩ : ∃ c, mayC xs = c := ⟨_, rfl⟩
  have HC := Lib.hid hc
  rw [hL, hc]
  clear A hL hc
  by_cases h4 : 4 < L
  · obtain rfl : c = 14 := by rw [← HC.out]; exact mayC_rank (by rw [HL.out]; exact h4)
    have h4I : (4 : Int) < (L : Int) := by omega
    go_enter Tryz.func62, Tryz.ntmps62
    go_wp2
    go_ret
    exact ⟨rfl, rfl⟩
  · have h4I : ¬ (4 : Int) < (L : Int) := by omega
    go_enter Tryz.func62, Tryz.ntmps62
    go_wp2
    go_loop [3] (fun i => ∃ k : Nat, i = .int .i64 (k : Int) ∧ k ≤ L ∧ posS (xs.take k)) (fun i => L - (intOf i).toNat)
    case atStart => exact ⟨0, rfl, Nat.zero_le _, fun x h => by simp at h⟩
    case round =>
      obtain ⟨k, rfl, hkL, hp⟩ := hrel
      have HP := Lib.hid hp
      clear hp
      by_cases hlt : k < L
      · obtain ⟨b, off, rfl, hc⟩ := HA.out.at (i := k) (by rw [HL.out]; exact hlt)
        have hx : xs[k]? = some (xs.getD k 0) := by rw [List.getD_eq_getElem?_getD, List.getElem?_eq_getElem (by rw [HL.out]; exact hlt)]; rfl
        obtain ⟨x, hxe⟩ : ∃ x, xs.getD k 0 = x := ⟨_, rfl⟩
        rw [hxe] at hc hx
        have HX := Lib.hid hx
        have hltI : (k : Int) < (L : Int) := by omega
        clear hxe hx
        by_cases h1 : x < 1
        · obtain rfl : c = 13 := by
            rw [← HC.out]
            refine mayC_dim (by rw [HL.out]; omega) fun hp => ?_
            have := hp x (List.mem_of_getElem? HX.out)
            omega
          go_wp2
          go_ret
          exact ⟨rfl, rfl⟩
        · go_wp2
          go_round
          case rel =>
            refine ⟨k + 1, by go_num, by omega, fun y hy => ?_⟩
            rw [List.take_add_one, HX.out, Option.toList_some] at hy
            rcases List.mem_append.1 hy with h | h
            · exact HP.out y h
            · rw [List.mem_singleton.1 h]; omega
          case measure => simp [intOf]; omega
      · obtain rfl : k = L := by omega
        have hpos : posS xs := by
          have := HP.out
          rwa [List.take_of_length_le (by rw [HL.out]; exact Nat.le_refl _)] at this
        have hltI : ¬ (k : Int) < (k : Int) := by omega
        have HQ := Lib.hid hpos
        clear hpos
        go_wp2
        go_loop [4, 5] (fun n i => ∃ j : Nat, i = .int .i64 (j : Int) ∧ j ≤ k ∧ n = .int .i64 (prodS (xs.take j)) ∧ prodS (xs.take j) ≤ 1024) (fun _ i => k - (intOf i).toNat)
        case atStart => exact ⟨0, rfl, Nat.zero_le _, rfl, by simp [prodS]⟩
        case round =>
          obtain ⟨j, rfl, hjk, rfl, hn⟩ := hrel
          have hn1 := prodS_pos (HQ.out.take j)
          obtain ⟨n, hne⟩ : ∃ n, prodS (xs.take j) = n := ⟨_, rfl⟩
          rw [hne] at hn hn1 ⊢
          by_cases hjl : j < k
          · obtain ⟨b, off, rfl, hc⟩ := HA.out.at (i := j) (by rw [HL.out]; exact hjl)
            have hx1 := HQ.out.getD (i := j) (by rw [HL.out]; exact hjl)
            have hst := prodS_take (s := xs) (k := j) (by rw [HL.out]; exact hjl)
            have hle := getD_le_prod HQ.out (k := j) (by rw [HL.out]; exact hjl)
            have hle2 := prodS_take_le HQ.out (j + 1)
            obtain ⟨x, hxe⟩ : ∃ x, xs.getD j 0 = x := ⟨_, rfl⟩
            rw [hxe] at hc hx1 hst hle
            rw [hne] at hst
            rw [hst] at hle2
            have HST := Lib.hid hst
            have HLE := Lib.hid hle
            have HLE2 := Lib.hid hle2
            have hjI : (j : Int) < (k : Int) := by omega
            clear hxe hne hst hle hle2
            by_cases hbig : 1024 < x
            · obtain rfl : c = 14 := by
                rw [← HC.out]
                exact mayC_count (by rw [HL.out]; omega) HQ.out (by have := HLE.out; omega)
              go_wp2
              go_ret
              exact ⟨rfl, rfl⟩
            · have hm0 : 0 ≤ n * x := Int.mul_nonneg (by omega) (by omega)
              have hm1 : n * x ≤ 1024 * 1024 := Int.mul_le_mul (by omega) (by omega) (by omega) (by omega)
              have hw : IntKind.i64.wrap (n * x) = n * x := IntWalk.i64_in _ (by omega)
              obtain ⟨m, hm⟩ : ∃ m, n * x = m := ⟨_, rfl⟩
              rw [hm] at hm0 hm1 hw
              have HM := Lib.hid hm
              by_cases hbig2 : 1024 < m
              · obtain rfl : c = 14 := by
                  rw [← HC.out]
                  exact mayC_count (by rw [HL.out]; omega) HQ.out (by have := HLE2.out; have := HM.out; omega)
                go_wp2
                go_ret
                exact ⟨rfl, rfl⟩
              · go_wp2
                go_round
                case rel => exact ⟨j + 1, by go_num, by omega, by rw [HST.out, HM.out], by rw [HST.out, HM.out]; omega⟩
                case measure => simp [intOf]; omega
          · obtain rfl : j = k := by omega
            obtain rfl : c = 0 := by
              rw [← HC.out]
              refine mayC_ok ⟨by rw [HL.out]; omega, HQ.out, ?_⟩
              rw [List.take_of_length_le (by rw [HL.out]; exact Nat.le_refl _)] at hne
              rw [hne]
              exact hn
            have hjI : ¬ (j : Int) < (j : Int) := by omega
            clear hne
            go_wp2
            go_ret
            exact ⟨rfl, rfl⟩
set_option maxRecDepth 100000 in
set_option maxHeartbeats 2000000 in
theorem countR6_any {u : Value} {xs : List Int} {ad : Option Addr} {cap : Nat} {w : World} (A : ArgS w u xs ad cap) :
    Calls Tryz.prog 63 #[u] w fun e w' => e = .returned (.int .i64 (countS xs)) ∧ w = w' := by
  have hm := mayR6_any A
  have HA := Lib.hid A
  obtain rfl := A.is
  by_cases h0 : mayC xs = 0
  · have ok := mayC_zero.1 h0
    rw [ok.count]
    rw [h0] at hm
    obtain ⟨L, hL⟩ : ∃ L, xs.length = L := ⟨_, rfl⟩
    have HL := Lib.hid hL
    obtain ⟨P, hP⟩ : ∃ P, prodS xs = P := ⟨_, rfl⟩
    have HP := Lib.hid hP
    rw [hL] at hm ⊢
    rw [hP]
    have HO := Lib.hid ok
    have h4 : L ≤ 4 := by rw [← hL]; exact ok.rank
    clear A hL hP ok h0
    go_enter Tryz.func63, Tryz.ntmps63
    go_wp2_with (go_at_call 62; refine hm.mono ?_; rintro e w1 ⟨rfl, rfl⟩)
    clear hm
    go_loop [3, 4] (fun n i => ∃ j : Nat, i = .int .i64 (j : Int) ∧ j ≤ L ∧ n = .int .i64 (prodS (xs.take j))) (fun _ i => L - (intOf i).toNat)
    case atStart => exact ⟨0, rfl, Nat.zero_le _, rfl⟩
    case round =>
      obtain ⟨j, rfl, hjk, rfl⟩ := hrel
      have hn1 := prodS_pos (HO.out.pos.take j)
      have hn2 := prodS_take_le HO.out.pos j
      have hf := HO.out.few
      obtain ⟨n, hne⟩ : ∃ n, prodS (xs.take j) = n := ⟨_, rfl⟩
      rw [hne] at hn1 hn2 ⊢
      by_cases hjl : j < L
      · obtain ⟨b, off, rfl, hc⟩ := HA.out.at (i := j) (by rw [HL.out]; exact hjl)
        have hx1 := HO.out.pos.getD (i := j) (by rw [HL.out]; exact hjl)
        have hst := prodS_take (s := xs) (k := j) (by rw [HL.out]; exact hjl)
        have hle := getD_le_prod HO.out.pos (k := j) (by rw [HL.out]; exact hjl)
        obtain ⟨x, hxe⟩ : ∃ x, xs.getD j 0 = x := ⟨_, rfl⟩
        rw [hxe] at hc hx1 hst hle
        rw [hne] at hst
        have hm0 : 0 ≤ n * x := Int.mul_nonneg (by omega) (by omega)
        have hm1 : n * x ≤ 1024 * 1024 := Int.mul_le_mul (by omega) (by omega) (by omega) (by omega)
        have hw : wrap64 (n * x) = n * x := by unfold wrap64; omega
        have HST := Lib.hid hst
        have hjI : (j : Int) < (L : Int) := by omega
        clear hxe hne hst hle hf hn2
        go_wp2
        go_round
        case rel => exact ⟨j + 1, by go_num, by omega, by rw [HST.out]⟩
        case measure => simp [intOf]; omega
      · obtain rfl : j = L := by omega
        obtain rfl : n = P := by
          rw [← hne, List.take_of_length_le (by rw [HL.out]; exact Nat.le_refl _)]; exact HP.out
        have hjI : ¬ (j : Int) < (j : Int) := by omega
        clear hne
        go_wp2
        go_ret
        exact ⟨rfl, rfl⟩
  · rw [count_bad h0]
    obtain ⟨c, hc⟩ : ∃ c, mayC xs = c := ⟨_, rfl⟩
    rw [hc] at hm h0
    have hne : (c != 0) = true := by simpa using h0
    clear h0 hc A
    go_enter Tryz.func63, Tryz.ntmps63
    go_wp2_with (go_at_call 62; refine hm.mono ?_; rintro e w1 ⟨rfl, rfl⟩)
    go_ret
    exact ⟨rfl, rfl⟩
end
section
open Go.RowKit
set_option linter.unusedVariables false
set_option linter.unusedSimpArgs false
theorem belowS_drew (B : Nat) (w : World) (n : Nat) : Below B w (w.drewN n) := ⟨rfl, rfl, rfl, Nat.le_refl _, fun _ _ => rfl⟩
theorem take_all {xs : List Int} {n : Nat} (h : xs.length = n) : xs.take n = xs := List.take_of_length_le (by omega)
theorem getD_some {xs : List Int} {k : Nat} (h : k < xs.length) : xs[k]? = some (xs.getD k 0) := by rw [List.getD_eq_getElem?_getD, List.getElem?_eq_getElem h]; rfl
theorem take_next {xs : List Int} {k : Nat} (h : k < xs.length) : xs.take (k + 1) = xs.take k ++ [xs.getD k 0] := by rw [List.take_add_one, getD_some h]; rfl
/-- a dimension from the end -/
def backS (s : List Int) (k : Nat) : Int := if s.length < k then 0 else s.getD (s.length - k) 0
end
section
open Go.RowKit
set_option linter.unusedVariables false
set_option linter.unusedSimpArgs false
/-- from the end on, up to k dimensions, does a shape fit? -/
def fitU (f t : List Int) (k : Nat) : Prop := ∀ j, 1 ≤ j → j ≤ k → backS t j ≠ 0 ∧ (backS f j = 1 ∨ backS f j = backS t j)
instance fitU_dec (f t : List Int) (k : Nat) : Decidable (fitU f t k) := decidable_of_iff (∀ j, j < k + 1 → 1 ≤ j → backS t j ≠ 0 ∧ (backS f j = 1 ∨ backS f j = backS t j))
  ⟨fun h j h1 h2 => h j (by omega) h1, fun h j h1 h2 => h j h2 (by omega)⟩
end
section
open Go.RowKit
set_option linter.unusedVariables false
set_option linter.unusedSimpArgs false
/-- block g has room for cap numbers, of which the first are zs -/
def PartS (w : World) (g cap : Nat) (zs : List Int) : Prop := ∃ cur : Array Value, w.heap[g]? = some (.cells cur 3 (0, 0)) ∧ cur.size = cap ∧ zs.length ≤ cap ∧ cur.toList.take zs.length = zs.map (Value.int .i64)
theorem PartS.cell {w : World} {g cap : Nat} {zs : List Int} (h : PartS w g cap zs) (i : Nat) (hi : i < zs.length) : w.cell? ⟨g, i, none⟩ = some (.int .i64 (zs.getD i 0)) := by
  obtain ⟨cur, hh, hs, hl, ht⟩ := h
  have e : w.cell? ⟨g, i, none⟩ = cur[i]? := cell_of_row w g i _ 3 (0, 0) hh
  rw [e]
  have h1 : (cur.toList.take zs.length)[i]? = cur[i]? := by rw [List.getElem?_take_of_lt hi]; simp
  rw [← h1, ht]
  simp [hi]
theorem PartS.free {w : World} {g cap : Nat} {zs : List Int} (h : PartS w g cap zs) (i : Nat) : w.frozen? ⟨g, i, none⟩ = false := by
  obtain ⟨cur, hh, _⟩ := h
  exact frozen_of_row w g i _ 3 hh
theorem PartS.lt {w : World} {g cap : Nat} {zs : List Int} (h : PartS w g cap zs) : g < w.heap.size := by obtain ⟨cur, hh, _⟩ := h; exact lt_of_block hh
theorem PartS.le {w : World} {g cap : Nat} {zs : List Int} (h : PartS w g cap zs) : zs.length ≤ cap := by obtain ⟨_, _, _, h, _⟩ := h; exact h
theorem PartS.same {w w' : World} {g cap : Nat} {zs : List Int} (h : PartS w g cap zs) (e : w'.heap[g]? = w.heap[g]?) : PartS w' g cap zs := by
  obtain ⟨cur, hh, r⟩ := h
  exact ⟨cur, e.trans hh, r⟩
theorem PartS.later {w w' : World} {g cap : Nat} {zs : List Int} (h : PartS w g cap zs) (k : Below w.heap.size w w') : PartS w' g cap zs := h.same (k.block g h.lt)
theorem PartS.far {w : World} {g cap : Nat} {zs : List Int} (h : PartS w g cap zs) {p : Addr} (hne : g ≠ p.block) (u : Value) : PartS (w.setCell p u) g cap zs := h.same (Below.heap_setCell _ _ _ _ hne)
theorem PartS.set {w : World} {g cap : Nat} {zs : List Int} (h : PartS w g cap zs) (i : Nat) (hi : i < zs.length) (x : Int) : PartS (w.setCell ⟨g, i, none⟩ (.int .i64 x)) g cap (zs.set i x) := by
  obtain ⟨cur, hh, hs, hl, ht⟩ := h
  refine ⟨cur.setIfInBounds i (.int .i64 x), ?_, by simpa using hs, by simpa using hl, ?_⟩
  · have e := heap_setCell_same w g i _ 3 (.int .i64 x) hh
    rw [e]
  · rw [List.length_set, Array.toList_setIfInBounds, List.take_set, ht, List.map_set]
theorem PartS.num {base g cap : Nat} {w : World} {zs : List Int} (h : PartS w g cap zs) (hb : base ≤ g) (hm : cap ≤ maxLen) : NumS base w (.slice (some ⟨g, 0, none⟩) zs.length cap) zs := by
  obtain ⟨cur, hh, hs, hl, ht⟩ := h
  exact ⟨by simp, .inr ⟨g, cap, cur, rfl, hb, hh, hl, hm, by simpa using hs, by simpa using ht⟩⟩
theorem ResS.grown {base : Nat} {w w' : World} {u : Value} {xs : List Int} {row : Option Nat} (h : ResS base w u xs) (k : w.grownBy w' row) (hb : ∀ g, u.ownBlock = some g → some g ≠ row) : ResS base w' u xs := by
  refine ⟨?_, h.wf⟩
  obtain ⟨h1, h2⟩ := h.num
  refine ⟨h1, ?_⟩
  rcases h2 with h2 | ⟨r, cap, cur, rfl, hr, hh, hrest⟩
  · exact .inl h2
  · exact .inr ⟨r, cap, cur, rfl, hr, (k.block r (lt_of_block hh) (hb r rfl)).trans hh, hrest⟩
/-- a slice of slices of numbers, all of the call's own -/
def RowsS (base : Nat) (w : World) (v : Value) (L : List (List Int)) : Prop :=
  ∃ vals : List Value, w.ownsRow base 22 1 v vals.length vals ∧ vals.length = L.length ∧ ∀ i, i < L.length → ∃ u, vals[i]? = some u ∧ ResS base w u (L.getD i [])
theorem RowsS.later {base : Nat} {w w' : World} {v : Value} {L : List (List Int)} (h : RowsS base w v L) (hb : Below w.heap.size w w') : RowsS base w' v L := by
  obtain ⟨vals, h1, h2, h3⟩ := h
  refine ⟨vals, ?_, h2, fun i hi => ?_⟩
  · obtain ⟨m1, m2⟩ := h1
    refine ⟨m1, ?_⟩
    rcases m2 with m2 | ⟨r, cap, cur, rfl, hr, hh, hrest⟩
    · exact .inl m2
    · exact .inr ⟨r, cap, cur, rfl, hr, (hb.block r (lt_of_block hh)).trans hh, hrest⟩
  · obtain ⟨u, e, R⟩ := h3 i hi
    exact ⟨u, e, R.later hb⟩
theorem RowsS.slice {base : Nat} {w : World} {v : Value} {L : List (List Int)} (h : RowsS base w v L) (hn : L ≠ []) : ∃ g cap, v = .slice (some ⟨g, 0, none⟩) L.length cap ∧ base ≤ g ∧ L.length ≤ cap ∧ cap ≤ maxLen ∧
    ∀ i, i < L.length → ∃ u, w.cell? ⟨g, i, none⟩ = some u ∧ ResS base w u (L.getD i []) := by
  obtain ⟨vals, h1, h2, h3⟩ := h
  obtain ⟨m1, m2⟩ := h1
  rcases m2 with ⟨e, h0⟩ | ⟨r, cap, cur, rfl, hr, hh, hc, hm, hs, ht⟩
  · exact absurd (List.eq_nil_of_length_eq_zero (by omega)) hn
  · refine ⟨r, cap, by rw [h2], hr, by omega, hm, fun i hi => ?_⟩
    obtain ⟨u, e, R⟩ := h3 i hi
    refine ⟨u, ?_, R⟩
    have hj := World.ownsRow.cellAt (w := w) (base := base) (e := 22) (size := 1) (g := r) (n := vals.length) (cap := cap) (xs := vals) ⟨m1, .inr ⟨r, cap, cur, rfl, hr, hh, hc, hm, hs, ht⟩⟩ i (by omega)
    rw [hj, e]
theorem RowsS.apart {base : Nat} {w : World} {v u : Value} {vals : List Value} {n : Nat} {xs : List Int} (h : w.ownsRow base 22 1 v n vals) (R : ResS base w u xs) : ∀ g, u.ownBlock = some g → some g ≠ v.ownBlock := by
  intro g hg he
  obtain ⟨_, m2⟩ := h
  obtain ⟨_, r2⟩ := R.num
  rcases r2 with ⟨rfl, _⟩ | ⟨r, cap, cur, rfl, _, hh, _⟩
  · cases hg
  · simp [Value.ownBlock] at hg
    subst hg
    rcases m2 with ⟨rfl, _⟩ | ⟨q, cap2, cur2, rfl, _, hh2, _⟩
    · cases he
    · simp [Value.ownBlock] at he
      subst he
      have := hh.symm.trans hh2
      simp at this
end
section
set_option linter.unusedVariables false
set_option linter.unusedSimpArgs false
def invL (p : List Int) : List Int := (List.range p.length).map fun i : Nat => (p.idxOf (i : Int) : Int)
end
section
set_option linter.unusedVariables false
set_option linter.unusedSimpArgs false
theorem perm_of_all {p q : List Int} (hq : q.Nodup) (hs : ∀ x, x ∈ q → x ∈ p) (hl : p.length ≤ q.length) : p.Perm q := by
  induction q generalizing p with
  | nil =>
    obtain rfl := List.eq_nil_of_length_eq_zero (show p.length = 0 by simpa using hl)
    exact List.Perm.refl _
  | cons a q ih =>
    obtain ⟨l1, l2, rfl⟩ := List.append_of_mem (hs a (List.mem_cons_self ..))
    rw [List.nodup_cons] at hq
    have h2 := ih (p := l1 ++ l2) hq.2 (fun x hx => by
      have := hs x (List.mem_cons_of_mem _ hx)
      have hne : x ≠ a := fun e => hq.1 (e ▸ hx)
      rcases List.mem_append.1 this with h | h
      · exact List.mem_append.2 (.inl h)
      · rcases List.mem_cons.1 h with h | h
        · exact absurd h hne
        · exact List.mem_append.2 (.inr h)) (by simp only [List.length_append, List.length_cons] at hl ⊢; omega)
    exact (List.perm_middle).trans (List.Perm.cons a h2)
def upS (n : Nat) : List Int := (List.range n).map fun i : Nat => (i : Int)
theorem upS_length (n : Nat) : (upS n).length = n := by simp [upS]
theorem mem_upS {n : Nat} {x : Int} : x ∈ upS n ↔ 0 ≤ x ∧ x < n := by
  unfold upS
  rw [List.mem_map]
  constructor
  · rintro ⟨i, hi, rfl⟩
    rw [List.mem_range] at hi
    omega
  · intro h
    exact ⟨x.toNat, List.mem_range.2 (by omega), by omega⟩
structure IsPerm (p : List Int) : Prop where
  nodup : p.Nodup
  mem : ∀ x, x ∈ p ↔ 0 ≤ x ∧ x < p.length
theorem invL_length (p : List Int) : (invL p).length = p.length := by simp [invL]
theorem invL_at (p : List Int) {i : Nat} (h : i < p.length) : (invL p).getD i 0 = (p.idxOf (i : Int) : Int) := by
  unfold invL
  rw [List.getD_eq_getElem?_getD, List.getElem?_map, List.getElem?_range h]; rfl
theorem getD_elem {p : List Int} {i : Nat} (h : i < p.length) : p.getD i 0 = p[i] := by simp [List.getD_eq_getElem?_getD, List.getElem?_eq_getElem h]
theorem back_pos {s : List Int} (ok : OkS s) {k : Nat} (h1 : 1 ≤ k) (h2 : k ≤ s.length) : 1 ≤ backS s k := by
  unfold backS
  rw [if_neg (by omega)]
  exact ok.pos.getD (by omega)
end
section
open Go.RowKit
/-- a slice of numbers, in a block from lo on, that is not block g -/
def CellzS (lo g : Nat) (w : World) (v : Value) : Prop :=
  ∃ ad n cap, v = .slice ad n cap ∧ n ≤ maxLen ∧ (n = 0 ∨ ∃ b cur, ad = some ⟨b, 0, none⟩ ∧ lo ≤ b ∧ b < g ∧ w.heap[b]? = some (.cells cur 3 (0, 0)) ∧ ∀ k, k < n → ∃ z, cur[k]? = some (.int .i64 z))
theorem CellzS.nil (lo g : Nat) (w : World) : CellzS lo g w (.slice none 0 0) := ⟨none, 0, 0, rfl, by unfold maxLen; omega, .inl rfl⟩
theorem CellzS.later {lo g : Nat} {w w' : World} {v : Value} (h : CellzS lo g w v) (hb : Below g w w') : CellzS lo g w' v := by
  obtain ⟨ad, n, cap, rfl, hm, h⟩ := h
  refine ⟨ad, n, cap, rfl, hm, ?_⟩
  rcases h with h | ⟨b, cur, rfl, h1, h2, h3, h4⟩
  · exact .inl h
  · exact .inr ⟨b, cur, rfl, h1, h2, (hb.block b h2).trans h3, h4⟩
theorem CellzS.mono {lo g g' : Nat} {w : World} {v : Value} (h : CellzS lo g w v) (hg : g ≤ g') : CellzS lo g' w v := by
  obtain ⟨ad, n, cap, rfl, hm, h⟩ := h
  refine ⟨ad, n, cap, rfl, hm, ?_⟩
  rcases h with h | ⟨b, cur, rfl, h1, h2, h3, h4⟩
  · exact .inl h
  · exact .inr ⟨b, cur, rfl, h1, by omega, h3, h4⟩
theorem CellzS.next {lo : Nat} {w w' : World} {v : Value} (h : CellzS lo w.heap.size w v) (hb : Below w.heap.size w w') : CellzS lo w'.heap.size w' v := (h.later hb).mono hb.size
theorem CellzS.set {lo g : Nat} {w : World} {v : Value} (h : CellzS lo g w v) (b' k' : Nat) (z' : Int) : CellzS lo g (w.setCell ⟨b', k', none⟩ (.int .i64 z')) v := by
  obtain ⟨ad, n, cap, rfl, hm, h⟩ := h
  refine ⟨ad, n, cap, rfl, hm, ?_⟩
  rcases h with h | ⟨b, cur, rfl, h1, h2, h3, h4⟩
  · exact .inl h
  · by_cases e : b = b'
    · subst e
      refine .inr ⟨b, _, rfl, h1, h2, heap_setCell_same w b k' cur 3 (.int .i64 z') h3, fun k hk => ?_⟩
      obtain ⟨z, hz⟩ := h4 k hk
      rw [Array.getElem?_setIfInBounds]
      by_cases ek : k' = k
      · subst ek
        rw [if_pos rfl, if_pos (Array.getElem?_eq_some_iff.1 hz).1]
        exact ⟨z', rfl⟩
      · rw [if_neg ek]
        exact ⟨z, hz⟩
    · exact .inr ⟨b, cur, rfl, h1, h2, (Below.heap_setCell _ _ _ _ e).trans h3, h4⟩
end
section
open Go.RowKit
set_option linter.unusedVariables false
set_option linter.unusedSimpArgs false
/-- what has been counted of the first k dimensions: the product, the error -/
def Cnt (s : List Int) (k : Nat) (n e : Int) : Prop := posS (s.take k) ∧ 1 ≤ n ∧ n ≤ 1024 ∧ (e = 0 ∧ n = prodS (s.take k) ∨ e = 14 ∧ 1024 < prodS (s.take k))
theorem Cnt.nil (s : List Int) : Cnt s 0 1 0 := ⟨(fun x h => by simp at h), by omega, by omega, .inl ⟨rfl, rfl⟩⟩
theorem quo_lt {d n : Int} (h1 : 1 ≤ n) : 1024 / n < d ↔ 1024 < n * d := by
  rw [Int.ediv_lt_iff_lt_mul (by omega), Int.mul_comm]
theorem take_pos {s : List Int} {k : Nat} {d : Int} (h : posS (s.take k)) (hd : s[k]? = some d) (h1 : 1 ≤ d) : posS (s.take (k + 1)) := by
  rw [List.take_add_one, hd, Option.toList_some]
  intro x hx
  rcases List.mem_append.1 hx with h2 | h2
  · exact h x h2
  · rw [List.mem_singleton.1 h2]; exact h1
theorem prod_next {s : List Int} {k : Nat} {d : Int} (hd : s[k]? = some d) : prodS (s.take (k + 1)) = prodS (s.take k) * d := by
  have hk : k < s.length := by
    rcases Nat.lt_or_ge k s.length with g | g
    · exact g
    · rw [List.getElem?_eq_none g] at hd; cases hd
  rw [prodS_take hk, List.getD_eq_getElem?_getD, hd]
  rfl
theorem Cnt.big {s : List Int} {k : Nat} {n e d : Int} (h : Cnt s k n e) (hd : s[k]? = some d) (h1 : 1 ≤ d) (h2 : 1024 / n < d) : Cnt s (k + 1) n 14 := by
  obtain ⟨hp, n1, n2, h3⟩ := h
  refine ⟨take_pos hp hd h1, n1, n2, .inr ⟨rfl, ?_⟩⟩
  rw [prod_next hd]
  rw [quo_lt n1] at h2
  rcases h3 with ⟨_, rfl⟩ | ⟨_, h4⟩
  · exact h2
  · have := Int.mul_le_mul_of_nonneg_left h1 (show 0 ≤ prodS (s.take k) by omega)
    omega
theorem Cnt.next {s : List Int} {k : Nat} {n e d : Int} (h : Cnt s k n e) (hd : s[k]? = some d) (h1 : 1 ≤ d) (h2 : ¬ 1024 / n < d) : Cnt s (k + 1) (n * d) e ∧ 1 ≤ n * d ∧ n * d ≤ 1024 := by
  obtain ⟨hp, n1, n2, h3⟩ := h
  rw [quo_lt n1] at h2
  have h5 : 1 * 1 ≤ n * d := Int.mul_le_mul n1 h1 (by omega) (by omega)
  refine ⟨⟨take_pos hp hd h1, by omega, by omega, ?_⟩, by omega, by omega⟩
  rw [prod_next hd]
  rcases h3 with ⟨h3, rfl⟩ | ⟨h3, h4⟩
  · exact .inl ⟨h3, rfl⟩
  · refine .inr ⟨h3, ?_⟩
    have := Int.mul_le_mul_of_nonneg_left h1 (show 0 ≤ prodS (s.take k) by omega)
    omega
set_option maxRecDepth 100000 in
set_option maxHeartbeats 2000000 in
theorem cnt_any {u : Value} {xs : List Int} {ad : Option Addr} {cap : Nat} {w : World} (A : ArgS w u xs ad cap) :
    Calls Tryz.prog 151 #[u] w fun e w' => e = .returned (.tuple #[.int .i64 (countS xs), .int .i64 (mayC xs)]) ∧ w = w' := by
  have HA := Lib.hid A
  obtain rfl := A.is
  obtain ⟨L, hL⟩ : ∃ L, xs.length = L := ⟨_, rfl⟩
  have HL := Lib.hid hL
  obtain ⟨c, hc⟩ : ∃ c, mayC xs = c := ⟨_, rfl⟩
  have HC := Lib.hid hc
  obtain ⟨t, ht⟩ : ∃ t, countS xs = t := ⟨_, rfl⟩
  have HT := Lib.hid ht
  rw [hL, hc, ht]
  clear A hL hc ht
  by_cases h4 : 4 < L
  · have hm : mayC xs = 14 := mayC_rank (by rw [HL.out]; exact h4)
    obtain rfl : c = 14 := by rw [← HC.out]; exact hm
    obtain rfl : t = 0 := by rw [← HT.out]; exact count_bad (by rw [hm]; decide)
    have h4I : (4 : Int) < (L : Int) := by omega
    clear hm
    go_enter Tryz.func151, Tryz.ntmps151
    go_wp2
    go_step3
    go_wp2
    rw [Exit.noGoto_ret]
    go_ret2
    exact ⟨rfl, rfl⟩
  · have h4I : ¬ (4 : Int) < (L : Int) := by omega
    go_enter Tryz.func151, Tryz.ntmps151
    go_wp2
    go_step3
    go_wp2
    go_step3
    go_wp2
    go_loop [4, 5, 13] (fun n e i => ∃ (k : Nat) (N E : Int), i = .int .i64 (k : Int) ∧ n = .int .i64 N ∧ e = .int .i64 E ∧ k ≤ L ∧ Cnt xs k N E) (fun _ _ i => L - (intOf i).toNat)
    case atStart => exact ⟨0, 1, 0, rfl, rfl, rfl, Nat.zero_le _, Cnt.nil _⟩
    case round =>
      obtain ⟨k, N, E, rfl, rfl, rfl, hkL, hI⟩ := hrel
      obtain ⟨hp, n1, n2, hE⟩ := hI
      by_cases hlt : k < L
      · obtain ⟨b, off, rfl, hc⟩ := HA.out.at (i := k) (by rw [HL.out]; exact hlt)
        have hx : xs[k]? = some (xs.getD k 0) := by rw [List.getD_eq_getElem?_getD, List.getElem?_eq_getElem (by rw [HL.out]; exact hlt)]; rfl
        obtain ⟨x, hxe⟩ : ∃ x, xs.getD k 0 = x := ⟨_, rfl⟩
        rw [hxe] at hc hx
        have HX := Lib.hid hx
        have hltI : (k : Int) < (L : Int) := by omega
        have HI : Hid (Cnt xs k N E) := Lib.hid ⟨hp, n1, n2, hE⟩
        clear hxe hx hp hE
        by_cases h1 : x < 1
        · have hm : mayC xs = 13 := by
            refine mayC_dim (by rw [HL.out]; omega) fun hp => ?_
            have := hp x (List.mem_of_getElem? HX.out)
            omega
          obtain rfl : c = 13 := by rw [← HC.out]; exact hm
          obtain rfl : t = 0 := by rw [← HT.out]; exact count_bad (by rw [hm]; decide)
          clear hm
          go_wp2
          go_ret2
          exact ⟨rfl, rfl⟩
        · by_cases h2 : 1024 / N < x
          · go_wp2
            go_round
            case rel => exact ⟨k + 1, N, 14, by go_num, rfl, rfl, by omega, HI.out.big HX.out (by omega) h2⟩
            case measure => simp [intOf]; omega
          · obtain ⟨hI, m1, m2⟩ := HI.out.next HX.out (by omega) h2
            have hw : wrap64 (N * x) = N * x := by unfold wrap64; omega
            have HJ := Lib.hid hI
            clear hI
            go_wp2
            go_round
            case rel => exact ⟨k + 1, _, E, by go_num, by first | rfl | rw [hw], rfl, by omega, HJ.out⟩
            case measure => simp [intOf]; omega
      · obtain rfl : k = L := by omega
        have hltI : ¬ (k : Int) < (k : Int) := by omega
        rw [List.take_of_length_le (by rw [HL.out]; exact Nat.le_refl _)] at hE hp
        rcases hE with ⟨rfl, hN⟩ | ⟨rfl, hN⟩
        · have ok : OkS xs := ⟨by rw [HL.out]; omega, hp, by omega⟩
          obtain rfl : c = 0 := by rw [← HC.out]; exact mayC_ok ok
          obtain rfl : t = N := by rw [← HT.out, ok.count]; exact hN.symm
          clear hN hp ok
          go_wp2
          go_ret2
          exact ⟨rfl, rfl⟩
        · have hm : mayC xs = 14 := mayC_count (by rw [HL.out]; omega) hp hN
          obtain rfl : c = 14 := by rw [← HC.out]; exact hm
          obtain rfl : t = 0 := by rw [← HT.out]; exact count_bad (by rw [hm]; decide)
          clear hN hp hm
          go_wp2
          go_ret2
          exact ⟨rfl, rfl⟩
set_option maxRecDepth 100000 in
set_option maxHeartbeats 2000000 in
theorem mayS_eq {u : Value} {xs : List Int} {ad : Option Addr} {cap : Nat} {w : World} (A : ArgS w u xs ad cap) :
    Calls Tryz.prog 123 #[u] w fun e w' => e = .returned (.int .i64 (mayC xs)) ∧ w = w' := by
  have h := cnt_any A
  obtain rfl := A.is
  obtain ⟨c, hc⟩ : ∃ c, mayC xs = c := ⟨_, rfl⟩
  obtain ⟨t, ht⟩ : ∃ t, countS xs = t := ⟨_, rfl⟩
  obtain ⟨L, hL⟩ : ∃ L, xs.length = L := ⟨_, rfl⟩
  rw [hc, ht, hL] at h
  rw [hc, hL]
  clear A hc ht hL
  go_enter Tryz.func123, Tryz.ntmps123
  go_wp2_with (go_at_call 151; refine h.mono ?_; rintro e w1 ⟨rfl, rfl⟩)
  go_ret
  exact ⟨rfl, rfl⟩
set_option maxRecDepth 100000 in
set_option maxHeartbeats 2000000 in
theorem countS_eq {u : Value} {xs : List Int} {ad : Option Addr} {cap : Nat} {w : World} (A : ArgS w u xs ad cap) :
    Calls Tryz.prog 124 #[u] w fun e w' => e = .returned (.int .i64 (countS xs)) ∧ w = w' := by
  have h := cnt_any A
  obtain rfl := A.is
  obtain ⟨c, hc⟩ : ∃ c, mayC xs = c := ⟨_, rfl⟩
  obtain ⟨t, ht⟩ : ∃ t, countS xs = t := ⟨_, rfl⟩
  obtain ⟨L, hL⟩ : ∃ L, xs.length = L := ⟨_, rfl⟩
  rw [hc, ht, hL] at h
  rw [ht, hL]
  clear A hc ht hL
  go_enter Tryz.func124, Tryz.ntmps124
  go_wp2_with (go_at_call 151; refine h.mono ?_; rintro e w1 ⟨rfl, rfl⟩)
  go_ret
  exact ⟨rfl, rfl⟩
set_option maxRecDepth 100000 in
set_option maxHeartbeats 4000000 in
theorem eqI_any {w : World} {xs ys : List Int} {a b : Option Addr} {c d : Nat} (A : ArgS w (.slice a xs.length c) xs a c) (B : ArgS w (.slice b ys.length d) ys b d) (hx : xs.length ≤ 70368744177664) (hy : ys.length ≤ 70368744177664) :
    Calls Tryz.prog 119 #[.slice a xs.length c, .slice b ys.length d] w fun e w' => e = .returned (.bool (decide (xs = ys))) ∧ Below w.heap.size w w' := by
  by_cases hl : xs.length = ys.length
  case neg =>
    have hne : decide (xs = ys) = false := decide_eq_false (fun h => hl (by rw [h]))
    have hn1 : ((xs.length : Int) != (ys.length : Int)) = true := by simp; omega
    rw [hne]
    clear hl hne
    go_enter Tryz.func119, Tryz.ntmps119
    go_wp2_with fail
    go_ret
    exact ⟨rfl, Below.refl _ _⟩
  obtain ⟨m, hm⟩ : ∃ m, xs.length = m := ⟨_, rfl⟩
  have hm2 : ys.length = m := by omega
  have la := A.lim
  have lb := B.lim
  have hext : (∀ j, j < m → xs.getD j 0 = ys.getD j 0) → xs = ys := by
    intro h
    apply List.ext_getElem (by omega)
    intro i h1 h2
    have := h i (by omega)
    simpa [h1, h2] using this
  have HX := Lib.hid hext
  have hmm : ((m : Int) != (m : Int)) = false := by simp
  have HL1 := Lib.hid hm
  have HL2 := Lib.hid hm2
  rw [hm] at hx ⊢
  rw [hm2]
  clear hl hm hm2 hext A B hy
  go_enter Tryz.func119, Tryz.ntmps119
  go_wp2_with fail
  go_loopw [5, 13] (fun _ i wr => ∃ k : Nat, i = .int .i64 k ∧ k ≤ m ∧ (∀ j, j < k → xs.getD j 0 = ys.getD j 0) ∧ Below w.heap.size w wr) (fun _ i _ => m - (intOf i).toNat)
  case atStart => exact ⟨0, rfl, Nat.zero_le _, fun j hj => by omega, Below.refl _ _⟩
  case round =>
    obtain ⟨k, rfl, hk, hall, hb⟩ := hrel
    have HA := Lib.hid hall
    clear hall
    by_cases hlt : k < m
    · have HK := Lib.hid hlt
      obtain ⟨p, o, rfl, c1⟩ : ∃ p o, a = some ⟨p, o, none⟩ ∧ wr.cell? ⟨p, o + k, none⟩ = some (.int .i64 (xs.getD k 0)) := by
        rcases la.later hb with e | ⟨p, o, e, hc⟩
        · rw [e] at HL1; have := HL1.out; simp at this; omega
        · exact ⟨p, o, e, hc k (by rw [HL1.out]; exact hlt)⟩
      obtain ⟨p2, o2, rfl, c2⟩ : ∃ p o, b = some ⟨p, o, none⟩ ∧ wr.cell? ⟨p, o + k, none⟩ = some (.int .i64 (ys.getD k 0)) := by
        rcases lb.later hb with e | ⟨p, o, e, hc⟩
        · rw [e] at HL2; have := HL2.out; simp at this; omega
        · exact ⟨p, o, e, hc k (by rw [HL2.out]; exact hlt)⟩
      obtain ⟨x, hxk⟩ : ∃ x, xs.getD k 0 = x := ⟨_, rfl⟩
      obtain ⟨y, hyk⟩ : ∃ y, ys.getD k 0 = y := ⟨_, rfl⟩
      rw [hxk] at c1
      rw [hyk] at c2
      have HXK := Lib.hid hxk
      have HYK := Lib.hid hyk
      have hk0 : (0 : Int) ≤ (k : Int) := Int.natCast_nonneg _
      have hk1 : (k : Int) < (m : Int) := by omega
      clear hxk hyk la lb
      by_cases e : x = y
      · have hne : (x != y) = false := by simp [e]
        have fin : ∃ j : Nat, Value.int .i64 ((k : Int) + 1) = .int .i64 j ∧ j ≤ m ∧ (∀ i, i < j → xs.getD i 0 = ys.getD i 0) :=
          ⟨k + 1, by go_num, HK.out, fun i hi => by
            by_cases h : i = k
            · subst h; rw [HXK.out, HYK.out]; exact e
            · exact HA.out i (by omega)⟩
        have FIN := Lib.hid fin
        clear fin e
        go_wp2_with fail
        go_quiet (fail)
        go_wp2_with fail
        go_roundw
        case rel =>
          obtain ⟨j, h1, h2, h3⟩ := FIN.out
          exact ⟨j, h1, h2, h3, ⟨hb.os, hb.tape, hb.output, hb.size, hb.block⟩⟩
        case measure => have := HK.out; simp [intOf]; omega
      · have hne : (x != y) = true := by simp [e]
        have hd : decide (xs = ys) = false := decide_eq_false (fun h => e (by rw [← HXK.out, ← HYK.out, h]))
        have HD := Lib.hid hd
        clear e hd
        go_wp2_with fail
        go_quiet (fail)
        go_wp2_with fail
        go_ret
        exact ⟨by rw [HD.out]; rfl, ⟨hb.os, hb.tape, hb.output, hb.size, hb.block⟩⟩
    · obtain rfl : k = m := by omega
      have hd : decide (xs = ys) = true := decide_eq_true (HX.out HA.out)
      have HD := Lib.hid hd
      clear hd
      go_wp2_with fail
      go_ret
      exact ⟨by rw [HD.out]; rfl, hb⟩
set_option maxRecDepth 100000 in
set_option maxHeartbeats 2000000 in
theorem sameS_any {u v : Value} {xs ys : List Int} {a b : Option Addr} {ca cb : Nat} {w : World} (A : ArgS w u xs a ca) (B : ArgS w v ys b cb) (ha : a = none → ca = 0) (hb : b = none → cb = 0) (hx : xs.length ≤ 17592186044416) (hy : ys.length ≤ 17592186044416) :
    Calls Tryz.prog 78 #[u, v] w fun e w' => e = .returned (.bool (decide (xs = ys))) ∧ Below w.heap.size w w' := by
  obtain rfl := A.is
  obtain rfl := B.is
  have h := eqI_any A B (by omega) (by omega)
  obtain ⟨t, ht⟩ : ∃ t, decide (xs = ys) = t := ⟨_, rfl⟩
  obtain ⟨n, hn⟩ : ∃ n, xs.length = n := ⟨_, rfl⟩
  obtain ⟨m, hm⟩ : ∃ n, ys.length = n := ⟨_, rfl⟩
  rw [ht, hn, hm] at h
  rw [ht, hn, hm]
  clear A B ha hb hx hy ht hn hm
  go_enter Tryz.func78, Tryz.ntmps78
  go_wp2_with (go_at_call 119; refine h.mono ?_; rintro e w1 ⟨rfl, hb⟩)
  go_ret
  exact ⟨rfl, hb⟩
end
section
open Go.RowKit
set_option linter.unusedVariables false
set_option linter.unusedSimpArgs false
/-- the first k numbers are axes; the last one of them -/
def axU (l : List Int) (rank : Int) (k : Nat) : Prop := ∀ i, i < k → (0 ≤ l.getD i 0 ∧ l.getD i 0 < rank) ∧ (0 < i → l.getD (i - 1) 0 < l.getD i 0)
def lastS (l : List Int) : Nat → Int
  | 0 => -1
  | k + 1 => l.getD k 0
theorem axU.next {l : List Int} {rank : Int} {k : Nat} (h : axU l rank k) (h0 : lastS l k < l.getD k 0) (h1 : 0 ≤ l.getD k 0) (h2 : l.getD k 0 < rank) : axU l rank (k + 1) := by
  intro i hi
  by_cases e : i = k
  · subst e
    refine ⟨⟨h1, h2⟩, fun hp => ?_⟩
    obtain ⟨j, rfl⟩ : ∃ j, i = j + 1 := ⟨i - 1, by omega⟩
    exact h0
  · exact h i (by omega)
end
section
open Go.RowKit
set_option linter.unusedVariables false
set_option linter.unusedSimpArgs false
theorem back_to {t : List Int} {k : Nat} (h : k < t.length) : backS t (t.length - k) = t.getD k 0 := by
  unfold backS
  rw [if_neg (by omega), show t.length - (t.length - k) = k by omega]
theorem back_in {f t : List Int} {k : Nat} (hl : f.length ≤ t.length) (hk : k < t.length) (h : t.length - f.length ≤ k) : backS f (t.length - k) = f.getD (k - (t.length - f.length)) 0 := by
  unfold backS
  rw [if_neg (by omega), show f.length - (t.length - k) = k - (t.length - f.length) by omega]
/-- the first k dimensions of the other one fit -/
def fitP (f t : List Int) (k : Nat) : Prop := ∀ i, i < k → t.length - f.length ≤ i → f.getD (i - (t.length - f.length)) 0 = t.getD i 0 ∨ f.getD (i - (t.length - f.length)) 0 = 1
theorem fitP.next {f t : List Int} {k : Nat} (h : fitP f t k) (h2 : t.length - f.length ≤ k → f.getD (k - (t.length - f.length)) 0 = t.getD k 0 ∨ f.getD (k - (t.length - f.length)) 0 = 1) : fitP f t (k + 1) := by
  intro i hi h3
  by_cases e : i = k
  · subst e; exact h2 h3
  · exact h i (by omega) h3
theorem fitP.all {f t : List Int} (ok : OkS t) (hl : f.length ≤ t.length) (h : fitP f t t.length) : fitU f t f.length := by
  intro j j1 j2
  refine ⟨by have := back_pos ok j1 (by omega); omega, ?_⟩
  have h3 := h (t.length - j) (by omega) (by omega)
  have e1 : backS f j = f.getD (t.length - j - (t.length - f.length)) 0 := by
    rw [← back_in hl (by omega) (by omega)]; congr 1; omega
  have e2 : backS t j = t.getD (t.length - j) 0 := by
    rw [← back_to (by omega)]; congr 1; omega
  rw [e1, e2]
  omega
theorem fitU.at {f t : List Int} (hl : f.length ≤ t.length) (h : fitU f t f.length) {k : Nat} (hk : k < t.length) (h2 : t.length - f.length ≤ k) : f.getD (k - (t.length - f.length)) 0 = t.getD k 0 ∨ f.getD (k - (t.length - f.length)) 0 = 1 := by
  have h3 := (h (t.length - k) (by omega) (by omega)).2
  rw [back_in hl hk h2, back_to hk] at h3
  omega
end
section
open Go.RowKit
set_option linter.unusedVariables false
set_option linter.unusedSimpArgs false
/-- a block of marks, known whole -/
def MrkS (w : World) (g : Nat) (zs : List Bool) : Prop := w.heap[g]? = some (.cells (zs.map Value.bool).toArray 4 (0, 0))
theorem MrkS.cell {w : World} {g : Nat} {zs : List Bool} (h : MrkS w g zs) (i : Nat) (hi : i < zs.length) : w.cell? ⟨g, i, none⟩ = some (.bool (zs.getD i false)) := by
  have e : w.cell? ⟨g, i, none⟩ = ((zs.map Value.bool).toArray)[i]? := cell_of_row w g i _ 4 (0, 0) h
  rw [e]; simp [hi]
theorem MrkS.free {w : World} {g : Nat} {zs : List Bool} (h : MrkS w g zs) (i : Nat) : w.frozen? ⟨g, i, none⟩ = false := frozen_of_row w g i _ 4 h
theorem MrkS.lt {w : World} {g : Nat} {zs : List Bool} (h : MrkS w g zs) : g < w.heap.size := lt_of_block h
theorem MrkS.same {w w' : World} {g : Nat} {zs : List Bool} (h : MrkS w g zs) (e : w'.heap[g]? = w.heap[g]?) : MrkS w' g zs := e.trans h
theorem MrkS.alloc {w : World} {g : Nat} {zs : List Bool} (h : MrkS w g zs) (o : Obj) : MrkS (w.alloc o) g zs := h.same (Below.heap_alloc _ _ _ h.lt)
theorem MrkS.below {w w' : World} {g B : Nat} {zs : List Bool} (h : MrkS w g zs) (k : Below B w w') (hb : g < B) : MrkS w' g zs := h.same (k.block g hb)
theorem MrkS.far {w : World} {g : Nat} {zs : List Bool} (h : MrkS w g zs) {p : Addr} (hne : g ≠ p.block) (u : Value) : MrkS (w.setCell p u) g zs := h.same (Below.heap_setCell _ _ _ _ hne)
theorem MrkS.set {w : World} {g : Nat} {zs : List Bool} (h : MrkS w g zs) (i : Nat) (x : Bool) : MrkS (w.setCell ⟨g, i, none⟩ (.bool x)) g (zs.set i x) := by
  have hh := heap_setCell_same w g i _ 4 (.bool x) h
  unfold MrkS
  rw [hh]
  congr 2
  simp [List.map_set]
theorem MrkS.made (w : World) (n : Nat) : MrkS (w.alloc (.cells (madeCells #[.bool false] n) 4)) w.heap.size (List.replicate n false) := by
  have h := heap_alloc_new w (.cells (madeCells #[.bool false] n) 4)
  unfold MrkS
  rw [h]
  congr 2
  apply Array.ext
  · simp [madeCells]
  · intro i h1 h2
    simp [madeCells, Nat.mod_one]
/-- a list's numbers are marked, below n -/
def MarkS (w : World) (p n : Nat) (l : List Int) : Prop := ∃ g, w.cell? ⟨p, 0, none⟩ = some (.slice (some ⟨g, 0, none⟩) n n) ∧ ∀ i, i < n → w.cell? ⟨g, i, none⟩ = some (.bool (decide ((i : Int) ∈ l)))
theorem MarkS.later {w w' : World} {p n : Nat} {l : List Int} (h : MarkS w p n l) (hb : Below w.heap.size w w') : MarkS w' p n l := by
  obtain ⟨g, h1, h2⟩ := h
  exact ⟨g, (hb.cell (World.block_lt_of_cell? w _ h1)).trans h1, fun i hi => (hb.cell (World.block_lt_of_cell? w _ (h2 i hi))).trans (h2 i hi)⟩
/-- the marks, when the first k numbers have been seen -/
def SeenM (l : List Int) (n k : Nat) (M : List Bool) : Prop := M.length = n ∧ ∀ i, i < n → M.getD i false = decide ((i : Int) ∈ l.take k)
theorem SeenM.nil (l : List Int) (n : Nat) : SeenM l n 0 (List.replicate n false) := ⟨by simp, fun i hi => by simp [List.getD_eq_getElem?_getD, hi]⟩
end
section
open Go.RowKit
set_option linter.unusedVariables false
set_option linter.unusedSimpArgs false
/-- the first k numbers of a list are different ones, below L; each one's place is told -/
def SeenP (p : List Int) (L k : Nat) (zs : List Int) : Prop := zs.length = L ∧ (p.take k).Nodup ∧ (∀ x, x ∈ p.take k → 0 ≤ x ∧ x < L) ∧ ∀ j, j < k → zs.getD (p.getD j 0).toNat 0 = (j : Int)
theorem SeenP.nil (p : List Int) (L : Nat) : SeenP p L 0 (List.replicate L 0) := ⟨by simp, by simp, fun x h => by simp at h, fun j hj => by omega⟩
theorem mem_takeS {p : List Int} {j k : Nat} (hj : j < k) (hl : j < p.length) : p.getD j 0 ∈ p.take k := by
  rw [getD_elem hl, List.mem_take_iff_getElem]
  exact ⟨j, by omega, rfl⟩
theorem SeenP.next {p : List Int} {L k m : Nat} {zs : List Int} (h : SeenP p L k zs) (hk : k < p.length) (hx : p[k]? = some (m : Int)) (hm : m < L) (hn : ¬ (m : Int) ∈ p.take k) : SeenP p L (k + 1) (zs.set m (k : Int)) := by
  obtain ⟨h1, h2, h3, h4⟩ := h
  have ht : p.take (k + 1) = p.take k ++ [(m : Int)] := by rw [List.take_add_one, hx]; rfl
  refine ⟨by rw [List.length_set]; exact h1, ?_, fun x hx2 => ?_, fun j hj => ?_⟩
  · rw [ht, List.nodup_append]
    refine ⟨h2, by simp, fun a ha b hb e => ?_⟩
    rw [List.mem_singleton] at hb
    subst hb
    subst e
    exact hn ha
  · rw [ht, List.mem_append, List.mem_singleton] at hx2
    rcases hx2 with g | g
    · exact h3 x g
    · omega
  · by_cases e : j = k
    · subst e
      have e2 : p.getD j 0 = (m : Int) := by rw [List.getD_eq_getElem?_getD, hx]; rfl
      rw [e2, List.getD_eq_getElem?_getD, show (m : Int).toNat = m by omega, List.getElem?_set_self (by omega)]
      rfl
    · have hmem := mem_takeS (p := p) (j := j) (k := k) (by omega) (by omega)
      have hr := h3 _ hmem
      have hne : m ≠ (p.getD j 0).toNat := fun e2 => hn (by rw [e2, show (((p.getD j 0).toNat : Nat) : Int) = p.getD j 0 by omega]; exact hmem)
      rw [List.getD_eq_getElem?_getD, List.getElem?_set_ne hne, ← List.getD_eq_getElem?_getD]
      exact h4 j (by omega)
theorem SeenP.full {p : List Int} {L : Nat} {zs : List Int} (h : SeenP p L L zs) (hL : p.length = L) : IsPerm p ∧ zs = invL p := by
  obtain ⟨h1, h2, h3, h4⟩ := h
  rw [take_all hL] at h2 h3
  have hp := perm_of_all (p := upS L) (q := p) h2 (fun x hx => mem_upS.2 (h3 x hx)) (by rw [upS_length, hL]; exact Nat.le_refl _)
  have ip : IsPerm p := ⟨h2, fun x => by rw [← hp.mem_iff, mem_upS, hL]⟩
  refine ⟨ip, ?_⟩
  apply List.ext_getElem
  · rw [h1, invL_length, hL]
  · intro i g1 g2
    rw [← getD_elem g1, ← getD_elem g2, invL_at p (by omega)]
    have hmem := (ip.mem (i : Int)).2 (by omega)
    have hlt := List.idxOf_lt_length_of_mem hmem
    have hget := List.getElem_idxOf hlt
    have h5 := h4 (p.idxOf (i : Int)) (by omega)
    rw [getD_elem hlt, hget, show ((i : Nat) : Int).toNat = i by omega] at h5
    exact h5
end
section
open Go.RowKit Go.Shelf
attribute [local go_sem] Oper.semAt_some
set_option linter.unusedVariables false
set_option linter.unusedSimpArgs false
/-- the last k places, from above -/
def DowntoS {n : Nat} (pre : List (Fin n)) (k : Nat) : Prop := pre.length = k ∧ ∀ i (h : i < pre.length), (pre[i]).val + i + 1 = n
theorem DowntoS.nil {n : Nat} : DowntoS ([] : List (Fin n)) 0 := ⟨rfl, fun i h => by simp at h⟩
theorem DowntoS.snoc {n k : Nat} {pre : List (Fin n)} (h : DowntoS pre k) (x : Fin n) (hx : x.val + k + 1 = n) : DowntoS (pre ++ [x]) (k + 1) := by
  obtain ⟨h1, h2⟩ := h
  refine ⟨by simp [h1], fun i hi => ?_⟩
  by_cases hlt : i < pre.length
  · rw [List.getElem_append_left hlt]; exact h2 i hlt
  · have : i = k := by simp at hi; omega
    subst this
    rw [List.getElem_append_right (by omega)]
    simp [h1, hx]
/-- nothing below G has changed, nor block Bs -/
structure KpS (G Bs : Nat) (W W' : World) : Prop where
  below : Below G W W'
  box : W'.heap[Bs]? = W.heap[Bs]?
theorem KpS.refl (G Bs : Nat) (W : World) : KpS G Bs W W := ⟨Below.refl _ _, rfl⟩
theorem KpS.trans {G Bs : Nat} {A B C : World} (h : KpS G Bs A B) (k : KpS G Bs B C) : KpS G Bs A C := ⟨h.below.trans k.below, k.box.trans h.box⟩
theorem KpS.b {G Bs : Nat} {w : World} (hg : G ≤ w.heap.size) (hn : Bs < w.heap.size) (W : World) (l : Nat) (o o' : Obj) (hl : w.heap.size ≤ l) (h : W.heap[l]? = some o) (h1 : o.isCells = false) (h2 : o.isWalk = false) : KpS G Bs W (W.putObj l o') :=
  ⟨belowK_b hg W l o o' hl h h1 h2, World.putObj_heap_other (by omega)⟩
theorem BlkS.far {w : World} {g : Nat} {zs : List Int} (h : BlkS w g zs) {p : Addr} (hne : g ≠ p.block) (u : Value) : BlkS (w.setCell p u) g zs := h.same (Below.heap_setCell _ _ _ _ hne)
end
section
open Go.RowKit
set_option linter.unusedVariables false
set_option linter.unusedSimpArgs false
/-- three cells -/
structure E3 where
  a : Value
  b : Value
  c : Value
def E3.agg (e : E3) : Value := .agg #[e.a, e.b, e.c]
def flat3 : List E3 → List Value
  | [] => []
  | e :: r => e.a :: e.b :: e.c :: flat3 r
theorem flat3_append (a b : List E3) : flat3 (a ++ b) = flat3 a ++ flat3 b := by
  induction a with
  | nil => rfl
  | cons e r ih => simp only [List.cons_append, flat3, ih]
theorem flat3_at {es : List E3} {i : Nat} {e : E3} (h : es[i]? = some e) : (flat3 es)[i * 3]? = some e.a ∧ (flat3 es)[i * 3 + 1]? = some e.b ∧ (flat3 es)[i * 3 + 2]? = some e.c := by
  induction es generalizing i with
  | nil => simp at h
  | cons d r ih =>
    cases i with
    | zero =>
      simp only [List.getElem?_cons_zero, Option.some.injEq] at h
      subst h
      exact ⟨rfl, rfl, rfl⟩
    | succ i =>
      have h2 := ih (i := i) (by simpa using h)
      rw [show (i + 1) * 3 = i * 3 + 1 + 1 + 1 by omega]
      simp only [flat3]
      exact h2
/-- where es lie -/
def CellsE (w : World) (b o : Nat) (es : List E3) : Prop := ∀ i e, es[i]? = some e → w.cell? ⟨b, o + i * 3, none⟩ = some e.a ∧ w.cell? ⟨b, o + i * 3 + 1, none⟩ = some e.b ∧ w.cell? ⟨b, o + i * 3 + 2, none⟩ = some e.c
/-- a row of structs, of the call's own -/
def OwnE (base : Nat) (T : TypeId) (w : World) (v : Value) (es : List E3) : Prop := w.ownsRow base T 3 v es.length (flat3 es)
theorem OwnE.nil (base : Nat) (T : TypeId) (w : World) : OwnE base T w (.slice none 0 0) [] := ⟨rfl, .inl ⟨rfl, rfl⟩⟩
theorem OwnE.lt {base : Nat} {T : TypeId} {w : World} {v : Value} {es : List E3} (h : OwnE base T w v es) : ∀ k, v.ownBlock = some k → base ≤ k ∧ k < w.heap.size := World.ownsRow.lt h
theorem OwnE.same {base : Nat} {T : TypeId} {w w' : World} {v : Value} {es : List E3} (h : OwnE base T w v es) (hk : ∀ k, v.ownBlock = some k → w'.heap[k]? = w.heap[k]?) : OwnE base T w' v es := by
  obtain ⟨h1, h2⟩ := h
  refine ⟨h1, ?_⟩
  rcases h2 with h2 | ⟨g, cap, cur, rfl, hg0, hg, hc, hm, hs, ht⟩
  · exact .inl h2
  · exact .inr ⟨g, cap, cur, rfl, hg0, (hk g rfl).trans hg, hc, hm, hs, ht⟩
theorem OwnE.later {base : Nat} {T : TypeId} {w w' : World} {v : Value} {es : List E3} (h : OwnE base T w v es) (hb : Below w.heap.size w w') : OwnE base T w' v es := h.same fun k hk => hb.block k (h.lt k hk).2
theorem OwnE.mono {base base' : Nat} {T : TypeId} {w : World} {v : Value} {es : List E3} (h : OwnE base T w v es) (hb : base' ≤ base) : OwnE base' T w v es := by
  obtain ⟨h1, h2⟩ := h
  refine ⟨h1, ?_⟩
  rcases h2 with h2 | ⟨g, cap, cur, rfl, hg0, hr⟩
  · exact .inl h2
  · exact .inr ⟨g, cap, cur, rfl, Nat.le_trans hb hg0, hr⟩
theorem OwnE.row {base : Nat} {T : TypeId} {w : World} {v : Value} {es : List E3} (h : OwnE base T w v es) : (v = .slice none 0 0 ∧ es = []) ∨ ∃ g cap, v = .slice (some ⟨g, 0, none⟩) es.length cap ∧ base ≤ g ∧ g < w.heap.size ∧ es.length ≤ cap ∧ cap ≤ maxLen ∧ CellsE w g 0 es := by
  obtain ⟨h1, h2⟩ := h
  rcases h2 with ⟨hv, hn⟩ | ⟨g, cap, cur, hv, hb, hg, hc, hm, hs, ht⟩
  · exact .inl ⟨hv, List.eq_nil_of_length_eq_zero hn⟩
  · refine .inr ⟨g, cap, hv, hb, lt_of_block hg, hc, hm, fun i e he => ?_⟩
    have hi : i < es.length := by
      rcases Nat.lt_or_ge i es.length with k | k
      · exact k
      · rw [List.getElem?_eq_none k] at he; cases he
    have hat : ∀ j, j < es.length * 3 → w.cell? ⟨g, j, none⟩ = (flat3 es)[j]? := fun j hj =>
      World.ownsRow.cellAt (w := w) (base := base) (e := T) (size := 3) (g := g) (n := es.length) (cap := cap) (xs := flat3 es) ⟨h1, .inr ⟨g, cap, cur, rfl, hb, hg, hc, hm, hs, ht⟩⟩ j hj
    obtain ⟨f0, f1, f2⟩ := flat3_at he
    simp only [Nat.zero_add]
    exact ⟨(hat _ (by omega)).trans f0, (hat _ (by omega)).trans f1, (hat _ (by omega)).trans f2⟩
theorem CellsE.later {w w' : World} {b o : Nat} {es : List E3} (h : CellsE w b o es) (hb : Below w.heap.size w w') : CellsE w' b o es := fun i e he => by
  obtain ⟨h0, h1, h2⟩ := h i e he
  exact ⟨(hb.cell (World.block_lt_of_cell? w _ h0)).trans h0, (hb.cell (World.block_lt_of_cell? w _ h1)).trans h1, (hb.cell (World.block_lt_of_cell? w _ h2)).trans h2⟩
/-- each struct is what the list says -/
def AllE {α : Type} (P : Value → α → Prop) (es : List E3) (L : List α) : Prop := es.length = L.length ∧ ∀ (i : Nat) (e : E3) (x : α), es[i]? = some e → L[i]? = some x → P e.agg x
theorem AllE.nil {α : Type} (P : Value → α → Prop) : AllE P [] ([] : List α) := ⟨rfl, fun i e x h => by simp at h⟩
theorem AllE.imp {α : Type} {P Q : Value → α → Prop} {es : List E3} {L : List α} (h : AllE P es L) (k : ∀ v x, x ∈ L → P v x → Q v x) : AllE Q es L := ⟨h.1, fun i e x h1 h2 => k _ _ (List.mem_of_getElem? h2) (h.2 i e x h1 h2)⟩
theorem AllE.snoc {α : Type} {P : Value → α → Prop} {es : List E3} {L : List α} {e : E3} {x : α} (h : AllE P es L) (hx : P e.agg x) : AllE P (es ++ [e]) (L ++ [x]) := by
  refine ⟨by simp [h.1], fun i d y h1 h2 => ?_⟩
  by_cases hlt : i < es.length
  · rw [List.getElem?_append_left hlt] at h1
    rw [List.getElem?_append_left (by rw [← h.1]; exact hlt)] at h2
    exact h.2 i d y h1 h2
  · have hi : i = es.length := by
      rcases Nat.lt_or_ge i (es ++ [e]).length with k | k
      · simp at k; omega
      · rw [List.getElem?_eq_none k] at h1; cases h1
    subst hi
    rw [List.getElem?_append_right (Nat.le_refl _), Nat.sub_self] at h1
    rw [List.getElem?_append_right (by rw [h.1]; exact Nat.le_refl _), h.1, Nat.sub_self] at h2
    simp only [List.getElem?_cons_zero, Option.some.injEq] at h1 h2
    subst h1
    subst h2
    exact hx
theorem AllE.at {α : Type} {P : Value → α → Prop} {es : List E3} {L : List α} (h : AllE P es L) {i : Nat} (hi : i < L.length) : ∃ e x, es[i]? = some e ∧ L[i]? = some x ∧ P e.agg x := by
  have h1 : i < es.length := by rw [h.1]; exact hi
  exact ⟨es[i], L[i], List.getElem?_eq_getElem h1, List.getElem?_eq_getElem hi, h.2 i _ _ (List.getElem?_eq_getElem h1) (List.getElem?_eq_getElem hi)⟩
/-- an argument: a slice of structs -/
structure RowA {α : Type} (P : World → Value → α → Prop) (w : World) (u : Value) (L : List α) (ad : Option Addr) (cap : Nat) : Prop where
  is : u = .slice ad L.length cap
  le : L.length ≤ cap
  els : L = [] ∨ ∃ b o es, ad = some ⟨b, o, none⟩ ∧ CellsE w b o es ∧ AllE (P w) es L
theorem RowA.later {α : Type} {P : World → Value → α → Prop} {w w' : World} {u : Value} {L : List α} {ad : Option Addr} {cap : Nat} (h : RowA P w u L ad cap) (hb : Below w.heap.size w w') (hP : ∀ v x, x ∈ L → P w v x → P w' v x) : RowA P w' u L ad cap := by
  refine ⟨h.is, h.le, ?_⟩
  rcases h.els with e | ⟨b, o, es, e, c, k⟩
  · exact .inl e
  · exact .inr ⟨b, o, es, e, c.later hb, k.imp hP⟩
theorem RowA.at {α : Type} {P : World → Value → α → Prop} {w : World} {u : Value} {L : List α} {ad : Option Addr} {cap : Nat} (h : RowA P w u L ad cap) {i : Nat} (hi : i < L.length) :
    ∃ b o x y z q, ad = some ⟨b, o, none⟩ ∧ L[i]? = some q ∧ w.cell? ⟨b, o + i * 3, none⟩ = some x ∧ w.cell? ⟨b, o + i * 3 + 1, none⟩ = some y ∧ w.cell? ⟨b, o + i * 3 + 2, none⟩ = some z ∧ P w (.agg #[x, y, z]) q := by
  rcases h.els with e | ⟨b, o, es, e, c, k⟩
  · rw [e] at hi; simp at hi
  · obtain ⟨d, q, h1, h2, h3⟩ := k.at hi
    obtain ⟨c0, c1, c2⟩ := c i d h1
    exact ⟨b, o, d.a, d.b, d.c, q, e, h2, c0, c1, c2, h3⟩
/-- a result: a slice of structs in new memory -/
def RowO {α : Type} (base : Nat) (T : TypeId) (P : World → Value → α → Prop) (w : World) (u : Value) (L : List α) : Prop := ∃ es, OwnE base T w u es ∧ AllE (P w) es L
theorem RowO.nil {α : Type} (base : Nat) (T : TypeId) (P : World → Value → α → Prop) (w : World) : RowO base T P w (.slice none 0 0) ([] : List α) := ⟨[], OwnE.nil _ _ _, AllE.nil _⟩
theorem RowO.later {α : Type} {base : Nat} {T : TypeId} {P : World → Value → α → Prop} {w w' : World} {u : Value} {L : List α} (h : RowO base T P w u L) (hb : Below w.heap.size w w') (hP : ∀ v x, P w v x → P w' v x) : RowO base T P w' u L := by
  obtain ⟨es, h1, h2⟩ := h
  exact ⟨es, h1.later hb, h2.imp fun v x _ => hP v x⟩
theorem RowO.mono {α : Type} {base base' : Nat} {T : TypeId} {P Q : World → Value → α → Prop} {w : World} {u : Value} {L : List α} (h : RowO base T P w u L) (hb : base' ≤ base) (hP : ∀ v x, P w v x → Q w v x) : RowO base' T Q w u L := by
  obtain ⟨es, h1, h2⟩ := h
  exact ⟨es, h1.mono hb, h2.imp fun v x _ => hP v x⟩
theorem RowO.arg {α : Type} {base : Nat} {T : TypeId} {P : World → Value → α → Prop} {w : World} {u : Value} {L : List α} (h : RowO base T P w u L) : ∃ ad cap, RowA P w u L ad cap ∧ (ad = none → cap = 0) ∧ cap ≤ maxLen := by
  obtain ⟨es, h1, h2⟩ := h
  rcases h1.row with ⟨rfl, rfl⟩ | ⟨g, cap, rfl, _, _, hc, hm, hcells⟩
  · have e : L = [] := List.eq_nil_of_length_eq_zero h2.1.symm
    subst e
    exact ⟨none, 0, ⟨rfl, Nat.le_refl _, .inl rfl⟩, fun _ => rfl, by unfold maxLen; omega⟩
  · exact ⟨some ⟨g, 0, none⟩, cap, ⟨by rw [h2.1], by rw [← h2.1]; exact hc, .inr ⟨g, 0, es, rfl, hcells, h2⟩⟩, (fun h => by cases h), hm⟩
theorem OwnE.typed {base : Nat} {T : TypeId} {w : World} {v : Value} {es : List E3} (h : OwnE base T w v es) {g : Nat} (hg : v.ownBlock = some g) : ∃ cur, w.heap[g]? = some (.cells cur T (0, 0)) := by
  obtain ⟨_, h2⟩ := h
  rcases h2 with ⟨rfl, _⟩ | ⟨g', cap, cur, rfl, _, hh, _⟩
  · cases hg
  · simp [Value.ownBlock] at hg
    subst hg
    exact ⟨cur, hh⟩
/-- a row of another type is not felt -/
theorem apartV {base base' size n sz m : Nat} {T t : TypeId} {w w' : World} {v u : Value} {ys : List Value} {xs : List Value} {o : Obj} (h : w.ownsRow base T sz v m ys) (hg : (w.alloc o).grownBy w' v.ownBlock) (hT : T ≠ t) (k : w.ownsRow base' t size u n xs) : w'.ownsRow base' t size u n xs := by
  obtain ⟨k1, k2⟩ := k
  refine ⟨k1, ?_⟩
  rcases k2 with k2 | ⟨g, cap, cur, rfl, hg0, hh, hrest⟩
  · exact .inl k2
  · refine .inr ⟨g, cap, cur, rfl, hg0, ?_, hrest⟩
    have hlt := lt_of_block hh
    rw [hg.block g (by rw [World.size_alloc]; omega) (fun e => by
      obtain ⟨_, h2⟩ := h
      rcases h2 with ⟨rfl, _⟩ | ⟨g', cap', cur', rfl, _, hc, _⟩
      · cases e
      · simp only [Value.ownBlock, Option.some.injEq] at e
        subst e
        rw [hh] at hc
        simp only [Option.some.injEq, Obj.cells.injEq] at hc
        exact hT hc.2.1.symm), Below.heap_alloc _ _ _ hlt]
    exact hh
theorem apartE {base base' size n : Nat} {T t : TypeId} {w w' : World} {v u : Value} {es : List E3} {xs : List Value} {o : Obj} (h : OwnE base T w v es) (hg : (w.alloc o).grownBy w' v.ownBlock) (hT : T ≠ t) (k : w.ownsRow base' t size u n xs) : w'.ownsRow base' t size u n xs := apartV h hg hT k
theorem pushE {α : Type} {base : Nat} {T : TypeId} {P : World → Value → α → Prop} {w wr w1 : World} {v v' : Value} {es : List E3} {L : List α} {e : E3} {x : α} {o : Obj} (hb : Below base w wr) (hbase : base ≤ wr.heap.size)
    (hown : OwnE base T wr v es) (hall : AllE (P wr) es L) (hx : P wr e.agg x) (hst : ∀ u y, P wr u y → P w1 u y)
    (hown' : w1.ownsRow base T 3 v' (es.length + 1) (flat3 es ++ [e.a, e.b, e.c])) (hgrow : (wr.alloc o).grownBy w1 v.ownBlock) : RowO base T P w1 v' (L ++ [x]) ∧ Below base w w1 := by
  refine ⟨⟨es ++ [e], ?_, (hall.snoc hx).imp fun u y _ => hst u y⟩, (hb.alloc hbase o).grown hgrow (by simp; omega) (fun k hk => (hown.lt k hk).1)⟩
  unfold OwnE
  rw [List.length_append, flat3_append]
  exact hown'
theorem cell_three_new (w : World) (a b c : Value) (t : TypeId) : ∀ j u, [a, b, c][j]? = some u → (w.alloc (.cells #[a, b, c] t)).cell? ((⟨w.heap.size, 0, none⟩ : Addr).add j) = some u := by
  intro j u hj
  match j, hj with
  | 0, hj => simp at hj; subst hj; simp [Addr.add]
  | 1, hj => simp at hj; subst hj; simp [Addr.add]
  | 2, hj => simp at hj; subst hj; simp [Addr.add]
  | j + 3, hj => simp at hj
/-- append, as one step of a region that draws its order -/
theorem step_append_ownT {P : Program} {ops : Array Oper} {o : Oper} {a : Act} {w : World} {K : Act → World → Prop} {Q : Exit → Act → World → Prop} {E : Prop} (hgd : o.guard = none) (s x : Operand) (t : TypeId)
    (ho : o.op = .call { callee := .builtin .append, args := #[s, x], argTypes := #[t, t] })
    (base : Nat) (e : TypeId) (i : TypeInfo) (z : Value) (size bytes : Nat) (ht : P.underlying t = some (.slice e)) (hi : P.info? e = some i) (hz : i.zero = some z)
    (hsize : i.size = size) (hby : i.bytes = bytes) (hzs : z.cells.size = size) (hsz : 0 < size)
    (v : Value) (n : Nat) (xs : List Value) (hs : a.eval s = v) (hown : w.ownsRow base e size v n xs)
    (ad : Addr) (m c : Nat) (news : List Value) (hx : a.eval x = .slice (some ad) m c) (hl : news.length = m * size) (hnews : ∀ j u, news[j]? = some u → w.cell? (ad.add j) = some u) (h1 : ∀ u ∈ news, u.oneCell' = true)
    (h63 : n + m ≤ maxLen) (hbytes : (n + m) * bytes ≤ 140737488355328) (hbase : base ≤ w.heap.size)
    (h : ∀ v' w', w'.ownsRow base e size v' (n + m) (xs ++ news) → w.grownBy w' v.ownBlock → (v' = .slice none 0 0 ↔ v = .slice none 0 0 ∧ m = 0) → K (a.put o.dst v') w') :
    if Region.wanted o (yielded ops a.tmps) = true then Oper.wp P o a w K Q else E := by
  have hw : Region.wanted o (yielded ops a.tmps) = true := by simp [Region.wanted, hgd]
  rw [if_pos hw]
  exact wp_append_own w s x t ho base e i z size bytes ht hi hz hsize hby hzs hsz v n xs hs hown ad m c news hx hl hnews h1 h63 hbytes hbase h
end
section
open Go.RowKit
set_option linter.unusedVariables false
set_option linter.unusedSimpArgs false
theorem NumI.far {base : Nat} {w w' : World} {u : Value} {zs : List Int} {g : Nat} {t : TypeId} {cs : Array Value} (h : NumI base w u zs) (R : Row w g t cs) (ht : t ≠ 3) (hk : ∀ k, k ≠ g → w'.heap[k]? = w.heap[k]?) : NumI base w' u zs := by
  obtain ⟨h1, h2⟩ := h
  refine ⟨h1, ?_⟩
  rcases h2 with h2 | ⟨k, cap, cur, rfl, hg0, hg', hc, hm, hs, ht'⟩
  · exact .inl h2
  · refine .inr ⟨k, cap, cur, rfl, hg0, (hk k ?_).trans hg', hc, hm, hs, ht'⟩
    rintro rfl
    have e := hg'.symm.trans R
    injection e with e
    injection e with _ e
    exact ht e.symm
theorem Num.far {base : Nat} {w w' : World} {u : Value} {zs : List Int} {g : Nat} {t : TypeId} {cs : Array Value} (h : Num base w u zs) (R : Row w g t cs) (ht : t ≠ 64) (hk : ∀ k, k ≠ g → w'.heap[k]? = w.heap[k]?) : Num base w' u zs := by
  obtain ⟨h1, h2⟩ := h
  refine ⟨h1, ?_⟩
  rcases h2 with h2 | ⟨k, cap, cur, rfl, hg0, hg', hc, hm, hs, ht'⟩
  · exact .inl h2
  · refine .inr ⟨k, cap, cur, rfl, hg0, (hk k ?_).trans hg', hc, hm, hs, ht'⟩
    rintro rfl
    have e := hg'.symm.trans R
    injection e with e
    injection e with _ e
    exact ht e.symm
theorem ResD.far {base : Nat} {w w' : World} {u : Value} {zs : List Int} {n : Int} {g : Nat} {t : TypeId} {cs : Array Value} (h : ResD base w u zs n) (R : Row w g t cs) (ht : t ≠ 3) (hk : ∀ k, k ≠ g → w'.heap[k]? = w.heap[k]?) : ResD base w' u zs n :=
  ⟨h.num.far R ht hk, h.wf, h.full, h.eq⟩
theorem ResD.eqTo {base : Nat} {w : World} {u : Value} {zs : List Int} {n m : Int} (h : ResD base w u zs n) (e : valD zs = m) : ResD base w u zs m := ⟨h.num, h.wf, h.full, e⟩
theorem ResD.one {base : Nat} (W : World) (hb : base ≤ W.heap.size) : ResD base (W.alloc (.cells #[.int .i64 1] 3)) (.slice (some ⟨W.heap.size, 0, none⟩) 1 1) [1] 1 := by
  have L := digit_lit (Row.new W 3 #[.int .i64 1]) (by omega)
  exact ⟨⟨rfl, .inr ⟨W.heap.size, 1, _, rfl, hb, heap_alloc_new W _, Nat.le_refl _, by unfold maxLen; omega, rfl, rfl⟩⟩, L.wf, L.full, rfl⟩
/-- the reference's rational number, in new memory -/
def ResR (base : Nat) (w : World) (v : Value) (x : Rat) (n : Nat) : Prop :=
  ∃ (zs ys : List Int) (ad bd : Option Addr) (ca cb : Nat), v = .agg #[.bool (decide (x.num < 0)), .slice ad zs.length ca, .slice bd ys.length cb] ∧
    ResD base w (.slice ad zs.length ca) zs (x.num.natAbs : Int) ∧ ResD base w (.slice bd ys.length cb) ys (x.den : Int) ∧ zs.length ≤ n ∧ ys.length ≤ n
theorem ResD.at_ {base : Nat} {w : World} {ad : Option Addr} {n cap : Nat} {zs : List Int} {N : Int} (h : ResD base w (.slice ad n cap) zs N) : n = zs.length ∧ ArgD w (.slice ad n cap) zs ad cap := by
  obtain ⟨ad', cap', A⟩ := h.arg
  have e := A.is
  simp only [Value.slice.injEq] at e
  obtain ⟨rfl, rfl, rfl⟩ := e
  exact ⟨rfl, A⟩
theorem ResR.arg {base : Nat} {w : World} {v : Value} {x : Rat} {n : Nat} (h : ResR base w v x n) : ArgR w v x n := by
  obtain ⟨zs, ys, ad, bd, ca, cb, rfl, A, B, h1, h2⟩ := h
  exact ⟨zs, ys, ad, bd, ca, cb, rfl, A.at_.2, B.at_.2, A.eq, B.eq, h1, h2⟩
theorem ResR.later {base : Nat} {w w' : World} {v : Value} {x : Rat} {n : Nat} (h : ResR base w v x n) (hb : Below w.heap.size w w') : ResR base w' v x n := by
  obtain ⟨zs, ys, ad, bd, ca, cb, rfl, A, B, h⟩ := h
  exact ⟨zs, ys, ad, bd, ca, cb, rfl, A.later hb, B.later hb, h⟩
theorem ResR.more {base : Nat} {w : World} {v : Value} {x : Rat} {n m : Nat} (h : ResR base w v x n) (hm : n ≤ m) : ResR base w v x m := by
  obtain ⟨zs, ys, ad, bd, ca, cb, rfl, A, B, h1, h2⟩ := h
  exact ⟨zs, ys, ad, bd, ca, cb, rfl, A, B, by omega, by omega⟩
theorem ResR.mono {base base' : Nat} {w : World} {v : Value} {x : Rat} {n : Nat} (h : ResR base w v x n) (hb : base' ≤ base) : ResR base' w v x n := by
  obtain ⟨zs, ys, ad, bd, ca, cb, rfl, A, B, h⟩ := h
  exact ⟨zs, ys, ad, bd, ca, cb, rfl, A.mono hb, B.mono hb, h⟩
theorem ResR.far {base : Nat} {w w' : World} {v : Value} {x : Rat} {n : Nat} {g : Nat} {t : TypeId} {cs : Array Value} (h : ResR base w v x n) (R : Row w g t cs) (ht : t ≠ 3) (hk : ∀ k, k ≠ g → w'.heap[k]? = w.heap[k]?) : ResR base w' v x n := by
  obtain ⟨zs, ys, ad, bd, ca, cb, rfl, A, B, h⟩ := h
  exact ⟨zs, ys, ad, bd, ca, cb, rfl, A.far R ht hk, B.far R ht hk, h⟩
theorem ResR.apart {base base' : Nat} {T : TypeId} {w w' : World} {v u : Value} {es : List E3} {x : Rat} {n : Nat} {o : Obj} (h : OwnE base T w v es) (hg : (w.alloc o).grownBy w' v.ownBlock) (hT : T ≠ 3) (k : ResR base' w u x n) : ResR base' w' u x n := by
  obtain ⟨zs, ys, ad, bd, ca, cb, rfl, A, B, k⟩ := k
  exact ⟨zs, ys, ad, bd, ca, cb, rfl, ⟨apartE h hg hT A.num, A.wf, A.full, A.eq⟩, ⟨apartE h hg hT B.num, B.wf, B.full, B.eq⟩, k⟩
/-- a rational number as it came in: limb by limb -/
structure Q3 where
  neg : Bool
  num : List Int
  den : List Int
def Q3.rat (q : Q3) : Rat := ratOf q.neg (val q.num) (val q.den)
def RawQ (w : World) (v : Value) (q : Q3) : Prop := ∃ (ad bd : Option Addr) (ca cb : Nat), v = .agg #[.bool q.neg, .slice ad q.num.length ca, .slice bd q.den.length cb] ∧
  Arg w (.slice ad q.num.length ca) q.num ad ca ∧ Arg w (.slice bd q.den.length cb) q.den bd cb ∧ (ad = none → ca = 0) ∧ (bd = none → cb = 0)
theorem RawQ.later {w w' : World} {v : Value} {q : Q3} (h : RawQ w v q) (hb : Below w.heap.size w w') : RawQ w' v q := by
  obtain ⟨ad, bd, ca, cb, rfl, A, B, h⟩ := h
  exact ⟨ad, bd, ca, cb, rfl, A.later hb, B.later hb, h⟩
theorem RawQ.arg {w : World} {v : Value} {q : Q3} {n : Nat} (h : RawQ w v q) (h1 : q.num.length ≤ n) (h2 : q.den.length ≤ n) : ArgQ w v q.rat n := by
  obtain ⟨ad, bd, ca, cb, rfl, A, B, _⟩ := h
  exact ⟨q.neg, q.num, q.den, ad, bd, ca, cb, rfl, A, B, rfl, h1, h2⟩
/-- the same, in new memory -/
def RawO (base : Nat) (w : World) (v : Value) (q : Q3) : Prop := ∃ (ad bd : Option Addr) (ca cb : Nat), v = .agg #[.bool q.neg, .slice ad q.num.length ca, .slice bd q.den.length cb] ∧
  Num base w (.slice ad q.num.length ca) q.num ∧ Num base w (.slice bd q.den.length cb) q.den ∧ Wf q.num ∧ Wf q.den
theorem Num.at_ {base : Nat} {w : World} {ad : Option Addr} {n cap : Nat} {zs : List Int} (h : Num base w (.slice ad n cap) zs) (hw : Wf zs) : n = zs.length ∧ Arg w (.slice ad n cap) zs ad cap ∧ (ad = none → cap = 0) := by
  obtain ⟨ad', cap', e, h2, h3, _, _⟩ := h.read
  simp only [Value.slice.injEq] at e
  obtain ⟨rfl, rfl, rfl⟩ := e
  refine ⟨rfl, ⟨rfl, h2, h3, hw⟩, fun hn => ?_⟩
  subst hn
  exact h.nil_slice.2.2
theorem RawO.raw {base : Nat} {w : World} {v : Value} {q : Q3} (h : RawO base w v q) : RawQ w v q := by
  obtain ⟨ad, bd, ca, cb, rfl, A, B, h1, h2⟩ := h
  exact ⟨ad, bd, ca, cb, rfl, (A.at_ h1).2.1, (B.at_ h2).2.1, (A.at_ h1).2.2, (B.at_ h2).2.2⟩
theorem RawO.later {base : Nat} {w w' : World} {v : Value} {q : Q3} (h : RawO base w v q) (hb : Below w.heap.size w w') : RawO base w' v q := by
  obtain ⟨ad, bd, ca, cb, rfl, A, B, h⟩ := h
  exact ⟨ad, bd, ca, cb, rfl, A.later hb, B.later hb, h⟩
theorem RawO.mono {base base' : Nat} {w : World} {v : Value} {q : Q3} (h : RawO base w v q) (hb : base' ≤ base) : RawO base' w v q := by
  obtain ⟨ad, bd, ca, cb, rfl, A, B, h⟩ := h
  exact ⟨ad, bd, ca, cb, rfl, A.mono hb, B.mono hb, h⟩
theorem RawO.far {base : Nat} {w w' : World} {v : Value} {q : Q3} {g : Nat} {t : TypeId} {cs : Array Value} (h : RawO base w v q) (R : Row w g t cs) (ht : t ≠ 64) (hk : ∀ k, k ≠ g → w'.heap[k]? = w.heap[k]?) : RawO base w' v q := by
  obtain ⟨ad, bd, ca, cb, rfl, A, B, h⟩ := h
  exact ⟨ad, bd, ca, cb, rfl, A.far R ht hk, B.far R ht hk, h⟩
theorem RawO.apart {base base' : Nat} {T : TypeId} {w w' : World} {v u : Value} {es : List E3} {q : Q3} {o : Obj} (h : OwnE base T w v es) (hg : (w.alloc o).grownBy w' v.ownBlock) (hT : T ≠ 64) (k : RawO base' w u q) : RawO base' w' u q := by
  obtain ⟨ad, bd, ca, cb, rfl, A, B, k⟩ := k
  exact ⟨ad, bd, ca, cb, rfl, apartE h hg hT A, apartE h hg hT B, k⟩
theorem ResQ.apart {base base' : Nat} {T : TypeId} {w w' : World} {v u : Value} {es : List E3} {x : Rat} {n : Nat} {o : Obj} (h : OwnE base T w v es) (hg : (w.alloc o).grownBy w' v.ownBlock) (hT : T ≠ 64) (k : ResQ base' w u x n) : ResQ base' w' u x n := by
  obtain ⟨zs, ys, ad, bd, ca, cb, rfl, A, B, k⟩ := k
  exact ⟨zs, ys, ad, bd, ca, cb, rfl, ⟨apartE h hg hT A.num, A.wf, A.full, A.eq⟩, ⟨apartE h hg hT B.num, B.wf, B.full, B.eq⟩, k⟩
set_option maxRecDepth 100000 in
set_option maxHeartbeats 4000000 in
theorem makeRR_any {n : Nat} {w : World} {m1 : Bool} {xs ds : List Int} {a1 a2 : Option Addr} {c1 c2 : Nat} (A : ArgD w (.slice a1 xs.length c1) xs a1 c1) (B : ArgD w (.slice a2 ds.length c2) ds a2 c2) (hx : xs.length ≤ n) (hd : ds.length ≤ n) (hn : n ≤ 4294967296) :
    Calls Tryz.prog 76 #[.bool m1, .slice a1 xs.length c1, .slice a2 ds.length c2] w fun e w' => ∃ r, e = .returned r ∧ ResR w.heap.size w' r (ratOf m1 (valD xs) (valD ds)) (n + 1) ∧ Below w.heap.size w w' := by
  have h0x := val_nonnegD A.wf
  have h0d := val_nonnegD B.wf
  obtain ⟨W, hW⟩ : ∃ W, (w.alloc (.cells #[.bool false, .slice none 0 0, .slice none 0 0] 56)) = W := ⟨_, rfl⟩
  have R0 : Row W (w.heap.size) 56 #[.bool false, .slice none 0 0, .slice none 0 0] := by rw [← hW]; exact (Row.new _ _ _)
  have hBW : Below w.heap.size w W := by rw [← hW]; exact ((Below.refl _ _).alloc (by (try simp) <;> omega) _)
  have hsW : w.heap.size + 1 ≤ W.heap.size := by rw [← hW]; simp
  by_cases z1 : valD xs = 0
  · have d1 := lenD_zero A.wf A.full z1
    have hX : ratOf m1 (valD xs) (valD ds) = 0 := by rw [z1]; exact ratOf_zero_left _ _
    have HX := Lib.hid hX
    have hb2 : Below W.heap.size W (W.alloc (.cells #[.int .i64 1] 3)) := (Below.refl _ _).alloc (Nat.le_refl _) _
    have L := digit_lit (Row.new W 3 #[.int .i64 1]) (by omega)
    have R0' := R0.later hb2
    obtain ⟨u0, u1, u2, g0, g1, g2⟩ := R0'.three
    obtain ⟨p0, p1, p2, p3, p4, p5⟩ := R0.three
    clear hX
    go_enter Tryz.func76, Tryz.ntmps76
    go_wp2_with fail
    refine bodyPost_ret (v := .agg #[.bool false, .slice none 0 0, .slice (some ⟨W.heap.size, 0, none⟩) 1 1]) (by simp [results, Tryz.results76, go_sem, u0, u1, u2]) rfl ⟨_, rfl, ⟨[], [1], none, some ⟨W.heap.size, 0, none⟩, 0, 1, ?_, ?_, ?_, by simp, by simp⟩, ?_⟩
    · rw [HX.out]; rfl
    · rw [HX.out]; exact ⟨⟨rfl, .inl ⟨rfl, rfl⟩⟩, WfD.nil, rfl, rfl⟩
    · rw [HX.out]; exact (ResD.one W (by omega)).far R0' (by decide) (kept3 _ _ _)
    · exact below_set3 (hBW.trans (hb2.mono (by omega))) (by omega) _ _ _
  by_cases z2 : valD ds = 0
  · have d1 := lenD_pos (show 0 < valD xs by omega)
    have d2 := lenD_zero B.wf B.full z2
    have hX : ratOf m1 (valD xs) (valD ds) = 0 := by rw [z2]; exact ratOf_zero_right _ _
    have HX := Lib.hid hX
    have hb2 : Below W.heap.size W (W.alloc (.cells #[.int .i64 1] 3)) := (Below.refl _ _).alloc (Nat.le_refl _) _
    have L := digit_lit (Row.new W 3 #[.int .i64 1]) (by omega)
    have R0' := R0.later hb2
    obtain ⟨u0, u1, u2, g0, g1, g2⟩ := R0'.three
    obtain ⟨p0, p1, p2, p3, p4, p5⟩ := R0.three
    clear hX
    go_enter Tryz.func76, Tryz.ntmps76
    go_wp2_with fail
    refine bodyPost_ret (v := .agg #[.bool false, .slice none 0 0, .slice (some ⟨W.heap.size, 0, none⟩) 1 1]) (by simp [results, Tryz.results76, go_sem, u0, u1, u2]) rfl ⟨_, rfl, ⟨[], [1], none, some ⟨W.heap.size, 0, none⟩, 0, 1, ?_, ?_, ?_, by simp, by simp⟩, ?_⟩
    · rw [HX.out]; rfl
    · rw [HX.out]; exact ⟨⟨rfl, .inl ⟨rfl, rfl⟩⟩, WfD.nil, rfl, rfl⟩
    · rw [HX.out]; exact (ResD.one W (by omega)).far R0' (by decide) (kept3 _ _ _)
    · exact below_set3 (hBW.trans (hb2.mono (by omega))) (by omega) _ _ _
  have hpx : 0 < valD xs := by omega
  have hpd : 0 < valD ds := by omega
  have d1 := lenD_pos hpx
  have d2 := lenD_pos hpd
  have A' := A.later hBW
  have B' := B.later hBW
  have e1 := ratOf_neg (n := m1) h0x hpd (fun h => absurd h z1)
  have e2 := ratOf_abs (n := m1) h0x hpd
  have e3 := ratOf_den (n := m1) (A := valD xs) hpd
  have hgp : 0 < (Int.gcd (valD xs) (valD ds) : Int) := gcd_pos hpx
  have E1 := Lib.hid e1
  have E2 := Lib.hid e2
  have E3 := Lib.hid e3
  clear e1 e2 e3 z1 z2
  go_enter Tryz.func76, Tryz.ntmps76
  go_wp2_with fail
  refine (gcdD_any A' B' (by omega) (by omega)).mono ?_
  rintro e w1 ⟨r1, rfl, gs, gd, gc, G, hG, lG, hb1⟩
  have hs1 := hb1.size
  have A1 := A'.later hb1
  have B1 := B'.later hb1
  have hgs : 0 < valD gs := by rw [hG]; exact hgp
  have HG := Lib.hid hG
  have eG := G.is
  subst eG
  clear hG hgp hW
  go_wp2_with fail
  refine (divD_any A1 G (by omega) (by omega) hgs).mono ?_
  rintro e w2 ⟨r2, s2, rfl, hb2, ⟨z2, q2, l2⟩, _⟩
  have hs2 := hb2.size
  obtain ⟨ad2, cp2, rfl, q2, A2⟩ := q2.slice
  have B2 := B1.later hb2
  have G2 := G.later hb2
  go_wp2_with fail
  refine (divD_any B2 G2 (by omega) (by omega) hgs).mono ?_
  rintro e w3 ⟨r3, s3, rfl, hb3, ⟨z3, q3, l3⟩, _⟩
  have hs3 := hb3.size
  obtain ⟨ad3, cp3, rfl, q3, A3⟩ := q3.slice
  have A2' := A2.later hb3
  have P3 := ((R0.later hb1).later hb2).later hb3
  have v2 := q2.eq
  have v3 := q3.eq
  rw [HG.out] at v2 v3
  have V2 := Lib.hid v2
  have V3 := Lib.hid v3
  have Q2 := Lib.hid (q2.later hb3)
  have Q3 := Lib.hid q3
  clear v2 v3 q2 q3
  obtain ⟨u0, u1, u2, g0, g1, g2⟩ := P3.three
  go_wp2_with fail
  refine bodyPost_ret (v := .agg #[.bool m1, .slice ad2 z2.length cp2, .slice ad3 z3.length cp3]) (by simp [results, Tryz.results76, go_sem, u0, u1, u2]) rfl ⟨_, rfl, ⟨z2, z3, ad2, ad3, cp2, cp3, by rw [E1.out], ?_, ?_, by omega, by omega⟩, ?_⟩
  · exact ((Q2.out.mono (by omega)).far P3 (by decide) (kept3 _ _ _)).eqTo (by rw [V2.out, E2.out])
  · exact ((Q3.out.mono (by omega)).far P3 (by decide) (kept3 _ _ _)).eqTo (by rw [V3.out, E3.out])
  · exact below_set3 (((hBW.trans (hb1.mono (by omega))).trans (hb2.mono (by omega))).trans (hb3.mono (by omega))) (by omega) _ _ _
set_option maxRecDepth 100000 in
set_option maxHeartbeats 4000000 in
theorem ofRR_any {n : Nat} {w : World} {v : Value} {X : Rat} (h : ArgQ w v X n) (hn : n ≤ 134217728) :
    Calls Tryz.prog 36 #[v] w fun e w' => ∃ r, e = .returned r ∧ ResR w.heap.size w' r X (5 * n + 1) ∧ Below w.heap.size w w' := by
  obtain ⟨m1, xs, ds, a1, a2, c1, c2, rfl, A, B, hX, hx, hd⟩ := h
  obtain ⟨W, hW⟩ : ∃ W, ((w.alloc (.cells #[.bool m1, .slice a1 xs.length c1, .slice a2 ds.length c2] 51)).alloc (.cells #[.bool false, .slice none 0 0, .slice none 0 0] 56)) = W := ⟨_, rfl⟩
  have R0 : Row W (w.heap.size) 51 #[.bool m1, .slice a1 xs.length c1, .slice a2 ds.length c2] := by rw [← hW]; exact ((Row.new _ _ _).alloc _)
  have R1 : Row W (w.heap.size + 1) 56 #[.bool false, .slice none 0 0, .slice none 0 0] := by rw [← hW]; have h := (Row.new (w.alloc (.cells #[.bool m1, .slice a1 xs.length c1, .slice a2 ds.length c2] 51)) 56 #[.bool false, .slice none 0 0, .slice none 0 0]); simp only [World.size_alloc] at h; exact h
  have hBW : Below w.heap.size w W := by rw [← hW]; exact (((Below.refl _ _).alloc (by (try simp) <;> omega) _).alloc (by (try simp) <;> omega) _)
  have hsW : w.heap.size + 1 + 1 ≤ W.heap.size := by rw [← hW]; simp
  have HX := Lib.hid hX
  clear hX
  have mkS : ∀ X, Kept (w.heap.size + 1) W X → X.cell? ⟨w.heap.size, 0, none⟩ = some (.bool m1) ∧ X.cell? ⟨w.heap.size, 1, none⟩ = some (.slice a1 xs.length c1) ∧ X.cell? ⟨w.heap.size, 2, none⟩ = some (.slice a2 ds.length c2) ∧ Kept (w.heap.size + 1) W X := fun X h => ⟨(R0.kept h (by omega)).cell 0, (R0.kept h (by omega)).cell 1, (R0.kept h (by omega)).cell 2, h⟩
  go_enter Tryz.func36, Tryz.ntmps36
  go_wp2_with fail
  clear hW
  go_region_held3 (fun X => X.cell? ⟨w.heap.size, 0, none⟩ = some (.bool m1) ∧ X.cell? ⟨w.heap.size, 1, none⟩ = some (.slice a1 xs.length c1) ∧ X.cell? ⟨w.heap.size, 2, none⟩ = some (.slice a2 ds.length c2) ∧ Kept (w.heap.size + 1) W X)
    (((refine mkS _ ?_; (repeat' (first | exact Kept.refl _ _ | refine Kept.drew ?_ | refine Kept.alloc ?_ _ | refine Kept.set ?_ _ _ | refine Kept.below ?_ (by assumption))))))
    ((first
      | (go_at_call 76; refine (makeRR_any (n := 5 * n) (A3.later hb4) A4 (by omega) (by omega) (by omega)).mono ?_; rintro e w5 ⟨r5, rfl, q5, hb5⟩; rw [HV.out] at q5; obtain ⟨fs, gs, f1, f2, j1, j2, e5, _⟩ := id q5; subst e5; have P5 := R1.kept (show Kept (w.heap.size + 1 + 1 + 1) W w5 by (repeat' (first | exact Kept.refl _ _ | refine Kept.drew ?_ | refine Kept.alloc ?_ _ | refine Kept.set ?_ _ _ | refine Kept.below ?_ (by assumption)))) (by omega); obtain ⟨u0, u1, u2, g0, g1, g2⟩ := P5.three)
      | (go_at_call 77; (with_reducible refine (of_any (B.later (Kept.under (show Kept (w.heap.size + 1) W _ by (repeat' (first | exact Kept.refl _ _ | refine Kept.drew ?_ | refine Kept.alloc ?_ _ | refine Kept.set ?_ _ _ | refine Kept.below ?_ (by assumption)))) hBW (by omega) (by omega))) (by omega)).mono ?_); rintro e w4 ⟨r4, rfl, z4, q4, l4, hb4⟩; obtain ⟨ad4, cp4, rfl, q4, A4⟩ := q4.slice; have HV := Lib.hid ((show ratOf m1 (valD z3) (valD z4) = ratOf m1 (val xs) (val ds) by rw [q3.eq, q4.eq]).trans HX.out))
      | (go_at_call 77; (with_reducible refine (of_any (A.later (Kept.under (show Kept (w.heap.size + 1) W _ by (repeat' (first | exact Kept.refl _ _ | refine Kept.drew ?_ | refine Kept.alloc ?_ _ | refine Kept.set ?_ _ _ | refine Kept.below ?_ (by assumption)))) hBW (by omega) (by omega))) (by omega)).mono ?_); rintro e w3 ⟨r3, rfl, z3, q3, l3, hb3⟩; obtain ⟨ad3, cp3, rfl, q3, A3⟩ := q3.slice)))
  have hs5 := hb5.size
  have hk5 := (show Kept (w.heap.size + 1 + 1 + 1) W w5 by (repeat' (first | exact Kept.refl _ _ | refine Kept.drew ?_ | refine Kept.alloc ?_ _ | refine Kept.set ?_ _ _ | refine Kept.below ?_ (by assumption)))).size
  have hk4 := (show Kept (w.heap.size + 1 + 1 + 1) W w4 by (repeat' (first | exact Kept.refl _ _ | refine Kept.drew ?_ | refine Kept.alloc ?_ _ | refine Kept.set ?_ _ _ | refine Kept.below ?_ (by assumption)))).size
  have hK5 := (Kept.under (show Kept (w.heap.size + 1 + 1 + 1) W w5 by (repeat' (first | exact Kept.refl _ _ | refine Kept.drew ?_ | refine Kept.alloc ?_ _ | refine Kept.set ?_ _ _ | refine Kept.below ?_ (by assumption)))) hBW (by omega) (by omega))
  go_wp2_with fail
  refine bodyPost_ret (v := .agg #[.bool (decide (X.num < 0)), .slice f1 fs.length j1, .slice f2 gs.length j2]) (by simp [results, Tryz.results36, go_sem, u0, u1, u2]) rfl ⟨_, rfl, ?_, below_set3 hK5 (by omega) _ _ _⟩
  exact (q5.far P5 (by decide) (kept3 _ _ _)).mono (by omega)
end
section
open Go.RowKit
set_option linter.unusedVariables false
set_option linter.unusedSimpArgs false
theorem pow_limit {k L : Nat} {N : Int} (h : (4294967296 : Int) ^ k ≤ N) (h2 : N < (10000 : Int) ^ L) : k < L := by
  rcases Nat.lt_or_ge k L with g | g
  · exact g
  · exfalso
    have e1 : (10000 : Nat) ^ L ≤ 4294967296 ^ L := Nat.pow_le_pow_left (by omega) L
    have e2 : (4294967296 : Nat) ^ L ≤ 4294967296 ^ k := Nat.pow_le_pow_right (by omega) g
    have e3 : ((10000 ^ L : Nat) : Int) = (10000 : Int) ^ L := by rw [Int.natCast_pow]; rfl
    have e4 : ((4294967296 ^ k : Nat) : Int) = (4294967296 : Int) ^ k := by rw [Int.natCast_pow]; rfl
    omega
set_option maxRecDepth 100000 in
set_option maxHeartbeats 4000000 in
theorem limbsR_any {u : Value} {ds : List Int} {a : Option Addr} {ca : Nat} {w : World} (A : ArgD w u ds a ca) (hx : ds.length ≤ 1099511627776) :
    Calls Tryz.prog 82 #[u] w fun e w' => ∃ r, e = .returned r ∧ ∃ zs, Res w.heap.size w' r zs (valD ds) ∧ zs.length ≤ ds.length ∧ Below w.heap.size w w' := by
  obtain ⟨i0, hi, hz0, hz1, hz2⟩ := info_parts infoLimb
  have hlt := val_ltD A.wf
  have h0N := val_nonnegD A.wf
  obtain ⟨N, hN⟩ : ∃ N, valD ds = N := ⟨_, rfl⟩
  rw [hN] at hlt h0N ⊢
  have HN := Lib.hid hN
  have HLT := Lib.hid hlt
  have HA := Lib.hid A
  obtain ⟨L, hL⟩ : ∃ L, ds.length = L := ⟨_, rfl⟩
  have HL := Lib.hid hL
  rw [hL] at hx ⊢
  clear hN hlt A hL
  go_enter Tryz.func82, Tryz.ntmps82
  go_wp2
  go_loopw [0, 3, 4, 5, 6, 7] (fun n s _ _ _ _ wr => ∃ (es zs : List Int) (b : Option Addr) (cb : Nat) (M : Int), ArgD wr n es b cb ∧ valD es = M ∧ 0 ≤ M ∧ es.length ≤ L ∧ Num w.heap.size wr s zs ∧ Wf zs ∧ val zs + 4294967296 ^ zs.length * M = N ∧ (M = 0 → trimN zs zs.length = zs.length) ∧ zs.length ≤ L ∧ Below w.heap.size w wr) (fun n _ _ _ _ _ wr => leftD wr n)
  case atStart => exact ⟨ds, [], a, ca, N, HA.out, HN.out, h0N, by rw [HL.out]; exact Nat.le_refl _, ⟨rfl, .inl ⟨rfl, rfl⟩⟩, Wf.nil, by simp [val], fun _ => rfl, Nat.zero_le _, Below.refl _ _⟩
  case round =>
    obtain ⟨es, zs, b, cb, M, E, hM, hM0, hel, hnum, hwf, hval, hfull, hzl, hb⟩ := hrel
    have hsz := hb.size
    have HE := Lib.hid E
    have HM := Lib.hid hM
    have HV := Lib.hid hval
    have HF := Lib.hid hfull
    have HO := Lib.hid hnum
    have HWF := Lib.hid hwf
    have hrow : wr.ownsRow w.heap.size 64 1 _ zs.length (zs.map (Value.int .u32)) := hnum
    have eE := E.is
    subst eE
    obtain ⟨m, hm⟩ : ∃ m, es.length = m := ⟨_, rfl⟩
    have HML := Lib.hid hm
    rw [hm] at hel
    rw [hm]
    by_cases hp : 0 < M
    · have hml : 0 < m := by
        rcases Nat.eq_zero_or_pos m with g | g
        · exfalso
          have := List.eq_nil_of_length_eq_zero (hm.trans g)
          rw [this] at hM
          simp [valD] at hM
          omega
        · exact g
      have hmI : (0 : Int) < (m : Int) := by omega
      have hs1 := short_any 65536 E (by omega) (by omega)
      rw [hM, hm] at hs1
      have hzL : zs.length < L := by
        refine pow_limit (N := N) ?_ (by rw [← HL.out]; exact HLT.out)
        have h1 := val_nonneg hwf
        have h2 := Int.mul_le_mul_of_nonneg_left (show (1 : Int) ≤ M by omega) (show (0 : Int) ≤ 4294967296 ^ zs.length from Int.pow_nonneg (by omega))
        omega
      obtain ⟨lo, hlo⟩ : ∃ lo, M % 65536 = lo := ⟨_, rfl⟩
      obtain ⟨hi2, hhi⟩ : ∃ h, M / 65536 = h := ⟨_, rfl⟩
      obtain ⟨up, hup⟩ : ∃ u, hi2 % 65536 = u := ⟨_, rfl⟩
      obtain ⟨rs, hrs⟩ : ∃ u, hi2 / 65536 = u := ⟨_, rfl⟩
      have hd : up * 65536 + lo + 4294967296 * rs = M := by omega
      have b0 : 0 ≤ lo ∧ lo < 65536 := by omega
      have b1 : 0 ≤ up ∧ up < 65536 := by omega
      have b2 : 0 ≤ rs := by omega
      obtain ⟨lo0, lo1⟩ := b0
      obtain ⟨up0, up1⟩ := b1
      rw [hlo, hhi] at hs1
      have HD := Lib.hid hd
      have HUP := Lib.hid hup
      have HRS := Lib.hid hrs
      clear hM hval hfull hnum hm hlo hhi hup hrs hd E
      go_wp2_with fail
      refine hs1.mono ?_
      rintro e w1 ⟨r1, rfl, z1, q1, l1, hb1⟩
      obtain ⟨ad1, cp1, rfl, q1, A1⟩ := q1.slice
      have v1 := q1.eq
      have hs2 := short_any 65536 A1 (by omega) (by omega)
      rw [v1, HUP.out, HRS.out] at hs2
      have hbw1 := hb.trans (hb1.mono hsz)
      have hrow1 : w1.ownsRow w.heap.size 64 1 _ zs.length (zs.map (Value.int .u32)) := Num.later HO.out hb1
      clear q1 v1 hs1 hrow
      go_wp2_with fail
      refine hs2.mono ?_
      rintro e w2 ⟨r2, rfl, z2, q2, l2, hb2⟩
      obtain ⟨ad2, cp2, rfl, q2, A2⟩ := q2.slice
      have hbw2 := hbw1.trans (hb2.mono hbw1.size)
      have hsz2 := hbw2.size
      have hrow2 : w2.ownsRow w.heap.size 64 1 _ zs.length (zs.map (Value.int .u32)) := Num.later (w := w1) hrow1 hb2
      have e1 : up % 4294967296 = up := by omega
      have e2 : lo % 4294967296 = lo := by omega
      have e3 : up * 65536 % 4294967296 = up * 65536 := by omega
      have e4 : (up * 65536 + lo) % 4294967296 = up * 65536 + lo := by omega
      have v2 := q2.eq
      have V2 := Lib.hid v2
      have Q2 := Lib.hid q2
      have HA2 := Lib.hid A2
      have HB2 := Lib.hid hbw2
      have HO2 : Hid (Num w.heap.size w2 _ zs) := Lib.hid hrow2
      clear hs2 hrow1 q2 v2 hbw1
      go_wp2_with (at_builtin; refine wpList_append_own _ rfl _ _ 49 rfl w.heap.size 64 i0 (.int .u32 0) 1 4 Tryz.underlying49 hi hz0 hz1 hz2 rfl (by decide) _ _ _ rfl (hrow2.alloc _) ⟨w2.heap.size, 0, none⟩ 1 1 [.int .u32 (up * 65536 + lo)] rfl rfl (cell_one_new _ _ _) (by simp [Value.oneCell']) (by unfold maxLen; omega) (by omega) (by simp; omega) ?_; intro v' w3 hown' hgrow _)
      have hnum3 : Num w.heap.size w3 v' (zs ++ [up * 65536 + lo]) := by
        unfold Num
        rw [List.length_append, List.map_append]
        exact hown'
      have hb3 : Below w.heap.size w w3 := (HB2.out.alloc hsz2 _).grown hgrow (by simp; omega) (fun k hk => (HO2.out.lt k hk).1)
      have Q3 : ResD w1.heap.size w3 (.slice ad2 z2.length cp2) z2 rs := ⟨apartV HO2.out hgrow (by decide) Q2.out.num, Q2.out.wf, Q2.out.full, Q2.out.eq⟩
      have A3 := Q3.at_.2
      go_roundw
      case rel => exact ⟨z2, _, ad2, cp2, rs, A3, V2.out, b2, by omega, hnum3, HWF.out.append (Wf.cons (by omega) Wf.nil), (by
        rw [val_append, List.length_append, List.length_singleton, Int.pow_succ]
        have h1 := HV.out
        have h2 := HD.out
        have h3 : val [up * 65536 + lo] = up * 65536 + lo := by simp [val]
        rw [h3, Int.mul_assoc, Int.add_assoc, ← Int.mul_add, h2]
        exact h1), fun h0 => full_snoc _ (by have := HD.out; omega), (by rw [List.length_append]; simp only [List.length_cons, List.length_nil]; omega), hb3⟩
      case measure =>
        have h1 := HE.out.left
        rw [HML.out, HM.out] at h1
        have h2 := HD.out
        rw [A3.left, V2.out, h1]
        omega
    · have h0 : M = 0 := by omega
      subst h0
      have hz := valD_zero E.wf E.full hM
      have hm0 : m = 0 := by rw [← hm, hz]
      subst hm0
      have hwfx := Lib.hid hwf
      clear hm hM hval hfull hnum E hz
      go_wp2
      go_ret
      refine ⟨_, rfl, zs, ⟨HO.out, hwf, (by have h := HF.out; simpa using h), ?_⟩, hzl, hb⟩
      have := HV.out
      rw [Int.mul_zero, Int.add_zero] at this
      exact this
set_option maxRecDepth 100000 in
set_option maxHeartbeats 4000000 in
theorem backR_any {n : Nat} {w : World} {v : Value} {X : Rat} (h : ArgR w v X n) (hn : n ≤ 1000000000) :
    Calls Tryz.prog 38 #[v] w fun e w' => ∃ r, e = .returned r ∧ ResQ w.heap.size w' r X n ∧ Below w.heap.size w w' := by
  obtain ⟨xs, ds, a1, a2, c1, c2, rfl, A, B, hX1, hX2, hx, hd⟩ := h
  obtain ⟨m1, hm1⟩ : ∃ m, decide (X.num < 0) = m := ⟨_, rfl⟩
  rw [hm1]
  have HM := Lib.hid hm1
  have HX1 := Lib.hid hX1
  have HX2 := Lib.hid hX2
  clear hm1 hX1 hX2
  obtain ⟨W, hW⟩ : ∃ W, ((w.alloc (.cells #[.bool m1, .slice a1 xs.length c1, .slice a2 ds.length c2] 56)).alloc (.cells #[.bool false, .slice none 0 0, .slice none 0 0] 51)) = W := ⟨_, rfl⟩
  have R0 : Row W (w.heap.size) 56 #[.bool m1, .slice a1 xs.length c1, .slice a2 ds.length c2] := by rw [← hW]; exact ((Row.new _ _ _).alloc _)
  have R1 : Row W (w.heap.size + 1) 51 #[.bool false, .slice none 0 0, .slice none 0 0] := by rw [← hW]; have h := (Row.new (w.alloc (.cells #[.bool m1, .slice a1 xs.length c1, .slice a2 ds.length c2] 56)) 51 #[.bool false, .slice none 0 0, .slice none 0 0]); simp only [World.size_alloc] at h; exact h
  have hBW : Below w.heap.size w W := by rw [← hW]; exact (((Below.refl _ _).alloc (by (try simp) <;> omega) _).alloc (by (try simp) <;> omega) _)
  have hsW : w.heap.size + 1 + 1 ≤ W.heap.size := by rw [← hW]; simp
  have mkS : ∀ X, Kept (w.heap.size + 1) W X → X.cell? ⟨w.heap.size, 0, none⟩ = some (.bool m1) ∧ X.cell? ⟨w.heap.size, 1, none⟩ = some (.slice a1 xs.length c1) ∧ X.cell? ⟨w.heap.size, 2, none⟩ = some (.slice a2 ds.length c2) ∧ Kept (w.heap.size + 1) W X := fun X h => ⟨(R0.kept h (by omega)).cell 0, (R0.kept h (by omega)).cell 1, (R0.kept h (by omega)).cell 2, h⟩
  go_enter Tryz.func38, Tryz.ntmps38
  go_wp2_with fail
  clear hW
  go_region_held3 (fun X => X.cell? ⟨w.heap.size, 0, none⟩ = some (.bool m1) ∧ X.cell? ⟨w.heap.size, 1, none⟩ = some (.slice a1 xs.length c1) ∧ X.cell? ⟨w.heap.size, 2, none⟩ = some (.slice a2 ds.length c2) ∧ Kept (w.heap.size + 1) W X)
    (((refine mkS _ ?_; (repeat' (first | exact Kept.refl _ _ | refine Kept.drew ?_ | refine Kept.alloc ?_ _ | refine Kept.set ?_ _ _ | refine Kept.below ?_ (by assumption))))))
    ((first
      | (go_at_call 82; (with_reducible refine (limbsR_any (B.later (Kept.under (show Kept (w.heap.size + 1) W _ by (repeat' (first | exact Kept.refl _ _ | refine Kept.drew ?_ | refine Kept.alloc ?_ _ | refine Kept.set ?_ _ _ | refine Kept.below ?_ (by assumption)))) hBW (by omega) (by omega))) (by omega)).mono ?_); rintro e w4 ⟨r4, rfl, z4, q4, l4, hb4⟩; obtain ⟨ad4, cp4, rfl, q4, A4⟩ := q4.slice; have P4 := R1.kept (show Kept (w.heap.size + 1 + 1 + 1) W w4 by (repeat' (first | exact Kept.refl _ _ | refine Kept.drew ?_ | refine Kept.alloc ?_ _ | refine Kept.set ?_ _ _ | refine Kept.below ?_ (by assumption)))) (by omega); have Q4 := Lib.hid q4; clear q4; obtain ⟨u0, u1, u2, g0, g1, g2⟩ := P4.three)
      | (go_at_call 82; (with_reducible refine (limbsR_any (A.later (Kept.under (show Kept (w.heap.size + 1) W _ by (repeat' (first | exact Kept.refl _ _ | refine Kept.drew ?_ | refine Kept.alloc ?_ _ | refine Kept.set ?_ _ _ | refine Kept.below ?_ (by assumption)))) hBW (by omega) (by omega))) (by omega)).mono ?_); rintro e w3 ⟨r3, rfl, z3, q3, l3, hb3⟩; obtain ⟨ad3, cp3, rfl, q3, A3⟩ := q3.slice; have Q3 := Lib.hid q3; clear q3)))
  have Q3' := Q3.out.later hb4
  have hk4 := (show Kept (w.heap.size + 1 + 1 + 1) W w4 by (repeat' (first | exact Kept.refl _ _ | refine Kept.drew ?_ | refine Kept.alloc ?_ _ | refine Kept.set ?_ _ _ | refine Kept.below ?_ (by assumption)))).size
  have hk3 := (show Kept (w.heap.size + 1 + 1 + 1) W w3 by (repeat' (first | exact Kept.refl _ _ | refine Kept.drew ?_ | refine Kept.alloc ?_ _ | refine Kept.set ?_ _ _ | refine Kept.below ?_ (by assumption)))).size
  have hK4 := (Kept.under (show Kept (w.heap.size + 1 + 1 + 1) W w4 by (repeat' (first | exact Kept.refl _ _ | refine Kept.drew ?_ | refine Kept.alloc ?_ _ | refine Kept.set ?_ _ _ | refine Kept.below ?_ (by assumption)))) hBW (by omega) (by omega))
  have HQ := Lib.hid Q3'
  clear Q3'
  go_wp2_with fail
  refine bodyPost_ret (v := .agg #[.bool m1, .slice ad3 z3.length cp3, .slice ad4 z4.length cp4]) (by simp [results, Tryz.results38, go_sem, u0, u1, u2]) rfl ⟨_, rfl, ⟨z3, z4, ad3, ad4, cp3, cp4, by rw [HM.out], ?_, ?_, by omega, by omega⟩, below_set3 hK4 (by omega) _ _ _⟩
  · rw [← HX1.out]; exact (HQ.out.mono (by show w.heap.size ≤ W.heap.size; omega)).far P4 (by decide) (kept3 _ _ _)
  · rw [← HX2.out]; exact (Q4.out.mono (by omega)).far P4 (by decide) (kept3 _ _ _)
end
section
open Go.RowKit
variable {P : Program} {ops : Array Oper} {Q : Exit → Act → World → Prop} {md : Region.Mode} {S : World → Prop} {z : Nat}
set_option linter.unusedVariables false
set_option linter.unusedSimpArgs false
def wpAnyL (P : Program) (md : Region.Mode) (ops : Array Oper) (Q : Exit → Act → World → Prop) (S : World → Prop) (z : Nat) : Nat → Array Bool → Act → World → Prop
  | 0, listed, a, w => Region.ready md ops listed = [] ∧ Q .normal a w
  | fuel + 1, listed, a, w =>
    (Region.ready md ops listed = [] → Q .normal a w) ∧
    ∀ i ∈ Region.ready md ops listed, wpOp P ops Q i (fun a' w' => (i ≠ z → S w') ∧ wpAnyL P md ops Q S z fuel (listed.setIfInBounds i true) a' w') a w
theorem wpAny_of_L : ∀ (fuel : Nat) (listed : Array Bool) (a : Act) (w : World), wpAnyL P md ops Q S z fuel listed a w → wpAny P md ops Q fuel listed a w
  | 0, _, _, _, h => h
  | fuel + 1, _, _, _, h => ⟨h.1, fun i hi => wpOp_mono (fun a' w' h' => wpAny_of_L fuel _ a' w' h'.2) (h.2 i hi)⟩
/-- z waits for i -/
def waitsB (md : Region.Mode) (ops : Array Oper) (z i : Nat) : Bool := match ops[z]? with
  | some o => o.after.toList.any fun e => Region.binds md e && decide (e.on = i)
  | none => false
theorem waits_spec {z i : Nat} (h : waitsB md ops z i = true) : ∀ o, ops[z]? = some o → ∃ e ∈ o.after, Region.binds md e = true ∧ e.on = i := by
  intro o ho
  unfold waitsB at h
  rw [ho] at h
  obtain ⟨e, he, h2⟩ := List.any_eq_true.1 h
  rw [Bool.and_eq_true, decide_eq_true_iff] at h2
  exact ⟨e, Array.mem_toList_iff.1 he, h2⟩
theorem wpAnyL_first {i : Nat} {oi : Oper} {v : Value} (hi : ops[i]? = some oi) (hsel : ∀ (j : Nat) (o : Oper) cs b, ops[j]? = some o → o.op ≠ .select cs b)
    (hQ : ∀ c a w, Q (.panic c) (a.put oi.dst v) w → Q (.panic c) a w) (hz : ∀ o, ops[z]? = some o → ∃ e ∈ o.after, Region.binds md e = true ∧ e.on = i) :
    ∀ (fuel : Nat) (listed : Array Bool) (a : Act) (w : World),
      (∀ j oj, ops[j]? = some oj → j ≠ i → listed.getD j true = false → (∀ e ∈ oj.after, Region.binds md e = true → e.on ≠ i) → oi.apart ops oj = true) →
      i ∈ Region.ready md ops listed → YieldsIf P ops S oi v a → S w →
      wpAnyL P md ops Q S z fuel (listed.setIfInBounds i true) (a.put oi.dst v) w → wpAnyL P md ops Q S z (fuel + 1) listed a w := by
  intro fuel
  induction fuel with
  | zero =>
    intro listed a w _ hr hy hS H
    refine ⟨fun h => (by rw [h] at hr; cases hr), fun j hj => ?_⟩
    by_cases hji : j = i
    · subst hji; exact hy.wpOp hi hS ⟨fun _ => hS, H⟩
    · have := ready_mono hj hji
      rw [H.1] at this
      cases this
  | succ fuel ih =>
    intro listed a w hfree hr hy hS H
    refine ⟨fun h => (by rw [h] at hr; cases hr), fun j hj => ?_⟩
    by_cases hji : j = i
    · subst hji; exact hy.wpOp hi hS ⟨fun _ => hS, H⟩
    · have h1 := H.2 j (ready_mono hj hji)
      obtain ⟨hjun, oj, hoj, hall⟩ := mem_ready.1 hj
      have hnot : ∀ e ∈ oj.after, Region.binds md e = true → e.on ≠ i := fun e he hb heq => by
        have h1 := hall e he hb
        have h0 := (mem_ready.1 hr).1
        rw [heq] at h1
        rcases Nat.lt_or_ge i listed.size with h' | h'
        · simp [h'] at h0 h1; rw [h0] at h1; cases h1
        · simp [Array.getElem?_eq_none h'] at h1
      have hjz : j ≠ z := fun e => by
        subst e
        obtain ⟨e, he, hb, hon⟩ := hz oj hoj
        exact hnot e he hb hon
      have h2 := wpOp_putIf hoj (hfree j oj hoj hji hjun hnot) (fun cs b => hsel i oi cs b hi) (fun cs b => hsel j oj cs b hoj) hQ hy h1
      have hfree' : ∀ k ok, ops[k]? = some ok → k ≠ i → (listed.setIfInBounds j true).getD k true = false →
          (∀ e ∈ ok.after, Region.binds md e = true → e.on ≠ i) → oi.apart ops ok = true := fun k ok hk hki hun hno => by
        refine hfree k ok hk hki ?_ hno
        by_cases hjk : j = k
        · subst hjk; exact hjun
        · rw [getD_set_ne true hjk] at hun; exact hun
      refine wpOp_mono (fun a' w' h3 => ⟨fun _ => h3.2.1 hjz, ih (listed.setIfInBounds j true) a' w' hfree' (ready_mono hr (Ne.symm hji)) h3.1 (h3.2.1 hjz) ?_⟩) h2
      rw [Array.setIfInBounds_comm _ _ hji]
      exact h3.2.2
theorem wpAnyL_take {i : Nat} {oi : Oper} {v : Value} {fuel : Nat} {listed : Array Bool} {a : Act} {w : World} (hi : ops[i]? = some oi)
    (hs : Region.noSelect ops = true) (hf : Region.free md ops listed i = true) (hr : (Region.ready md ops listed).contains i = true) (hz : waitsB md ops z i = true)
    (hQ : ∀ c a w, Q (.panic c) (a.put oi.dst v) w → Q (.panic c) a w) (hy : YieldsIf P ops S oi v a) (hS : S w)
    (h : wpAnyL P md ops Q S z fuel (listed.setIfInBounds i true) (a.put oi.dst v) w) : wpAnyL P md ops Q S z (fuel + 1) listed a w :=
  wpAnyL_first hi (Region.noSelect_spec hs) hQ (waits_spec hz) fuel listed a w (Region.free_spec hi hf) (by simpa using hr) hy hS h
/-- one operation alone is ready -/
theorem wpAnyL_one {i : Nat} {o : Oper} {fuel : Nat} {listed : Array Bool} {a : Act} {w : World} (hr : Region.ready md ops listed = [i]) (ho : ops[i]? = some o)
    (h : ∀ K' : Act → World → Prop, Shut (∀ a w, (i ≠ z → S w) → ((i ≠ z → S w) → wpAnyL P md ops Q S z fuel (listed.setIfInBounds i true) a w) → K' a w) → if Region.wanted o (yielded ops a.tmps) = true then Oper.wp P o a w K' Q else K' (a.put o.dst undef) w) :
    wpAnyL P md ops Q S z (fuel + 1) listed a w := by
  refine ⟨fun h0 => (by rw [hr] at h0; cases h0), fun j hj => ?_⟩
  rw [hr, List.mem_singleton] at hj
  subst hj
  exact wpOp_step ho (fun K' hK => h K' (fun a w hS hW => hK a w ⟨hS, hW hS⟩))
theorem wpAnyL_done {listed : Array Bool} {a : Act} {w : World} (hr : Region.ready md ops listed = []) (h : Q .normal a w) :
    ∀ fuel, wpAnyL P md ops Q S z fuel listed a w
  | 0 => ⟨hr, h⟩
  | _ + 1 => ⟨fun _ => h, by rw [hr]; simp⟩
theorem wp_region_L {id : Nat} {a : Act} {w : World} (S : World → Prop) (z : Nat) (hm : P.follows .mixedOrders = true) (hS : S w.drew)
    (h : S w.drew → wpAnyL P .any ops Q S z ops.size (Array.replicate ops.size false) a w.drew) : (Code.region id ops true).wp P Q a w :=
  wp_region_any hm (wpAny_of_L _ _ _ _ (h hS))
/-- these operations are taken next -/
def Todo (_ : List Nat) (G : Prop) : Prop := G
theorem todo {G : Prop} (is : List Nat) (h : Todo is G) : G := h
theorem todone {G : Prop} (h : G) : Todo [] G := h
theorem todoH {i : Nat} {is : List Nat} {oi : Oper} {v : Value} {fuel : Nat} {listed : Array Bool} {a : Act} {w : World} (hi : ops[i]? = some oi)
    (hk : (Region.noSelect ops && Region.free md ops listed i && (Region.ready md ops listed).contains i) = true)
    (hQ : ∀ c a w, Q (.panic c) (a.put oi.dst v) w → Q (.panic c) a w) (hS : S w) (hy : YieldsIf P ops S oi v a)
    (h : Todo is (wpAnyH P md ops Q S fuel (listed.setIfInBounds i true) (a.put oi.dst v) w)) : Todo (i :: is) (wpAnyH P md ops Q S (fuel + 1) listed a w) := by
  simp only [Bool.and_eq_true] at hk
  exact wpAnyH_take hi hk.1.1 hk.1.2 hk.2 hQ hy hS h
theorem todoL {i : Nat} {is : List Nat} {oi : Oper} {v : Value} {fuel : Nat} {listed : Array Bool} {a : Act} {w : World} (hi : ops[i]? = some oi)
    (hk : (Region.noSelect ops && Region.free md ops listed i && (Region.ready md ops listed).contains i && waitsB md ops z i) = true)
    (hQ : ∀ c a w, Q (.panic c) (a.put oi.dst v) w → Q (.panic c) a w) (hS : S w) (hy : YieldsIf P ops S oi v a)
    (h : Todo is (wpAnyL P md ops Q S z fuel (listed.setIfInBounds i true) (a.put oi.dst v) w)) : Todo (i :: is) (wpAnyL P md ops Q S z (fuel + 1) listed a w) := by
  simp only [Bool.and_eq_true] at hk
  exact wpAnyL_take hi hk.1.1.1 hk.1.1.2 hk.1.2 hk.2 hQ hy hS h
end
section
open Go.RowKit
set_option linter.unusedVariables false
set_option linter.unusedSimpArgs false
theorem append_types {P : Program} {t t' e e' : TypeId} (ht : P.underlying t = some (.slice e)) (ht' : P.underlying t' = some (.slice e')) (ty : TypeId) (v x : Value) (w : World) :
    (Builtin.append_ #[t, t'] ty #[v, x]).run P w = (Builtin.append_ #[t, t] ty #[v, x]).run P w := by
  unfold Builtin.append_
  cases v <;> simp [run_underlying ht, run_underlying ht']
set_option maxRecDepth 100000 in
/-- append(nil, b..) -/
theorem step_copyT {ops : Array Oper} {rest : List Oper} {o : Oper} {a : Act} {w : World} {Q : Exit → Act → World → Prop} (hg : o.guard = none) (t : Nat) (T T' : TypeId) (hT : Tryz.prog.underlying T = some (.slice 3)) (hT' : Tryz.prog.underlying T' = some (.slice 3))
    (hop : o.op = Op.call { callee := Callee.builtin Builtin.append, args := #[Operand.const (.slice none 0 0), Operand.tmp t], argTypes := #[T, T'] }) {xs : List Int} {ad : Option Addr} {cap : Nat} {u : Value} (hx : a.eval (.tmp t) = u)
    (hA : ArgS w u xs ad cap) (hn : ad = none → cap = 0) (hl : xs.length ≤ 17592186044416)
    (h : ∀ v' w1, ResS w.heap.size w1 v' xs → Below w.heap.size w w1 → wpList Tryz.prog ops Q rest (a.put o.dst v') w1) : wpList Tryz.prog ops Q (o :: rest) a w := by
  obtain ⟨i0, hi, hz0, hz1, hz2⟩ := info_parts infoS
  have hnil := World.ownsRow_nil w w.heap.size 3 1
  have hs : a.eval (.const (.slice none 0 0)) = .slice none 0 0 := rfl
  obtain ⟨rfl, lx, hle, wx⟩ := hA
  cases ad with
  | none =>
    have hc := hn rfl
    subst hc
    have hxs : xs = [] := List.eq_nil_of_length_eq_zero (by omega)
    subst hxs
    refine wpList_plain hg fun K hK => ?_
    have hrun := (append_types hT hT' o.type (.slice none 0 0) (.slice none 0 0) w).trans (run_append_owned_none (P := Tryz.prog) w w.heap.size T o.type 3 i0 1 hT hi (.slice none 0 0) 0 [] hnil)
    unfold Oper.wp
    simp [execOp, hop, resolve, invoke, builtin, hs, hx, hrun, Result.andThen]
    exact hK _ _ (h _ _ ⟨hnil, wx⟩ (Below.refl _ _))
  | some ad =>
    refine wpList_plain hg fun K hK => ?_
    obtain ⟨v', w', hr, hown, hgrow, _⟩ := run_append_own (P := Tryz.prog) w w.heap.size T o.type 3 i0 (.int .i64 0) 1 8 hT hi hz0 hz1 hz2 rfl (by decide) (.slice none 0 0) 0 [] hnil ad xs.length cap (xs.map (Value.int .i64)) (by simp) (cells_argS (cap := cap) lx) (ints_oneCell _ _) (by unfold maxLen; omega) (by omega) (Nat.le_refl _)
    have hr2 := (append_types hT hT' o.type (.slice none 0 0) (.slice (some ad) xs.length cap) w).trans hr
    unfold Oper.wp
    simp [execOp, hop, resolve, invoke, builtin, hs, hx, hr2, Result.andThen]
    refine hK _ _ (h v' w' ⟨?_, wx⟩ ((Below.refl _ w).grown hgrow (Nat.le_refl _) (fun k hk => by cases hk)))
    unfold NumS
    simpa using hown
/-- a tensor as it came in -/
structure TensQ (w : World) (v : Value) (s : List Int) (qs : List Q3) (a : Option Addr) (ca : Nat) (b : Option Addr) (cb : Nat) : Prop where
  is : v = .agg #[.slice a s.length ca, .slice b qs.length cb]
  sh : ArgS w (.slice a s.length ca) s a ca
  nila : a = none → ca = 0
  el : RowA RawQ w (.slice b qs.length cb) qs b cb
  nilb : b = none → cb = 0
theorem TensQ.later {w w' : World} {v : Value} {s : List Int} {qs : List Q3} {a b : Option Addr} {ca cb : Nat} (h : TensQ w v s qs a ca b cb) (hb : Below w.heap.size w w') : TensQ w' v s qs a ca b cb :=
  ⟨h.is, h.sh.later hb, h.nila, h.el.later hb (fun v x _ k => k.later hb), h.nilb⟩
/-- the reference's tensor -/
structure TensR (w : World) (v : Value) (s : List Int) (L : List Rat) (m : Nat) (a : Option Addr) (ca : Nat) (b : Option Addr) (cb : Nat) : Prop where
  is : v = .agg #[.slice a s.length ca, .slice b L.length cb]
  sh : ArgS w (.slice a s.length ca) s a ca
  nila : a = none → ca = 0
  el : RowA (fun w v x => ArgR w v x m) w (.slice b L.length cb) L b cb
  nilb : b = none → cb = 0
theorem TensR.later {w w' : World} {v : Value} {s : List Int} {L : List Rat} {m : Nat} {a b : Option Addr} {ca cb : Nat} (h : TensR w v s L m a ca b cb) (hb : Below w.heap.size w w') : TensR w' v s L m a ca b cb :=
  ⟨h.is, h.sh.later hb, h.nila, h.el.later hb (fun v x _ k => k.later hb), h.nilb⟩
theorem infoR : (Tryz.prog.info? 56).map (fun i => (i.zero, i.size, i.bytes)) = some (some (.agg #[.bool false, .slice none 0 0, .slice none 0 0]), 3, 56) := by kernel_rfl
theorem infoQ : (Tryz.prog.info? 51).map (fun i => (i.zero, i.size, i.bytes)) = some (some (.agg #[.bool false, .slice none 0 0, .slice none 0 0]), 3, 56) := by kernel_rfl
/-- the block that an append may write to -/
theorem OwnE.hits {base : Nat} {T : TypeId} {w : World} {v : Value} {es : List E3} (h : OwnE base T w v es) (hb : base ≤ w.heap.size) : ∃ r, (v.ownBlock = none ∨ v.ownBlock = some r) ∧ base ≤ r ∧ ∀ g t cs, Row w g t cs → t ≠ T → g ≠ r := by
  have hlt := h.lt
  cases e : v.ownBlock with
  | none => exact ⟨w.heap.size, .inl rfl, hb, fun g t cs R _ => by have := R.lt; omega⟩
  | some r =>
    refine ⟨r, .inr rfl, (hlt r e).1, fun g t cs R ht he => ?_⟩
    subst he
    obtain ⟨cur, hc⟩ := h.typed e
    have := hc.symm.trans R
    simp only [Option.some.injEq, Obj.cells.injEq] at this
    exact ht this.2.1.symm
theorem Kept.grown {r : Nat} {a w w' : World} {v : Value} (h : Kept r a w) (hg : w.grownBy w' v.ownBlock) (hv : v.ownBlock = none ∨ v.ownBlock = some r) : Kept r a w' := by
  refine ⟨hg.os.trans h.os, hg.tape.trans h.tape, hg.output.trans h.output, Nat.le_trans h.size hg.size, fun k hk hr => ?_⟩
  rw [hg.block k (Nat.lt_of_lt_of_le hk h.size) (by rcases hv with e | e <;> rw [e] <;> simp <;> omega)]
  exact h.block k hk hr
theorem Kept.cell {r : Nat} {w w' : World} (h : Kept r w w') {p : Addr} {u : Value} (hc : w.cell? p = some u) (hp : p.block ≠ r) : w'.cell? p = some u :=
  (World.cell?_of_block (h.block p.block (World.block_lt_of_cell? w p hc) hp)).trans hc
theorem ResS.far {base : Nat} {w w' : World} {u : Value} {zs : List Int} {g : Nat} {t : TypeId} {cs : Array Value} (h : ResS base w u zs) (R : Row w g t cs) (ht : t ≠ 3) (hk : ∀ k, k ≠ g → w'.heap[k]? = w.heap[k]?) : ResS base w' u zs := by
  refine ⟨?_, h.wf⟩
  obtain ⟨h1, h2⟩ := h.num
  refine ⟨h1, ?_⟩
  rcases h2 with h2 | ⟨k, cap, cur, rfl, hg0, hg', hc, hm, hs, ht'⟩
  · exact .inl h2
  · refine .inr ⟨k, cap, cur, rfl, hg0, (hk k ?_).trans hg', hc, hm, hs, ht'⟩
    rintro rfl
    have e := hg'.symm.trans R
    injection e with e
    injection e with _ e
    exact ht e.symm
theorem ResS.apart {base base' : Nat} {T : TypeId} {w w' : World} {v u : Value} {es : List E3} {zs : List Int} {o : Obj} (h : OwnE base T w v es) (hg : (w.alloc o).grownBy w' v.ownBlock) (hT : T ≠ 3) (k : ResS base' w u zs) : ResS base' w' u zs := ⟨apartE h hg hT k.num, k.wf⟩
theorem RowO.far {α : Type} {base : Nat} {T : TypeId} {P : World → Value → α → Prop} {w w' : World} {u : Value} {L : List α} {g : Nat} {t : TypeId} {cs : Array Value} (h : RowO base T P w u L) (R : Row w g t cs) (ht : t ≠ T) (hk : ∀ k, k ≠ g → w'.heap[k]? = w.heap[k]?) (hP : ∀ v x, P w v x → P w' v x) : RowO base T P w' u L := by
  obtain ⟨es, h1, h2⟩ := h
  refine ⟨es, h1.same fun k e => hk k fun e2 => ?_, h2.imp fun v x _ => hP v x⟩
  subst e2
  obtain ⟨cur, hc⟩ := h1.typed e
  have := hc.symm.trans R
  simp only [Option.some.injEq, Obj.cells.injEq] at this
  exact ht this.2.1.symm
theorem kept1 {g i : Nat} {w : World} (x : Value) : ∀ k, k ≠ g → (w.setCell ⟨g, i, none⟩ x).heap[k]? = w.heap[k]? := fun k hk => Below.heap_setCell _ _ _ _ hk
theorem Row.set21 {w : World} {g : Nat} {t : TypeId} {a b : Value} (h : Row w g t #[a, b]) (x : Value) : Row (w.setCell ⟨g, 1, none⟩ x) g t #[a, x] := h.set 1 x
theorem take_mapQ {qs : List Q3} {k : Nat} {q : Q3} (h : qs[k]? = some q) : (qs.take (k + 1)).map Q3.rat = (qs.take k).map Q3.rat ++ [q.rat] := by
  rw [List.take_add_one, h, Option.toList_some, List.map_append]; rfl
theorem take_nextL {α : Type} {qs : List α} {k : Nat} {q : α} (h : qs[k]? = some q) : qs.take (k + 1) = qs.take k ++ [q] := by rw [List.take_add_one, h]; rfl
theorem ResR.shape {base : Nat} {w : World} {v : Value} {x : Rat} {n : Nat} (h : ResR base w v x n) : ∃ m a1 n1 c1 a2 n2 c2, v = .agg #[.bool m, .slice a1 n1 c1, .slice a2 n2 c2] := by
  obtain ⟨_, _, _, _, _, _, rfl, _⟩ := h
  exact ⟨_, _, _, _, _, _, _, rfl⟩
theorem ResQ.shape {base : Nat} {w : World} {v : Value} {x : Rat} {n : Nat} (h : ResQ base w v x n) : ∃ m a1 n1 c1 a2 n2 c2, v = .agg #[.bool m, .slice a1 n1 c1, .slice a2 n2 c2] := by
  obtain ⟨_, _, _, _, _, _, rfl, _⟩ := h
  exact ⟨_, _, _, _, _, _, _, rfl⟩
theorem RawO.shape {base : Nat} {w : World} {v : Value} {q : Q3} (h : RawO base w v q) : ∃ m a1 n1 c1 a2 n2 c2, v = .agg #[.bool m, .slice a1 n1 c1, .slice a2 n2 c2] := by
  obtain ⟨_, _, _, _, rfl, _⟩ := h
  exact ⟨_, _, _, _, _, _, _, rfl⟩
theorem RowA.low {α : Type} {P : World → Value → α → Prop} {w : World} {u : Value} {L : List α} {ad : Option Addr} {cap : Nat} (h : RowA P w u L ad cap) {b o : Nat} (hn : L ≠ []) (e : ad = some ⟨b, o, none⟩) : b < w.heap.size := by
  rcases h.els with hh | ⟨b', o', es', e', c', k'⟩
  · exact absurd hh hn
  · obtain ⟨d, _, h1, _, _⟩ := k'.at (i := 0) (by rcases Nat.eq_zero_or_pos L.length with g | g
                                                  · exact absurd (List.eq_nil_of_length_eq_zero g) hn
                                                  · exact g)
    have h3 := World.block_lt_of_cell? w _ (c' 0 d h1).1
    rw [e] at e'
    simp only [Option.some.injEq, Addr.mk.injEq] at e'
    rw [e'.1]
    exact h3
theorem ownT_slice {base sz n : Nat} {T : TypeId} {w : World} {v : Value} {xs : List Value} (h : w.ownsRow base T sz v n xs) : ∃ a c, v = .slice a n c := by
  obtain ⟨_, h2⟩ := h
  rcases h2 with ⟨rfl, rfl⟩ | ⟨g, cap, cur, rfl, _⟩
  · exact ⟨_, _, rfl⟩
  · exact ⟨_, _, rfl⟩
end
section
open Go.RowKit
set_option linter.unusedVariables false
set_option linter.unusedSimpArgs false
set_option maxRecDepth 100000 in
set_option maxHeartbeats 4000000 in
theorem ofT_any {n : Nat} {w : World} {v : Value} {s : List Int} {qs : List Q3} {a b : Option Addr} {ca cb : Nat} (T : TensQ w v s qs a ca b cb) (hs : s.length ≤ 17592186044416) (hq : qs.length ≤ 1000000000)
    (hl : ∀ q ∈ qs, q.num.length ≤ n ∧ q.den.length ≤ n) (hn : n ≤ 134217728) :
    Calls Tryz.prog 18 #[v] w fun e w' => ∃ (a' b' : Option Addr) (ca' cb' : Nat), e = .returned (.agg #[.slice a' s.length ca', .slice b' qs.length cb']) ∧ ResS w.heap.size w' (.slice a' s.length ca') s ∧
      RowO w.heap.size 56 (fun W v x => ResR w.heap.size W v x (5 * n + 1)) w' (.slice b' qs.length cb') (qs.map Q3.rat) ∧ Below w.heap.size w w' := by
  obtain ⟨i0, hi, hz0, hz1, hz2⟩ := info_parts infoR
  have HT := Lib.hid T
  obtain rfl := T.is
  obtain ⟨W, hW⟩ : ∃ W, ((w.alloc (.cells #[.slice a s.length ca, .slice b qs.length cb] 26)).alloc (.cells #[.slice none 0 0, .slice none 0 0] 36)) = W := ⟨_, rfl⟩
  have R0 : Row W w.heap.size 26 #[.slice a s.length ca, .slice b qs.length cb] := by rw [← hW]; exact (Row.new _ _ _).alloc _
  have R1 : Row W (w.heap.size + 1) 36 #[.slice none 0 0, .slice none 0 0] := by rw [← hW]; have h := (Row.new (w.alloc (.cells #[.slice a s.length ca, .slice b qs.length cb] 26)) 36 #[.slice none 0 0, .slice none 0 0]); simp only [World.size_alloc] at h; exact h
  have hBW : Below w.heap.size w W := by rw [← hW]; exact ((Below.refl _ _).alloc (by simp) _).alloc (by simp) _
  have hsW : w.heap.size + 1 + 1 ≤ W.heap.size := by rw [← hW]; simp
  have AW := HT.out.sh.later hBW
  have nA := HT.out.nila
  have NA := Lib.hid nA
  obtain ⟨p0, p1, _, _⟩ := R0.two
  clear T nA
  go_enter Tryz.func18, Tryz.ntmps18
  go_wp2_with (at_builtin; refine step_copyT rfl _ 22 23 Tryz.underlying22 Tryz.underlying23 rfl rfl AW NA.out hs ?_; intro ro w3 R3 hb3; obtain ⟨a3, c3, rfl, R3', A3, n3⟩ := R3.slice)
  have hs3 := hb3.size
  have hB3 : Below w.heap.size w w3 := hBW.trans (hb3.mono (by omega))
  have hB4 : Below w.heap.size w (w3.alloc (.cells #[.slice a3 s.length c3, .slice none 0 0] 36)) := hB3.alloc (by omega) _
  have r0 := (R0.later hb3).alloc (.cells #[.slice a3 s.length c3, .slice none 0 0] 36)
  have r1 := (R1.later hb3).alloc (.cells #[.slice a3 s.length c3, .slice none 0 0] 36)
  have r2 := Row.new w3 36 #[.slice a3 s.length c3, .slice none 0 0]
  have r3 : ResS w.heap.size (w3.alloc (.cells #[.slice a3 s.length c3, .slice none 0 0] 36)) (.slice a3 s.length c3) s := (R3'.mono (by omega)).later ((Below.refl _ _).alloc (Nat.le_refl _) _)
  obtain ⟨g, hg⟩ : ∃ g, w3.heap.size = g := ⟨_, rfl⟩
  have hg2 : w.heap.size + 1 + 1 ≤ g := by omega
  rw [hg] at r2 ⊢
  generalize w3.alloc (.cells #[.slice a3 s.length c3, .slice none 0 0] 36) = W4 at *
  have H0 := Lib.hid r0
  have H1 := Lib.hid r1
  have H2 := Lib.hid r2
  have H3 := Lib.hid r3
  have HB4 := Lib.hid hB4
  clear r0 r1 r2 r3 hB4 hB3 hb3 hs3 R3 R3' A3 R0 R1 hBW AW p0 p1 hsW hg hW
  go_loopw [4] (fun i wr => ∃ (k : Nat) (v : Value), i = .int .i64 (k : Int) ∧ k ≤ qs.length ∧ Row wr w.heap.size 26 #[.slice a s.length ca, .slice b qs.length cb] ∧ Row wr (w.heap.size + 1) 36 #[.slice none 0 0, .slice none 0 0] ∧
    Row wr g 36 #[.slice a3 s.length c3, v] ∧ ResS w.heap.size wr (.slice a3 s.length c3) s ∧ RowO w.heap.size 56 (fun W v x => ResR w.heap.size W v x (5 * n + 1)) wr v ((qs.take k).map Q3.rat) ∧ Below w.heap.size w wr) (fun i _ => qs.length - (intOf i).toNat)
  case atStart => exact ⟨0, _, rfl, Nat.zero_le _, H0.out, H1.out, H2.out, H3.out, RowO.nil _ _ _ _, HB4.out⟩
  case round =>
    obtain ⟨k, v, rfl, hk, r0, r1, r2, r3, ⟨es, hown, hall⟩, hb⟩ := hrel
    have hsz := hb.size
    have c01 := r0.cell 1
    have c21 := r2.cell 1
    have hle : es.length = k := by rw [hall.1]; simp [hk]
    by_cases hlt : k < qs.length
    · obtain ⟨bb, o, x0, x1, x2, q, hbo, hqk, e0, e1, e2, hraw⟩ := (HT.out.el.later hb (fun v x _ k => k.later hb)).at hlt
      have hmem := List.mem_of_getElem? hqk
      have hb0 : bb < w.heap.size := HT.out.el.low (by intro h; rw [h] at hlt; simp at hlt) hbo
      subst hbo
      have hcall := hraw.arg (hl q hmem).1 (hl q hmem).2
      obtain ⟨r, hrv, hrb, hrne⟩ := hown.hits hsz
      have n0 := hrne _ _ _ r0 (by decide)
      have n2 := hrne _ _ _ r2 (by decide)
      have n1 := hrne _ _ _ r1 (by decide)
      have mkS : ∀ X, Kept r wr X → X.cell? ⟨g, 1, none⟩ = some v ∧ X.cell? ⟨w.heap.size, 1, none⟩ = some (.slice (some ⟨bb, o, none⟩) qs.length cb) ∧ X.cell? ⟨bb, o + k * 3, none⟩ = some x0 ∧ X.cell? ⟨bb, o + k * 3 + 1, none⟩ = some x1 ∧ X.cell? ⟨bb, o + k * 3 + 2, none⟩ = some x2 ∧ Kept r wr X := fun X h =>
        ⟨h.cell c21 n2, h.cell c01 n0, h.cell e0 (by show bb ≠ r; omega), h.cell e1 (by show bb ≠ r; omega), h.cell e2 (by show bb ≠ r; omega), h⟩
      have hltI : (k : Int) < (qs.length : Int) := by omega
      have hS0 := mkS wr.drew ((Kept.refl r wr).drew)
      go_wp2_with fail
      refine wp_region_L (S := fun X => X.cell? ⟨g, 1, none⟩ = some v ∧ X.cell? ⟨w.heap.size, 1, none⟩ = some (.slice (some ⟨bb, o, none⟩) qs.length cb) ∧ X.cell? ⟨bb, o + k * 3, none⟩ = some x0 ∧ X.cell? ⟨bb, o + k * 3 + 1, none⟩ = some x1 ∧ X.cell? ⟨bb, o + k * 3 + 2, none⟩ = some x2 ∧ Kept r wr X) (z := 11) (by kernel_rfl) hS0 (fun hHeld => ?_)
      refine todo [0, 1, 2, 3, 4, 5, 6] ?_
      iterate 7
       refine todoL (v := ?_) rfl (by kernel_rfl) (fun _ _ _ h => h) (by assumption) (Or.inl ⟨by rfl, ?_⟩) ?_
       rotate_left
       · intro w hSw; (try dsimp only at hSw); go_simp; (try with_reducible rfl)
       try simp only [Act.put, List.getElem_toArray, List.getElem_cons_succ, List.getElem_cons_zero, List.setIfInBounds_toArray, List.set_cons_zero, List.set_cons_succ]
      refine todone ?_
      refine wpAnyL_one (i := 7) (by kernel_rfl) rfl (fun K hK => ?sb7)
      go_simp
      refine (ofRR_any (hcall.later (show Below wr.heap.size wr wr.drew from (Below.refl _ _).drew)) (by omega)).mono ?_
      rintro e w5 ⟨rv, rfl, qv, hb5⟩
      have Q5 := Lib.hid qv
      obtain ⟨m5, f1, l1, j1, f2, l2, j2, rfl⟩ := qv.shape
      clear qv
      go_simp
      have hB5 : Below w.heap.size w w5 := (hb.drew).trans (hb5.mono hsz)
      have hk5 : Kept r wr w5 := ((Kept.refl r wr).drew).below hb5
      refine hK.out _ _ (fun _ => mkS _ hk5) (fun hHeld2 => ?mb7)
      clear hK K hHeld
      have hHeld := hHeld2 (by decide)
      clear hHeld2
      try simp only [Act.put, List.setIfInBounds_toArray, List.set_cons_zero, List.set_cons_succ]
      refine wpAnyL_one (i := 8) (by kernel_rfl) rfl (fun K hK => ?sb8)
      go_simp
      refine hK.out _ _ (fun _ => mkS _ (hk5.alloc _)) (fun hHeld2 => ?mb8)
      clear hK K hHeld
      have hHeld := hHeld2 (by decide)
      clear hHeld2
      try simp only [Act.put, List.setIfInBounds_toArray, List.set_cons_zero, List.set_cons_succ]
      refine wpAnyL_one (i := 9) (by kernel_rfl) rfl (fun K hK => ?sb9)
      have hb5w : Below wr.heap.size wr w5 := (Below.refl _ wr).drew.trans hb5
      have hown5 : OwnE w.heap.size 56 w5 v es := hown.later hb5w
      have hall5 : AllE (fun v x => ResR w.heap.size w5 v x (5 * n + 1)) es ((qs.take k).map Q3.rat) := hall.imp fun u x _ h => h.later hb5w
      have hsz5 := hB5.size
      refine step_append_ownT rfl _ _ 34 rfl w.heap.size 56 i0 _ 3 56 Tryz.underlying34 hi hz0 hz1 hz2 rfl (by decide) _ es.length (flat3 es) rfl (hown5.later ((Below.refl _ _).alloc (Nat.le_refl _) _)) ⟨w5.heap.size, 0, none⟩ 1 1 [.bool m5, .slice f1 l1 j1, .slice f2 l2 j2] rfl rfl (cell_three_new _ _ _ _ _) (by simp [Value.oneCell']) (by unfold maxLen; omega) (by omega) (by simp; omega) ?_
      intro v' w6 hown' hgrow _
      obtain ⟨av, cv, rfl⟩ := ownT_slice hown'
      have hk6 : Kept r wr w6 := (hk5.alloc _).grown hgrow hrv
      refine hK.out _ _ (fun _ => mkS _ hk6) (fun hHeld2 => ?mb9)
      clear hK K hHeld
      have hHeld := hHeld2 (by decide)
      clear hHeld2
      try simp only [Act.put, List.setIfInBounds_toArray, List.set_cons_zero, List.set_cons_succ]
      refine wpAnyL_take (i := 10) (v := ?va10) rfl (by kernel_rfl) (by kernel_rfl) (by kernel_rfl) (by kernel_rfl) (fun _ _ _ h => h) (Or.inl ⟨by rfl, ?ha10⟩) (by assumption) ?ra10
      case ha10 =>
        intro w hSw
        try dsimp only at hSw
        go_simp
        try with_reducible rfl
      try simp only [Act.put, List.setIfInBounds_toArray, List.set_cons_zero, List.set_cons_succ]
      have R26 := r2.kept hk6 n2
      have f21 := R26.free 1
      have d21 := R26.cell 1
      refine wpAnyL_one (i := 11) (by kernel_rfl) rfl (fun K hK => ?sb11)
      go_simp
      refine hK.out _ _ (fun h => absurd rfl h) (fun _ => ?mb11)
      clear hK K
      try simp only [Act.put, List.setIfInBounds_toArray, List.set_cons_zero, List.set_cons_succ]
      refine wpAnyL_done (by kernel_rfl) ?_ _
      go_wp2
      go_roundw
      case rel =>
        have hx5 : ResR w.heap.size w5 (E3.agg ⟨.bool m5, .slice f1 l1 j1, .slice f2 l2 j2⟩) q.rat (5 * n + 1) := Q5.out.mono (by show w.heap.size ≤ wr.heap.size; exact hsz)
        obtain ⟨hrow6, hb6⟩ := pushE (P := fun W v x => ResR w.heap.size W v x (5 * n + 1)) (e := ⟨.bool m5, .slice f1 l1 j1, .slice f2 l2 j2⟩) hB5 hsz5 hown5 hall5 hx5 (fun u y h => ResR.apart hown5 hgrow (by decide) h) hown' hgrow
        rw [hle] at hrow6
        have r06 := r0.kept hk6 n0
        have r16 := r1.kept hk6 n1
        have r36 : ResS w.heap.size w6 (.slice a3 s.length c3) s := ResS.apart hown5 hgrow (by decide) (r3.later hb5w)
        refine ⟨k + 1, _, by go_num, by omega, r06.far (by show w.heap.size ≠ g; omega) _, r16.far (by show w.heap.size + 1 ≠ g; omega) _, R26.set21 _, r36.far R26 (by decide) (kept1 _), ?_, hb6.setCell (by show w.heap.size ≤ g; omega) _⟩
        rw [take_mapQ hqk]
        exact hrow6.far R26 (by decide) (kept1 _) (fun u y h => h.far R26 (by decide) (kept1 _))
      case measure => simp [intOf]; omega
    · obtain rfl : k = qs.length := by omega
      have hltI : ¬ (qs.length : Int) < (qs.length : Int) := by omega
      rw [List.take_length] at hall
      obtain ⟨av, cv, rfl⟩ := ownT_slice hown
      have hel : es.length = qs.length := hle
      rw [hel] at r2 hown
      have c20 := r2.cell 0
      have d21 := r2.cell 1
      have f10 := r1.free 0
      have f11 := r1.free 1
      have g10 := r1.cell 0
      have g11 := r1.cell 1
      have R1s := r1.set2 (.slice a3 s.length c3) (.slice av qs.length cv)
      obtain ⟨z0, z1, _, _⟩ := R1s.two
      have HOWN := Lib.hid hown
      have HALL := Lib.hid hall
      have HR1 := Lib.hid r1
      clear hown hall hle R1s r1
      go_wp2
      refine bodyPost_ret (v := .agg #[.slice a3 s.length c3, .slice av qs.length cv]) (by simp [results, Tryz.results18, go_sem, z0, z1]) rfl ⟨_, _, _, _, rfl, ?_, ?_, below_set2 hb (by omega) _ _⟩
      · exact r3.far HR1.out (by decide) (kept2 _ _)
      · exact RowO.far ⟨es, HOWN.out, HALL.out⟩ HR1.out (by decide) (kept2 _ _) (fun u y h => h.far HR1.out (by decide) (kept2 _ _))
end
section
open Go.RowKit
set_option linter.unusedVariables false
set_option linter.unusedSimpArgs false
set_option maxRecDepth 100000 in
set_option maxHeartbeats 4000000 in
theorem backT_any {n : Nat} {w : World} {v : Value} {s : List Int} {qs : List Rat} {a b : Option Addr} {ca cb : Nat} (T : TensR w v s qs n a ca b cb) (hs : s.length ≤ 17592186044416) (hq : qs.length ≤ 1000000000) (hn : n ≤ 1000000000) :
    Calls Tryz.prog 43 #[v] w fun e w' => ∃ (a' b' : Option Addr) (ca' cb' : Nat), e = .returned (.agg #[.slice a' s.length ca', .slice b' qs.length cb']) ∧ ResS w.heap.size w' (.slice a' s.length ca') s ∧
      RowO w.heap.size 51 (fun W v x => ResQ w.heap.size W v x n) w' (.slice b' qs.length cb') (qs) ∧ Below w.heap.size w w' := by
  obtain ⟨i0, hi, hz0, hz1, hz2⟩ := info_parts infoQ
  have HT := Lib.hid T
  obtain rfl := T.is
  obtain ⟨W, hW⟩ : ∃ W, ((w.alloc (.cells #[.slice a s.length ca, .slice b qs.length cb] 36)).alloc (.cells #[.slice none 0 0, .slice none 0 0] 26)) = W := ⟨_, rfl⟩
  have R0 : Row W w.heap.size 36 #[.slice a s.length ca, .slice b qs.length cb] := by rw [← hW]; exact (Row.new _ _ _).alloc _
  have R1 : Row W (w.heap.size + 1) 26 #[.slice none 0 0, .slice none 0 0] := by rw [← hW]; have h := (Row.new (w.alloc (.cells #[.slice a s.length ca, .slice b qs.length cb] 36)) 26 #[.slice none 0 0, .slice none 0 0]); simp only [World.size_alloc] at h; exact h
  have hBW : Below w.heap.size w W := by rw [← hW]; exact ((Below.refl _ _).alloc (by simp) _).alloc (by simp) _
  have hsW : w.heap.size + 1 + 1 ≤ W.heap.size := by rw [← hW]; simp
  have AW := HT.out.sh.later hBW
  have nA := HT.out.nila
  have NA := Lib.hid nA
  obtain ⟨p0, p1, _, _⟩ := R0.two
  clear T nA
  go_enter Tryz.func43, Tryz.ntmps43
  go_wp2_with (at_builtin; refine step_copyT rfl _ 23 22 Tryz.underlying23 Tryz.underlying22 rfl rfl AW NA.out hs ?_; intro ro w3 R3 hb3; obtain ⟨a3, c3, rfl, R3', A3, n3⟩ := R3.slice)
  have hs3 := hb3.size
  have hB3 : Below w.heap.size w w3 := hBW.trans (hb3.mono (by omega))
  have hB4 : Below w.heap.size w (w3.alloc (.cells #[.slice a3 s.length c3, .slice none 0 0] 26)) := hB3.alloc (by omega) _
  have r0 := (R0.later hb3).alloc (.cells #[.slice a3 s.length c3, .slice none 0 0] 26)
  have r1 := (R1.later hb3).alloc (.cells #[.slice a3 s.length c3, .slice none 0 0] 26)
  have r2 := Row.new w3 26 #[.slice a3 s.length c3, .slice none 0 0]
  have r3 : ResS w.heap.size (w3.alloc (.cells #[.slice a3 s.length c3, .slice none 0 0] 26)) (.slice a3 s.length c3) s := (R3'.mono (by omega)).later ((Below.refl _ _).alloc (Nat.le_refl _) _)
  obtain ⟨g, hg⟩ : ∃ g, w3.heap.size = g := ⟨_, rfl⟩
  have hg2 : w.heap.size + 1 + 1 ≤ g := by omega
  rw [hg] at r2 ⊢
  generalize w3.alloc (.cells #[.slice a3 s.length c3, .slice none 0 0] 26) = W4 at *
  have H0 := Lib.hid r0
  have H1 := Lib.hid r1
  have H2 := Lib.hid r2
  have H3 := Lib.hid r3
  have HB4 := Lib.hid hB4
  clear r0 r1 r2 r3 hB4 hB3 hb3 hs3 R3 R3' A3 R0 R1 hBW AW p0 p1 hsW hg hW
  go_loopw [4] (fun i wr => ∃ (k : Nat) (v : Value), i = .int .i64 (k : Int) ∧ k ≤ qs.length ∧ Row wr w.heap.size 36 #[.slice a s.length ca, .slice b qs.length cb] ∧ Row wr (w.heap.size + 1) 26 #[.slice none 0 0, .slice none 0 0] ∧
    Row wr g 26 #[.slice a3 s.length c3, v] ∧ ResS w.heap.size wr (.slice a3 s.length c3) s ∧ RowO w.heap.size 51 (fun W v x => ResQ w.heap.size W v x n) wr v (qs.take k) ∧ Below w.heap.size w wr) (fun i _ => qs.length - (intOf i).toNat)
  case atStart => exact ⟨0, _, rfl, Nat.zero_le _, H0.out, H1.out, H2.out, H3.out, RowO.nil _ _ _ _, HB4.out⟩
  case round =>
    obtain ⟨k, v, rfl, hk, r0, r1, r2, r3, ⟨es, hown, hall⟩, hb⟩ := hrel
    have hsz := hb.size
    have c01 := r0.cell 1
    have c21 := r2.cell 1
    have hle : es.length = k := by rw [hall.1]; simp [hk]
    by_cases hlt : k < qs.length
    · obtain ⟨bb, o, x0, x1, x2, q, hbo, hqk, e0, e1, e2, hraw⟩ := (HT.out.el.later hb (fun v x _ k => k.later hb)).at hlt
      have hmem := List.mem_of_getElem? hqk
      have hb0 : bb < w.heap.size := HT.out.el.low (by intro h; rw [h] at hlt; simp at hlt) hbo
      subst hbo
      have hcall : ArgR wr (.agg #[x0, x1, x2]) q n := hraw
      obtain ⟨r, hrv, hrb, hrne⟩ := hown.hits hsz
      have n0 := hrne _ _ _ r0 (by decide)
      have n2 := hrne _ _ _ r2 (by decide)
      have n1 := hrne _ _ _ r1 (by decide)
      have mkS : ∀ X, Kept r wr X → X.cell? ⟨g, 1, none⟩ = some v ∧ X.cell? ⟨w.heap.size, 1, none⟩ = some (.slice (some ⟨bb, o, none⟩) qs.length cb) ∧ X.cell? ⟨bb, o + k * 3, none⟩ = some x0 ∧ X.cell? ⟨bb, o + k * 3 + 1, none⟩ = some x1 ∧ X.cell? ⟨bb, o + k * 3 + 2, none⟩ = some x2 ∧ Kept r wr X := fun X h =>
        ⟨h.cell c21 n2, h.cell c01 n0, h.cell e0 (by show bb ≠ r; omega), h.cell e1 (by show bb ≠ r; omega), h.cell e2 (by show bb ≠ r; omega), h⟩
      have hltI : (k : Int) < (qs.length : Int) := by omega
      have hS0 := mkS wr.drew ((Kept.refl r wr).drew)
      go_wp2_with fail
      refine wp_region_L (S := fun X => X.cell? ⟨g, 1, none⟩ = some v ∧ X.cell? ⟨w.heap.size, 1, none⟩ = some (.slice (some ⟨bb, o, none⟩) qs.length cb) ∧ X.cell? ⟨bb, o + k * 3, none⟩ = some x0 ∧ X.cell? ⟨bb, o + k * 3 + 1, none⟩ = some x1 ∧ X.cell? ⟨bb, o + k * 3 + 2, none⟩ = some x2 ∧ Kept r wr X) (z := 11) (by kernel_rfl) hS0 (fun hHeld => ?_)
      refine todo [0, 1, 2, 3, 4, 5, 6] ?_
      iterate 7
       refine todoL (v := ?_) rfl (by kernel_rfl) (fun _ _ _ h => h) (by assumption) (Or.inl ⟨by rfl, ?_⟩) ?_
       rotate_left
       · intro w hSw; (try dsimp only at hSw); go_simp; (try with_reducible rfl)
       try simp only [Act.put, List.getElem_toArray, List.getElem_cons_succ, List.getElem_cons_zero, List.setIfInBounds_toArray, List.set_cons_zero, List.set_cons_succ]
      refine todone ?_
      refine wpAnyL_one (i := 7) (by kernel_rfl) rfl (fun K hK => ?sb7)
      go_simp
      refine (backR_any (hcall.later (show Below wr.heap.size wr wr.drew from (Below.refl _ _).drew)) hn).mono ?_
      rintro e w5 ⟨rv, rfl, qv, hb5⟩
      have Q5 := Lib.hid qv
      obtain ⟨m5, f1, l1, j1, f2, l2, j2, rfl⟩ := qv.shape
      clear qv
      go_simp
      have hB5 : Below w.heap.size w w5 := (hb.drew).trans (hb5.mono hsz)
      have hk5 : Kept r wr w5 := ((Kept.refl r wr).drew).below hb5
      refine hK.out _ _ (fun _ => mkS _ hk5) (fun hHeld2 => ?mb7)
      clear hK K hHeld
      have hHeld := hHeld2 (by decide)
      clear hHeld2
      try simp only [Act.put, List.setIfInBounds_toArray, List.set_cons_zero, List.set_cons_succ]
      refine wpAnyL_one (i := 8) (by kernel_rfl) rfl (fun K hK => ?sb8)
      go_simp
      refine hK.out _ _ (fun _ => mkS _ (hk5.alloc _)) (fun hHeld2 => ?mb8)
      clear hK K hHeld
      have hHeld := hHeld2 (by decide)
      clear hHeld2
      try simp only [Act.put, List.setIfInBounds_toArray, List.set_cons_zero, List.set_cons_succ]
      refine wpAnyL_one (i := 9) (by kernel_rfl) rfl (fun K hK => ?sb9)
      have hb5w : Below wr.heap.size wr w5 := (Below.refl _ wr).drew.trans hb5
      have hown5 : OwnE w.heap.size 51 w5 v es := hown.later hb5w
      have hall5 : AllE (fun v x => ResQ w.heap.size w5 v x n) es (qs.take k) := hall.imp fun u x _ h => h.later hb5w
      have hsz5 := hB5.size
      refine step_append_ownT rfl _ _ 24 rfl w.heap.size 51 i0 _ 3 56 Tryz.underlying24 hi hz0 hz1 hz2 rfl (by decide) _ es.length (flat3 es) rfl (hown5.later ((Below.refl _ _).alloc (Nat.le_refl _) _)) ⟨w5.heap.size, 0, none⟩ 1 1 [.bool m5, .slice f1 l1 j1, .slice f2 l2 j2] rfl rfl (cell_three_new _ _ _ _ _) (by simp [Value.oneCell']) (by unfold maxLen; omega) (by omega) (by simp; omega) ?_
      intro v' w6 hown' hgrow _
      obtain ⟨av, cv, rfl⟩ := ownT_slice hown'
      have hk6 : Kept r wr w6 := (hk5.alloc _).grown hgrow hrv
      refine hK.out _ _ (fun _ => mkS _ hk6) (fun hHeld2 => ?mb9)
      clear hK K hHeld
      have hHeld := hHeld2 (by decide)
      clear hHeld2
      try simp only [Act.put, List.setIfInBounds_toArray, List.set_cons_zero, List.set_cons_succ]
      refine wpAnyL_take (i := 10) (v := ?va10) rfl (by kernel_rfl) (by kernel_rfl) (by kernel_rfl) (by kernel_rfl) (fun _ _ _ h => h) (Or.inl ⟨by rfl, ?ha10⟩) (by assumption) ?ra10
      case ha10 =>
        intro w hSw
        try dsimp only at hSw
        go_simp
        try with_reducible rfl
      try simp only [Act.put, List.setIfInBounds_toArray, List.set_cons_zero, List.set_cons_succ]
      have R26 := r2.kept hk6 n2
      have f21 := R26.free 1
      have d21 := R26.cell 1
      refine wpAnyL_one (i := 11) (by kernel_rfl) rfl (fun K hK => ?sb11)
      go_simp
      refine hK.out _ _ (fun h => absurd rfl h) (fun _ => ?mb11)
      clear hK K
      try simp only [Act.put, List.setIfInBounds_toArray, List.set_cons_zero, List.set_cons_succ]
      refine wpAnyL_done (by kernel_rfl) ?_ _
      go_wp2
      go_roundw
      case rel =>
        have hx5 : ResQ w.heap.size w5 (E3.agg ⟨.bool m5, .slice f1 l1 j1, .slice f2 l2 j2⟩) q n := Q5.out.mono (by show w.heap.size ≤ wr.heap.size; exact hsz)
        obtain ⟨hrow6, hb6⟩ := pushE (P := fun W v x => ResQ w.heap.size W v x n) (e := ⟨.bool m5, .slice f1 l1 j1, .slice f2 l2 j2⟩) hB5 hsz5 hown5 hall5 hx5 (fun u y h => ResQ.apart hown5 hgrow (by decide) h) hown' hgrow
        rw [hle] at hrow6
        have r06 := r0.kept hk6 n0
        have r16 := r1.kept hk6 n1
        have r36 : ResS w.heap.size w6 (.slice a3 s.length c3) s := ResS.apart hown5 hgrow (by decide) (r3.later hb5w)
        refine ⟨k + 1, _, by go_num, by omega, r06.far (by show w.heap.size ≠ g; omega) _, r16.far (by show w.heap.size + 1 ≠ g; omega) _, R26.set21 _, r36.far R26 (by decide) (kept1 _), ?_, hb6.setCell (by show w.heap.size ≤ g; omega) _⟩
        rw [take_nextL hqk]
        exact hrow6.far R26 (by decide) (kept1 _) (fun u y h => h.far R26 (by decide) (kept1 _))
      case measure => simp [intOf]; omega
    · obtain rfl : k = qs.length := by omega
      have hltI : ¬ (qs.length : Int) < (qs.length : Int) := by omega
      rw [List.take_length] at hall
      obtain ⟨av, cv, rfl⟩ := ownT_slice hown
      have hel : es.length = qs.length := hle
      rw [hel] at r2 hown
      have c20 := r2.cell 0
      have d21 := r2.cell 1
      have f10 := r1.free 0
      have f11 := r1.free 1
      have g10 := r1.cell 0
      have g11 := r1.cell 1
      have R1s := r1.set2 (.slice a3 s.length c3) (.slice av qs.length cv)
      obtain ⟨z0, z1, _, _⟩ := R1s.two
      have HOWN := Lib.hid hown
      have HALL := Lib.hid hall
      have HR1 := Lib.hid r1
      clear hown hall hle R1s r1
      go_wp2
      refine bodyPost_ret (v := .agg #[.slice a3 s.length c3, .slice av qs.length cv]) (by simp [results, Tryz.results43, go_sem, z0, z1]) rfl ⟨_, _, _, _, rfl, ?_, ?_, below_set2 hb (by omega) _ _⟩
      · exact r3.far HR1.out (by decide) (kept2 _ _)
      · exact RowO.far ⟨es, HOWN.out, HALL.out⟩ HR1.out (by decide) (kept2 _ _) (fun u y h => h.far HR1.out (by decide) (kept2 _ _))
end
section
open Go.RowKit
set_option linter.unusedVariables false
set_option linter.unusedSimpArgs false
set_option maxRecDepth 100000 in
set_option maxHeartbeats 2000000 in
theorem sameSh_any {u v : Value} {xs ys : List Int} {a b : Option Addr} {ca cb : Nat} {w : World} (A : ArgS w u xs a ca) (B : ArgS w v ys b cb) (hx : xs.length ≤ 140737488355328) :
    Calls Tryz.prog 51 #[u, v] w fun e w' => e = .returned (.bool (decide (xs = ys))) ∧ Below w.heap.size w w' := by
  have HA := Lib.hid A
  have HB := Lib.hid B
  obtain rfl := A.is
  obtain rfl := B.is
  obtain ⟨L, hL⟩ : ∃ L, xs.length = L := ⟨_, rfl⟩
  obtain ⟨M, hM⟩ : ∃ M, ys.length = M := ⟨_, rfl⟩
  obtain ⟨d, hd⟩ : ∃ d, decide (xs = ys) = d := ⟨_, rfl⟩
  have HL := Lib.hid hL
  have HM := Lib.hid hM
  have HD := Lib.hid hd
  rw [hL] at hx
  rw [hL, hM, hd]
  clear A B hL hM hd
  by_cases hlm : L = M
  · subst hlm
    have hne : ((L : Int) != (L : Int)) = false := by simp
    go_enter Tryz.func51, Tryz.ntmps51
    go_wp2
    go_loopw [5] (fun i wr => ∃ k : Nat, i = .int .i64 (k : Int) ∧ k ≤ L ∧ xs.take k = ys.take k ∧ Below w.heap.size w wr) (fun i _ => L - (intOf i).toNat)
    case atStart => exact ⟨0, rfl, Nat.zero_le _, rfl, Below.refl _ _⟩
    case round =>
      obtain ⟨k, rfl, hkL, hp, hb⟩ := hrel
      have HP := Lib.hid hp
      clear hp
      by_cases hlt : k < L
      · obtain ⟨b1, o1, rfl, hc1⟩ := (HA.out.later hb).at (i := k) (by rw [HL.out]; exact hlt)
        obtain ⟨b2, o2, rfl, hc2⟩ := (HB.out.later hb).at (i := k) (by rw [HM.out]; exact hlt)
        have e1 := take_next (xs := xs) (k := k) (by rw [HL.out]; exact hlt)
        have e2 := take_next (xs := ys) (k := k) (by rw [HM.out]; exact hlt)
        obtain ⟨x, hx⟩ : ∃ x, xs.getD k 0 = x := ⟨_, rfl⟩
        obtain ⟨y, hy⟩ : ∃ y, ys.getD k 0 = y := ⟨_, rfl⟩
        rw [hx] at hc1 e1
        rw [hy] at hc2 e2
        have E1 := Lib.hid e1
        have E2 := Lib.hid e2
        have HX := Lib.hid hx
        have HY := Lib.hid hy
        have hin : 0 ≤ (k : Int) ∧ (k : Int) < (L : Int) := by omega
        have hltI : (k : Int) < (L : Int) := by omega
        clear hx hy e1 e2
        by_cases hxy : x = y
        · subst hxy
          have hn : (x != x) = false := by simp
          go_wp2
          go_quiet (fail)
          go_wp2
          go_roundw
          case rel => exact ⟨k + 1, by go_num, by omega, by rw [E1.out, E2.out, HP.out], hb.trans (belowS_drew _ _ _)⟩
          case measure => simp [intOf]; omega
        · obtain rfl : d = false := by
            rw [← HD.out, decide_eq_false_iff_not]
            intro h
            apply hxy
            rw [← HX.out, ← HY.out, h]
          have hn : (x != y) = true := by simpa using hxy
          go_wp2
          go_quiet (fail)
          go_wp2
          go_ret
          exact ⟨rfl, hb.trans (belowS_drew _ _ _)⟩
      · obtain rfl : k = L := by omega
        obtain rfl : d = true := by
          rw [← HD.out, decide_eq_true_iff]
          have := HP.out
          rwa [take_all HL.out, take_all HM.out] at this
        have hltI : ¬ (k : Int) < (k : Int) := by omega
        go_wp2
        go_ret
        exact ⟨rfl, hb⟩
  · obtain rfl : d = false := by
      rw [← HD.out, decide_eq_false_iff_not]
      intro h
      apply hlm
      rw [← HL.out, ← HM.out, h]
    have hne : ((L : Int) != (M : Int)) = true := by simp; omega
    go_enter Tryz.func51, Tryz.ntmps51
    go_wp2
    go_ret
    exact ⟨rfl, Below.refl _ _⟩
/-- is an element valid? -/
def okQ (q : Q3) : Bool := validB q.neg q.num q.den q.rat
/-- why a tensor is not valid: 0, or an error -/
def mayT (s : List Int) (qs : List Q3) : Int := if mayC s ≠ 0 then mayC s else if (qs.length : Int) ≠ countS s then 13 else if qs.all okQ = true then 0 else 6
theorem mayT_shape {s : List Int} {qs : List Q3} (h : mayC s ≠ 0) : mayT s qs = mayC s := by unfold mayT; rw [if_pos h]
theorem mayT_len {s : List Int} {qs : List Q3} (h : mayC s = 0) (h2 : (qs.length : Int) ≠ countS s) : mayT s qs = 13 := by unfold mayT; rw [if_neg (by rw [h]; simp), if_pos h2]
theorem mayT_bad {s : List Int} {qs : List Q3} (h : mayC s = 0) (h2 : (qs.length : Int) = countS s) {q : Q3} (hq : q ∈ qs) (h3 : okQ q = false) : mayT s qs = 6 := by
  unfold mayT
  rw [if_neg (by rw [h]; simp), if_neg (by rw [h2]; simp), if_neg]
  intro e
  rw [List.all_eq_true] at e
  rw [e q hq] at h3
  cases h3
theorem mayT_ok {s : List Int} {qs : List Q3} (h : mayC s = 0) (h2 : (qs.length : Int) = countS s) (h3 : ∀ q ∈ qs, okQ q = true) : mayT s qs = 0 := by
  unfold mayT
  rw [if_neg (by rw [h]; simp), if_neg (by rw [h2]; simp), if_pos (List.all_eq_true.2 h3)]
set_option maxRecDepth 100000 in
set_option maxHeartbeats 4000000 in
theorem mayT_any {w : World} {v : Value} {s : List Int} {qs : List Q3} {a b : Option Addr} {ca cb : Nat} (T : TensQ w v s qs a ca b cb) (hq : qs.length ≤ 1000000000)
    (hl : ∀ q ∈ qs, q.num.length ≤ 134217728 ∧ q.den.length ≤ 134217728) :
    Calls Tryz.prog 27 #[v] w fun e w' => e = .returned (.int .i64 (mayT s qs)) ∧ Below w.heap.size w w' := by
  have HT := Lib.hid T
  obtain rfl := T.is
  obtain ⟨W, hW⟩ : ∃ W, (w.alloc (.cells #[.slice a s.length ca, .slice b qs.length cb] 26)) = W := ⟨_, rfl⟩
  have R0 : Row W w.heap.size 26 #[.slice a s.length ca, .slice b qs.length cb] := by rw [← hW]; exact Row.new _ _ _
  have hBW : Below w.heap.size w W := by rw [← hW]; exact (Below.refl _ _).alloc (by simp) _
  obtain ⟨c, hc⟩ : ∃ c, mayT s qs = c := ⟨_, rfl⟩
  have HC := Lib.hid hc
  obtain ⟨m, hm⟩ : ∃ m, mayC s = m := ⟨_, rfl⟩
  have HM := Lib.hid hm
  obtain ⟨t, ht⟩ : ∃ t, countS s = t := ⟨_, rfl⟩
  have HTT := Lib.hid ht
  have q1 := mayR6_any (HT.out.sh.later hBW)
  have q2 := fun X (hX : Below W.heap.size W X) => countR6_any ((HT.out.sh.later hBW).later hX)
  rw [hm] at q1
  rw [ht] at q2
  rw [hc]
  obtain ⟨p0, p1, _, _⟩ := R0.two
  clear T hc hm ht
  have mkS : ∀ X, Below W.heap.size W X → X.cell? ⟨w.heap.size, 0, none⟩ = some (.slice a s.length ca) ∧ X.cell? ⟨w.heap.size, 1, none⟩ = some (.slice b qs.length cb) ∧ Below W.heap.size W X := fun X h => ⟨(R0.later h).cell 0, (R0.later h).cell 1, h⟩
  by_cases h0 : m = 0
  · subst h0
    by_cases hlen : (qs.length : Int) = t
    · have hne : ((qs.length : Int) != t) = false := by simpa using hlen
      have HLN := Lib.hid hlen
      clear hlen
      go_enter Tryz.func27, Tryz.ntmps27
      go_wp2_with (go_at_call 62; refine q1.mono ?_; rintro e w1 ⟨rfl, rfl⟩)
      go_region_held3 (fun X => X.cell? ⟨w.heap.size, 0, none⟩ = some (.slice a s.length ca) ∧ X.cell? ⟨w.heap.size, 1, none⟩ = some (.slice b qs.length cb) ∧ Below W.heap.size W X)
        (((refine mkS _ ?_; (repeat' (first | exact Below.refl _ _ | refine Below.drew ?_)))))
        ((go_at_call 63; (with_reducible refine (q2 _ (show Below W.heap.size W _ by (repeat' (first | exact Below.refl _ _ | refine Below.drew ?_)))).mono ?_); rintro e w' ⟨rfl, rfl⟩))
      clear hne q1 hW
      go_wp2
      go_loopw [4] (fun i wr => ∃ k : Nat, i = .int .i64 (k : Int) ∧ k ≤ qs.length ∧ (∀ q ∈ qs.take k, okQ q = true) ∧ Below W.heap.size W wr) (fun i _ => qs.length - (intOf i).toNat)
      case atStart => exact ⟨0, rfl, Nat.zero_le _, fun q h => by simp at h, by first | exact Below.refl _ _ | exact (Below.refl _ _).drew⟩
      case round =>
        obtain ⟨k, rfl, hk, hall, hb⟩ := hrel
        have r0 := R0.later hb
        obtain ⟨c00, c01, _, _⟩ := r0.two
        have HALL := Lib.hid hall
        clear hall
        by_cases hlt : k < qs.length
        · have hbw := hBW.trans (hb.mono hBW.size)
          obtain ⟨bb, o, x0, x1, x2, q, hbo, hqk, e0, e1, e2, hraw⟩ := (HT.out.el.later hbw (fun v x _ k => k.later hbw)).at hlt
          have hmem := List.mem_of_getElem? hqk
          subst hbo
          obtain ⟨u1, u2, k1, k2, hx, A1, B1, _, _⟩ := hraw
          simp only [Value.agg.injEq, Array.mk.injEq, List.cons.injEq, and_true] at hx
          obtain ⟨rfl, rfl, rfl⟩ := hx
          have hcall := mayR_any (m1 := q.neg) A1 B1 (hl q hmem).1 (hl q hmem).2 (Nat.le_refl _)
          have hltI : (k : Int) < (qs.length : Int) := by omega
          have HQK := Lib.hid hqk
          clear hqk
          have hokd : okQ q = validB q.neg q.num q.den (ratOf q.neg (val q.num) (val q.den)) := rfl
          by_cases hok : okQ q = true
          · rw [← hokd, if_pos hok] at hcall
            have HOK := Lib.hid hok
            clear hok hokd
            go_wp2_with (go_at_call 64; refine hcall.mono ?_; rintro e w2 ⟨rfl, hb2⟩)
            go_roundw
            case rel =>
              refine ⟨k + 1, by go_num, by omega, fun y hy => ?_, hb.trans (hb2.mono hb.size)⟩
              rw [take_nextL HQK.out] at hy
              rcases List.mem_append.1 hy with h | h
              · exact HALL.out y h
              · rw [List.mem_singleton.1 h]; exact HOK.out
            case measure => simp [intOf]; omega
          · have hok2 : okQ q = false := by simpa using hok
            rw [← hokd, if_neg hok] at hcall
            have hcc := mayT_bad HM.out (by rw [HTT.out]; exact HLN.out) hmem hok2
            obtain rfl : c = 6 := by rw [← HC.out]; exact hcc
            clear hok hok2 hokd hcc
            go_wp2_with (go_at_call 64; refine hcall.mono ?_; rintro e w2 ⟨rfl, hb2⟩)
            go_ret
            exact ⟨rfl, hBW.trans ((hb.trans (hb2.mono hb.size)).mono hBW.size)⟩
        · obtain rfl : k = qs.length := by omega
          have hltI : ¬ (qs.length : Int) < (qs.length : Int) := by omega
          have hcc := mayT_ok HM.out (by rw [HTT.out]; exact HLN.out) (by have h := HALL.out; rwa [List.take_length] at h)
          obtain rfl : c = 0 := by rw [← HC.out]; exact hcc
          clear hcc
          go_wp2
          go_ret
          exact ⟨rfl, hBW.trans (hb.mono hBW.size)⟩
    · have hne : ((qs.length : Int) != t) = true := by simpa using hlen
      have hcc := mayT_len HM.out (by rw [HTT.out]; exact hlen)
      obtain rfl : c = 13 := by rw [← HC.out]; exact hcc
      clear hlen hcc
      go_enter Tryz.func27, Tryz.ntmps27
      go_wp2_with (go_at_call 62; refine q1.mono ?_; rintro e w1 ⟨rfl, rfl⟩)
      go_region_held3 (fun X => X.cell? ⟨w.heap.size, 0, none⟩ = some (.slice a s.length ca) ∧ X.cell? ⟨w.heap.size, 1, none⟩ = some (.slice b qs.length cb) ∧ Below W.heap.size W X)
        (((refine mkS _ ?_; (repeat' (first | exact Below.refl _ _ | refine Below.drew ?_)))))
        ((go_at_call 63; (with_reducible refine (q2 _ (show Below W.heap.size W _ by (repeat' (first | exact Below.refl _ _ | refine Below.drew ?_)))).mono ?_); rintro e w' ⟨rfl, rfl⟩))
      go_wp2
      go_ret
      exact ⟨rfl, by first | exact hBW | exact hBW.drew⟩
  · have hcc := mayT_shape (s := s) (qs := qs) (by rw [HM.out]; exact h0)
    obtain rfl : c = m := by rw [← HC.out, hcc]; exact HM.out
    have hne : (c != 0) = true := by simpa using h0
    clear hcc q2
    go_enter Tryz.func27, Tryz.ntmps27
    go_wp2_with (go_at_call 62; refine q1.mono ?_; rintro e w1 ⟨rfl, rfl⟩)
    go_ret
    exact ⟨rfl, hBW⟩
end
section
open Go.RowKit
set_option linter.unusedVariables false
set_option linter.unusedSimpArgs false
set_option maxRecDepth 100000
/-- the parts of the reference's rational number -/
def RefQ (w : World) (X : Rat) (n : Nat) (zs ys : List Int) (f g : Option Addr) (j k : Nat) : Prop :=
  ArgD w (.slice f zs.length j) zs f j ∧ ArgD w (.slice g ys.length k) ys g k ∧ valD zs = (X.num.natAbs : Int) ∧ valD ys = (X.den : Int) ∧ zs.length ≤ n ∧ ys.length ≤ n
theorem RefQ.of {w : World} {v : Value} {X : Rat} {n : Nat} {m : Bool} (h : ArgR w v X n) (hm : decide (X.num < 0) = m) : ∃ (zs ys : List Int) (f g : Option Addr) (j k : Nat), v = .agg #[.bool m, .slice f zs.length j, .slice g ys.length k] ∧ RefQ w X n zs ys f g j k := by
  subst hm
  obtain ⟨zs, ys, ad, bd, ca, cb, rfl, h⟩ := h
  exact ⟨zs, ys, ad, bd, ca, cb, rfl, h⟩
theorem RefQ.later {w w' : World} {X : Rat} {n : Nat} {zs ys : List Int} {f g : Option Addr} {j k : Nat} (h : RefQ w X n zs ys f g j k) (hb : Below w.heap.size w w') : RefQ w' X n zs ys f g j k :=
  ⟨h.1.later hb, h.2.1.later hb, h.2.2⟩
theorem RefQ.only {w w' : World} {X : Rat} {n : Nat} {zs ys : List Int} {f g : Option Addr} {j k : Nat} (h : RefQ w X n zs ys f g j k) {b : Nat} {t : TypeId} {p : Bool} {ad bd : Option Addr} {l cap m cbp : Nat} (R : Row w b t #[.bool p, .slice ad l cap, .slice bd m cbp]) (o : Only b w w') : RefQ w' X n zs ys f g j k :=
  ⟨h.1.far R (noInts3 _ _ _ _ _ _ _) o.block, h.2.1.far R (noInts3 _ _ _ _ _ _ _) o.block, h.2.2⟩
end
section
open Go.RowKit
set_option linter.unusedVariables false
set_option linter.unusedSimpArgs false
/-- two tensors' dimensions are the same, and each two elements meet B -/
noncomputable def allBC {α β : Type} (B : α → β → Bool) (s1 s2 : List Int) (L1 : List α) (L2 : List β) : Bool := @decide (s1 = s2 ∧ L1.length = L2.length ∧ ∀ (i : Nat) (x : α) (y : β), L1[i]? = some x → L2[i]? = some y → B x y = true) (Classical.propDecidable _)
theorem allBC_yes {α β : Type} {B : α → β → Bool} {s1 s2 : List Int} {L1 : List α} {L2 : List β} (h1 : s1 = s2) (h2 : L1.length = L2.length) (h3 : ∀ (i : Nat) (x : α) (y : β), L1[i]? = some x → L2[i]? = some y → B x y = true) : allBC B s1 s2 L1 L2 = true := by
  unfold allBC
  simp only [decide_eq_true_eq]
  exact ⟨h1, h2, h3⟩
theorem allBC_no {α β : Type} {B : α → β → Bool} {s1 s2 : List Int} {L1 : List α} {L2 : List β} (h : ¬ (s1 = s2 ∧ L1.length = L2.length ∧ ∀ (i : Nat) (x : α) (y : β), L1[i]? = some x → L2[i]? = some y → B x y = true)) : allBC B s1 s2 L1 L2 = false := by
  unfold allBC
  simp only [decide_eq_false_iff_not]
  exact h
theorem isRaw_any {n : Nat} {w : World} {u v : Value} {X : Rat} {q : Q3} (hu : ArgR w u X n) (hv : RawQ w v q) (hn : n ≤ 1000000000) (hx : q.num.length ≤ 134217728) (hd : q.den.length ≤ 134217728) :
    Calls Tryz.prog 107 #[u, v] w fun e w' => e = .returned (.bool (validB q.neg q.num q.den X)) ∧ Below w.heap.size w w' := by
  obtain ⟨ad, bd, ca, cb, rfl, A, B, _⟩ := hv
  exact isR_dec hu A B hn hx hd
set_option maxRecDepth 100000 in
set_option maxHeartbeats 8000000 in
theorem isT_any {n : Nat} {w : World} {u v : Value} {s1 s2 : List Int} {L1 : List Rat} {L2 : List Q3} {a1 b1 a2 b2 : Option Addr} {ca1 cb1 ca2 cb2 : Nat} (T1 : TensR w u s1 L1 n a1 ca1 b1 cb1) (T2 : TensQ w v s2 L2 a2 ca2 b2 cb2) (hs : s1.length ≤ 140737488355328) (hq1 : L1.length ≤ 1000000000) (hq2 : L2.length ≤ 1000000000) (hn : n ≤ 1000000000) (hl : ∀ q ∈ L2, q.num.length ≤ 134217728 ∧ q.den.length ≤ 134217728) :
    Calls Tryz.prog 89 #[u, v] w fun e w' => e = .returned (.bool (allBC (fun (x : Rat) (q : Q3) => validB q.neg q.num q.den x) s1 s2 L1 L2)) ∧ Below w.heap.size w w' := by
  have HT1 := Lib.hid T1
  have HT2 := Lib.hid T2
  obtain rfl := T1.is
  obtain rfl := T2.is
  obtain ⟨W, hW⟩ : ∃ W, ((w.alloc (.cells #[.slice a1 s1.length ca1, .slice b1 L1.length cb1] 36)).alloc (.cells #[.slice a2 s2.length ca2, .slice b2 L2.length cb2] 26)) = W := ⟨_, rfl⟩
  have R0 : Row W w.heap.size 36 #[.slice a1 s1.length ca1, .slice b1 L1.length cb1] := by rw [← hW]; exact (Row.new _ _ _).alloc _
  have R1 : Row W (w.heap.size + 1) 26 #[.slice a2 s2.length ca2, .slice b2 L2.length cb2] := by rw [← hW]; have h := (Row.new (w.alloc (.cells #[.slice a1 s1.length ca1, .slice b1 L1.length cb1] 36)) 26 #[.slice a2 s2.length ca2, .slice b2 L2.length cb2]); simp only [World.size_alloc] at h; exact h
  have hBW : Below w.heap.size w W := by rw [← hW]; exact ((Below.refl _ _).alloc (by simp) _).alloc (by simp) _
  obtain ⟨c, hc⟩ : ∃ c, allBC (fun (x : Rat) (q : Q3) => validB q.neg q.num q.den x) s1 s2 L1 L2 = c := ⟨_, rfl⟩
  have HC := Lib.hid hc
  rw [hc]
  have q1 := sameSh_any (HT1.out.sh.later hBW) (HT2.out.sh.later hBW) hs
  obtain ⟨p0, p1, _, _⟩ := R0.two
  obtain ⟨o0, o1, _, _⟩ := R1.two
  clear T1 T2 hc
  by_cases hsh : s1 = s2
  · rw [decide_eq_true hsh] at q1
    have HSH := Lib.hid hsh
    clear hsh
    by_cases hlen : L1.length = L2.length
    · have hne : ((L1.length : Int) != (L2.length : Int)) = false := by simp; omega
      have HLN := Lib.hid hlen
      clear hlen
      go_enter Tryz.func89, Tryz.ntmps89
      go_wp2_with (go_at_call 51; refine q1.mono ?_; rintro e w1 ⟨rfl, hb1⟩; have R0' := R0.later hb1; have R1' := R1.later hb1; obtain ⟨c00, c01, _, _⟩ := R0'.two; obtain ⟨c10, c11, _, _⟩ := R1'.two)
      have hBW1 : Below w.heap.size w w1 := hBW.trans (hb1.mono hBW.size)
      clear hne q1 hW c00 c01 c10 c11
      go_loopw [5] (fun i wr => ∃ k : Nat, i = .int .i64 (k : Int) ∧ k ≤ L1.length ∧ (∀ i x y, i < k → L1[i]? = some x → L2[i]? = some y → validB y.neg y.num y.den x = true) ∧ Below w1.heap.size w1 wr) (fun i _ => L1.length - (intOf i).toNat)
      case atStart => exact ⟨0, rfl, Nat.zero_le _, fun i x y h => by omega, Below.refl _ _⟩
      case round =>
        obtain ⟨k, rfl, hk, hall, hb⟩ := hrel
        have r0 := R0'.later hb
        have r1 := R1'.later hb
        obtain ⟨c00, c01, _, _⟩ := r0.two
        obtain ⟨c10, c11, _, _⟩ := r1.two
        have HALL := Lib.hid hall
        clear hall
        by_cases hlt : k < L1.length
        · have hlt2 : k < L2.length := by have := HLN.out; omega
          have hbw := hBW1.trans (hb.mono hBW1.size)
          obtain ⟨bb, o, x0, x1, x2, q, hbo, hqk, e0, e1, e2, hraw⟩ := (HT1.out.el.later hbw (fun v x _ k => k.later hbw)).at hlt
          obtain ⟨bd, od, y0, y1, y2, t, hbd, htk, d0, d1, d2, hrat⟩ := (HT2.out.el.later hbw (fun v x _ k => k.later hbw)).at hlt2
          have hm1 := List.mem_of_getElem? hqk
          have hm2 := List.mem_of_getElem? htk
          subst hbo
          subst hbd
          have hcall := fun X (hX : Below wr.heap.size wr X) => isRaw_any (ArgR.later hraw hX) (hrat.later hX) hn (hl t hm2).1 (hl t hm2).2
          have hltI : (k : Int) < (L1.length : Int) := by omega
          have hltI2 : (k : Int) < (L2.length : Int) := by omega
          have HQK := Lib.hid hqk
          have HTK := Lib.hid htk
          have mkS : ∀ X, Below wr.heap.size wr X → X.cell? ⟨w.heap.size, 1, none⟩ = some (.slice (some ⟨bb, o, none⟩) L1.length cb1) ∧ X.cell? ⟨w.heap.size + 1, 1, none⟩ = some (.slice (some ⟨bd, od, none⟩) L2.length cb2) ∧ X.cell? ⟨bb, o + k * 3, none⟩ = some x0 ∧ X.cell? ⟨bb, o + k * 3 + 1, none⟩ = some x1 ∧ X.cell? ⟨bb, o + k * 3 + 2, none⟩ = some x2 ∧
            X.cell? ⟨bd, od + k * 3, none⟩ = some y0 ∧ X.cell? ⟨bd, od + k * 3 + 1, none⟩ = some y1 ∧ X.cell? ⟨bd, od + k * 3 + 2, none⟩ = some y2 ∧ Below wr.heap.size wr X := fun X h =>
            ⟨(r0.later h).cell 1, (r1.later h).cell 1, (h.cell (World.block_lt_of_cell? wr _ e0)).trans e0, (h.cell (World.block_lt_of_cell? wr _ e1)).trans e1, (h.cell (World.block_lt_of_cell? wr _ e2)).trans e2, (h.cell (World.block_lt_of_cell? wr _ d0)).trans d0, (h.cell (World.block_lt_of_cell? wr _ d1)).trans d1, (h.cell (World.block_lt_of_cell? wr _ d2)).trans d2, h⟩
          clear hqk htk hraw hrat
          obtain ⟨bo, hbo⟩ : ∃ bo, validB t.neg t.num t.den q = bo := ⟨_, rfl⟩
          rw [hbo] at hcall
          have HBO := Lib.hid hbo
          clear hbo
          cases bo with
          | true =>
            go_wp2_with fail
            go_region_held3 (fun X => X.cell? ⟨w.heap.size, 1, none⟩ = some (.slice (some ⟨bb, o, none⟩) L1.length cb1) ∧ X.cell? ⟨w.heap.size + 1, 1, none⟩ = some (.slice (some ⟨bd, od, none⟩) L2.length cb2) ∧ X.cell? ⟨bb, o + k * 3, none⟩ = some x0 ∧ X.cell? ⟨bb, o + k * 3 + 1, none⟩ = some x1 ∧ X.cell? ⟨bb, o + k * 3 + 2, none⟩ = some x2 ∧
                X.cell? ⟨bd, od + k * 3, none⟩ = some y0 ∧ X.cell? ⟨bd, od + k * 3 + 1, none⟩ = some y1 ∧ X.cell? ⟨bd, od + k * 3 + 2, none⟩ = some y2 ∧ Below wr.heap.size wr X)
              (((refine mkS _ ?_; (repeat' (first | exact Below.refl _ _ | refine Below.drew ?_ | assumption)))))
              ((go_at_call 107; (with_reducible refine (hcall _ (show Below wr.heap.size wr _ by (repeat' (first | exact Below.refl _ _ | refine Below.drew ?_)))).mono ?_); rintro e w2 ⟨rfl, hb2⟩; have hb2 : Below wr.heap.size wr w2 := ((Below.refl _ _).drew).trans hb2))
            go_wp2
            go_roundw
            case rel =>
              refine ⟨k + 1, by go_num, by omega, fun i x y hi h1 h2 => ?_, hb.trans (hb2.mono hb.size)⟩
              by_cases hik : i = k
              · subst hik
                rw [HQK.out] at h1
                rw [HTK.out] at h2
                cases h1
                cases h2
                exact HBO.out
              · exact HALL.out i x y (by omega) h1 h2
            case measure => simp [intOf]; omega
          | false =>
            obtain rfl : c = false := by rw [← HC.out]; exact allBC_no fun ⟨_, _, h⟩ => by have := h k q t HQK.out HTK.out; rw [show validB t.neg t.num t.den q = false from HBO.out] at this; cases this
            go_wp2_with fail
            go_region_held3 (fun X => X.cell? ⟨w.heap.size, 1, none⟩ = some (.slice (some ⟨bb, o, none⟩) L1.length cb1) ∧ X.cell? ⟨w.heap.size + 1, 1, none⟩ = some (.slice (some ⟨bd, od, none⟩) L2.length cb2) ∧ X.cell? ⟨bb, o + k * 3, none⟩ = some x0 ∧ X.cell? ⟨bb, o + k * 3 + 1, none⟩ = some x1 ∧ X.cell? ⟨bb, o + k * 3 + 2, none⟩ = some x2 ∧
                X.cell? ⟨bd, od + k * 3, none⟩ = some y0 ∧ X.cell? ⟨bd, od + k * 3 + 1, none⟩ = some y1 ∧ X.cell? ⟨bd, od + k * 3 + 2, none⟩ = some y2 ∧ Below wr.heap.size wr X)
              (((refine mkS _ ?_; (repeat' (first | exact Below.refl _ _ | refine Below.drew ?_ | assumption)))))
              ((go_at_call 107; (with_reducible refine (hcall _ (show Below wr.heap.size wr _ by (repeat' (first | exact Below.refl _ _ | refine Below.drew ?_)))).mono ?_); rintro e w2 ⟨rfl, hb2⟩; have hb2 : Below wr.heap.size wr w2 := ((Below.refl _ _).drew).trans hb2))
            go_wp2
            go_ret
            exact ⟨rfl, hBW1.trans ((hb.trans (hb2.mono hb.size)).mono hBW1.size)⟩
        · obtain rfl : k = L1.length := by omega
          have hltI : ¬ (L1.length : Int) < (L1.length : Int) := by omega
          obtain rfl : c = true := by rw [← HC.out]; exact allBC_yes HSH.out HLN.out fun i x y h1 h2 => HALL.out i x y (by
            rcases Nat.lt_or_ge i L1.length with g | g
            · exact g
            · rw [List.getElem?_eq_none g] at h1; cases h1) h1 h2
          go_wp2
          go_ret
          exact ⟨rfl, hBW1.trans (hb.mono hBW1.size)⟩
    · have hne : ((L1.length : Int) != (L2.length : Int)) = true := by simp; omega
      obtain rfl : c = false := by rw [← HC.out]; exact allBC_no fun h => hlen h.2.1
      clear hlen
      go_enter Tryz.func89, Tryz.ntmps89
      go_wp2_with (go_at_call 51; refine q1.mono ?_; rintro e w1 ⟨rfl, hb1⟩; have R0' := R0.later hb1; have R1' := R1.later hb1; obtain ⟨c00, c01, _, _⟩ := R0'.two; obtain ⟨c10, c11, _, _⟩ := R1'.two)
      go_ret
      exact ⟨rfl, hBW.trans (hb1.mono hBW.size)⟩
  · rw [decide_eq_false hsh] at q1
    obtain rfl : c = false := by rw [← HC.out]; exact allBC_no fun h => hsh h.1
    clear hsh
    go_enter Tryz.func89, Tryz.ntmps89
    go_wp2_with (go_at_call 51; refine q1.mono ?_; rintro e w1 ⟨rfl, hb1⟩; have R0' := R0.later hb1; have R1' := R1.later hb1; obtain ⟨c00, c01, _, _⟩ := R0'.two; obtain ⟨c10, c11, _, _⟩ := R1'.two)
    go_ret
    exact ⟨rfl, hBW.trans (hb1.mono hBW.size)⟩
end
section
open Go.RowKit
set_option linter.unusedVariables false
set_option linter.unusedSimpArgs false
/-- numerator and denominator are at most 2 to the b -/
def FitQ (X : Rat) (b : Nat) : Prop := X.num.natAbs ≤ 2 ^ b ∧ X.den ≤ 2 ^ b
theorem FitQ.mono {X : Rat} {a b : Nat} (h : FitQ X a) (hb : a ≤ b) : FitQ X b :=
  ⟨Nat.le_trans h.1 (Nat.pow_le_pow_right (by omega) hb), Nat.le_trans h.2 (Nat.pow_le_pow_right (by omega) hb)⟩
theorem FitQ.of {n : Bool} {A B : Int} {b : Nat} (hA : 0 ≤ A) (hB : 0 ≤ B) (h1 : A ≤ ((2 ^ b : Nat) : Int)) (h2 : B ≤ ((2 ^ b : Nat) : Int)) : FitQ (ratOf n A B) b := by
  have hp : 1 ≤ 2 ^ b := Nat.one_le_two_pow
  rcases Int.lt_or_le 0 B with h | h
  · have e1 := ratOf_abs (n := n) hA h
    have e2 := ratOf_den (n := n) (A := A) h
    have hg : (0 : Int) ≤ (Int.gcd A B : Int) := Int.natCast_nonneg _
    have l1 : A / (Int.gcd A B : Int) ≤ A := Int.ediv_le_self _ hA
    have l2 : B / (Int.gcd A B : Int) ≤ B := Int.ediv_le_self _ hB
    constructor <;> omega
  · have hz : B = 0 := by omega
    subst hz
    rw [ratOf_zero_right]
    exact ⟨by show 0 ≤ _; omega, by show 1 ≤ _; omega⟩
theorem FitQ.zero (b : Nat) : FitQ 0 b := ⟨Nat.zero_le _, Nat.one_le_two_pow⟩
theorem two_pow_mul (a b : Nat) {x y : Nat} (h1 : x ≤ 2 ^ a) (h2 : y ≤ 2 ^ b) : x * y ≤ 2 ^ (a + b) := by
  rw [Nat.pow_add]; exact Nat.mul_le_mul h1 h2
theorem FitQ.mul {X Y : Rat} {a b : Nat} (h : FitQ X a) (k : FitQ Y b) : FitQ (X * Y) (a + b) := by
  rw [← rat_mul]
  have e1 := two_pow_mul a b h.1 k.1
  have e2 := two_pow_mul a b h.2 k.2
  refine FitQ.of (Int.mul_nonneg (Int.natCast_nonneg _) (Int.natCast_nonneg _)) (Int.mul_nonneg (Int.natCast_nonneg _) (Int.natCast_nonneg _)) ?_ ?_
  · rw [← Int.natCast_mul]; omega
  · rw [← Int.natCast_mul]; omega
theorem sgn_abs (t : Int) : sgn (decide (t < 0)) (t.natAbs : Int) = t := by
  unfold sgn
  by_cases h : t < 0
  · rw [decide_eq_true h]; simp; omega
  · rw [decide_eq_false h]; simp; omega
theorem sgn_natAbs (n : Bool) (A : Int) : (sgn n A).natAbs = A.natAbs := by
  unfold sgn
  cases n <;> simp
theorem FitQ.add {X Y : Rat} {a b : Nat} (h : FitQ X a) (k : FitQ Y b) : FitQ (X + Y) (a + b + 1) := by
  obtain ⟨A, hA⟩ : ∃ A, X.num.natAbs = A := ⟨_, rfl⟩
  obtain ⟨B, hB⟩ : ∃ B, X.den = B := ⟨_, rfl⟩
  obtain ⟨C, hC⟩ : ∃ C, Y.num.natAbs = C := ⟨_, rfl⟩
  obtain ⟨D, hD⟩ : ∃ D, Y.den = D := ⟨_, rfl⟩
  have eX : ratOf (decide (X.num < 0)) (A : Int) (B : Int) = X := by rw [← hA, ← hB]; exact ratOf_self X
  have eY : ratOf (decide (Y.num < 0)) (C : Int) (D : Int) = Y := by rw [← hC, ← hD]; exact ratOf_self Y
  have pB := den_pos' X
  have pD := den_pos' Y
  rw [hB] at pB
  rw [hD] at pD
  obtain ⟨t, ht⟩ : ∃ t, sgn (decide (X.num < 0)) ((A : Int) * (D : Int)) + sgn (decide (Y.num < 0)) ((C : Int) * (B : Int)) = t := ⟨_, rfl⟩
  have hs := rat_sum (m := decide (X.num < 0)) (n := decide (Y.num < 0)) (r := decide (t < 0)) (A := A) (B := B) (C := C) (D := D) (S := (t.natAbs : Int)) pB pD (by rw [sgn_abs, ht])
  rw [eX, eY] at hs
  rw [← hs]
  have f1 := h.1
  have f2 := h.2
  have f3 := k.1
  have f4 := k.2
  rw [hA] at f1
  rw [hB] at f2
  rw [hC] at f3
  rw [hD] at f4
  have g1 := two_pow_mul a b f1 f4
  have g2 := two_pow_mul b a f3 f2
  have g3 := two_pow_mul a b f2 f4
  have ht2 : t.natAbs ≤ A * D + C * B := by
    rw [← ht]
    refine Nat.le_trans (Int.natAbs_add_le _ _) ?_
    rw [sgn_natAbs, sgn_natAbs, Int.natAbs_mul, Int.natAbs_mul]
    simp
  rw [Nat.add_comm b a] at g2
  have hp2 : 2 ^ (a + b + 1) = 2 ^ (a + b) * 2 := Nat.pow_succ ..
  refine FitQ.of (Int.natCast_nonneg _) (Int.mul_nonneg (Int.natCast_nonneg _) (Int.natCast_nonneg _)) ?_ ?_
  · omega
  · rw [← Int.natCast_mul]; omega
theorem FitQ.raw {q : Q3} {m : Nat} (h1 : Wf q.num) (h2 : Wf q.den) (l1 : q.num.length ≤ m) (l2 : q.den.length ≤ m) : FitQ q.rat (32 * m) := by
  have e : ∀ {xs : List Int}, Wf xs → xs.length ≤ m → val xs ≤ ((2 ^ (32 * m) : Nat) : Int) := fun {xs} hx hl => by
    have h3 := val_lt hx
    have h4 : (4294967296 : Nat) ^ xs.length ≤ 4294967296 ^ m := Nat.pow_le_pow_right (by omega) hl
    have h5 : ((4294967296 ^ xs.length : Nat) : Int) = (4294967296 : Int) ^ xs.length := by rw [Int.natCast_pow]; rfl
    have h6 : 2 ^ (32 * m) = (4294967296 : Nat) ^ m := by rw [Nat.pow_mul]
    omega
  exact FitQ.of (val_nonneg h1) (val_nonneg h2) (e h1 l1) (e h2 l2)
theorem full_last {zs : List Int} (hf : trimN zs zs.length = zs.length) (hn : zs ≠ []) : zs.getD (zs.length - 1) 0 ≠ 0 := by
  obtain ⟨n, hl⟩ : ∃ n, zs.length = n + 1 := ⟨zs.length - 1, by have := List.length_pos_iff.2 hn; omega⟩
  rw [hl] at hf ⊢
  intro e
  rw [show n + 1 - 1 = n by omega] at e
  unfold trimN at hf
  rw [if_pos e] at hf
  have : ∀ (k : Nat), trimN zs k ≤ k := fun k => by
    induction k with
    | zero => exact Nat.le_refl _
    | succ k ih => unfold trimN; split <;> omega
  have := this n
  omega
theorem lenD_le {zs : List Int} {b : Nat} (hw : WfD zs) (hf : trimN zs zs.length = zs.length) (h : valD zs ≤ ((2 ^ b : Nat) : Int)) : zs.length ≤ b / 13 + 1 := by
  by_cases hn : zs = []
  · subst hn; simp
  · obtain ⟨n, hl⟩ : ∃ n, zs.length = n + 1 := ⟨zs.length - 1, by have := List.length_pos_iff.2 hn; omega⟩
    have hx := full_last hf hn
    have hd := hw.getD (zs.length - 1)
    have ht := val_take_succD zs n
    have h0 := val_nonnegD (hw.take n)
    rw [hl, show n + 1 - 1 = n by omega] at hx hd
    rw [List.take_of_length_le (by omega)] at ht
    obtain ⟨P, hP⟩ : ∃ P : Nat, 10000 ^ n = P := ⟨_, rfl⟩
    have hPI : (10000 : Int) ^ n = (P : Int) := by rw [← hP, Int.natCast_pow]; rfl
    rw [hPI] at ht
    have h1 : (P : Int) * 1 ≤ (P : Int) * zs.getD n 0 := Int.mul_le_mul_of_nonneg_left (by omega) (Int.natCast_nonneg _)
    have h2 : 2 ^ (13 * n) ≤ P := by rw [← hP, Nat.pow_mul]; exact Nat.pow_le_pow_left (by omega) n
    have h3 : 2 ^ (13 * n) ≤ 2 ^ b := by omega
    have h4 : 13 * n ≤ b := (Nat.pow_le_pow_iff_right (by omega)).1 h3
    omega
theorem lenN_le {zs : List Int} {b : Nat} (hw : Wf zs) (hf : trimN zs zs.length = zs.length) (h : val zs ≤ ((2 ^ b : Nat) : Int)) : zs.length ≤ b / 32 + 1 := by
  by_cases hn : zs = []
  · subst hn; simp
  · obtain ⟨n, hl⟩ : ∃ n, zs.length = n + 1 := ⟨zs.length - 1, by have := List.length_pos_iff.2 hn; omega⟩
    have hx := full_last hf hn
    have hd := hw.getD (zs.length - 1)
    have ht := val_take_succ zs n
    have h0 := val_nonneg (hw.take n)
    rw [hl, show n + 1 - 1 = n by omega] at hx hd
    rw [List.take_of_length_le (by omega)] at ht
    obtain ⟨P, hP⟩ : ∃ P : Nat, 4294967296 ^ n = P := ⟨_, rfl⟩
    have hPI : (4294967296 : Int) ^ n = (P : Int) := by rw [← hP, Int.natCast_pow]; rfl
    rw [hPI] at ht
    have h1 : (P : Int) * 1 ≤ (P : Int) * zs.getD n 0 := Int.mul_le_mul_of_nonneg_left (by omega) (Int.natCast_nonneg _)
    have h2 : 2 ^ (32 * n) ≤ P := by rw [← hP, Nat.pow_mul]; exact Nat.le_refl _
    have h3 : 2 ^ (32 * n) ≤ 2 ^ b := by omega
    have h4 : 32 * n ≤ b := (Nat.pow_le_pow_iff_right (by omega)).1 h3
    omega
theorem ArgR.refit {w : World} {v : Value} {X : Rat} {n b : Nat} (h : ArgR w v X n) (hf : FitQ X b) : ArgR w v X (b / 13 + 1) := by
  obtain ⟨zs, ys, ad, bd, ca, cb, rfl, A, B, e1, e2, _, _⟩ := h
  exact ⟨zs, ys, ad, bd, ca, cb, rfl, A, B, e1, e2, lenD_le A.wf A.full (by rw [e1]; have := hf.1; omega), lenD_le B.wf B.full (by rw [e2]; have := hf.2; omega)⟩
theorem ResQ.refit {base : Nat} {w : World} {v : Value} {X : Rat} {n b : Nat} (h : ResQ base w v X n) (hf : FitQ X b) : ResQ base w v X (b / 32 + 1) := by
  obtain ⟨zs, ys, ad, bd, ca, cb, rfl, A, B, _, _⟩ := h
  exact ⟨zs, ys, ad, bd, ca, cb, rfl, A, B, lenN_le A.wf A.full (by rw [A.eq]; have := hf.1; omega), lenN_le B.wf B.full (by rw [B.eq]; have := hf.2; omega)⟩
end
section
open Go.RowKit
set_option linter.unusedVariables false
set_option linter.unusedSimpArgs false
set_option maxRecDepth 100000 in
set_option maxHeartbeats 4000000 in
theorem emptyT_any {w : World} (v : Value) (sa sb : Option Addr) (n m ca cb : Nat) (hv : v = .agg #[.slice sa n ca, .slice sb m cb]) :
    Calls Tryz.prog 50 #[v] w fun e w' => e = .returned (.bool (decide (n = 0) && decide (m = 0))) ∧ Below w.heap.size w w' := by
  subst hv
  obtain ⟨W, hW⟩ : ∃ W, (w.alloc (.cells #[.slice sa n ca, .slice sb m cb] 26)) = W := ⟨_, rfl⟩
  have R0 : Row W w.heap.size 26 #[.slice sa n ca, .slice sb m cb] := by rw [← hW]; exact Row.new _ _ _
  have hBW : Below w.heap.size w W := by rw [← hW]; exact (Below.refl _ _).alloc (by simp) _
  obtain ⟨c0, c1, _, _⟩ := R0.two
  by_cases h0 : n = 0
  · subst h0
    by_cases h1 : m = 0
    · subst h1
      go_enter Tryz.func50, Tryz.ntmps50
      go_wp2
      go_ret
      exact ⟨rfl, hBW⟩
    · have h1I : ((m : Int) == 0) = false := by simp; omega
      rw [decide_eq_false h1]
      clear h1
      go_enter Tryz.func50, Tryz.ntmps50
      go_wp2
      go_ret
      exact ⟨rfl, hBW⟩
  · have h0I : ((n : Int) == 0) = false := by simp; omega
    rw [decide_eq_false h0]
    clear h0
    go_enter Tryz.func50, Tryz.ntmps50
    go_wp2
    go_ret
    exact ⟨rfl, hBW⟩
theorem ResS.at_ {base : Nat} {w : World} {ad : Option Addr} {n cap : Nat} {xs : List Int} (h : ResS base w (.slice ad n cap) xs) : n = xs.length ∧ ArgS w (.slice ad n cap) xs ad cap ∧ (ad = none → cap = 0) := by
  obtain ⟨ad', cap', e, _, A, hn⟩ := h.slice
  simp only [Value.slice.injEq] at e
  obtain ⟨rfl, rfl, rfl⟩ := e
  exact ⟨rfl, A, hn⟩
theorem RowA.imp {α : Type} {P Q : World → Value → α → Prop} {w : World} {u : Value} {L : List α} {ad : Option Addr} {cap : Nat} (h : RowA P w u L ad cap) (hP : ∀ v x, x ∈ L → P w v x → Q w v x) : RowA Q w u L ad cap := by
  refine ⟨h.is, h.le, ?_⟩
  rcases h.els with e | ⟨b, o, es, e, c, k⟩
  · exact .inl e
  · exact .inr ⟨b, o, es, e, c, k.imp hP⟩
theorem RowO.at_ {α : Type} {base : Nat} {T : TypeId} {P : World → Value → α → Prop} {w : World} {ad : Option Addr} {n cap : Nat} {L : List α} (h : RowO base T P w (.slice ad n cap) L) : n = L.length ∧ RowA P w (.slice ad n cap) L ad cap ∧ (ad = none → cap = 0) := by
  obtain ⟨ad', cap', A, hn, _⟩ := h.arg
  have e := A.is
  simp only [Value.slice.injEq] at e
  obtain ⟨rfl, rfl, rfl⟩ := e
  exact ⟨rfl, A, hn⟩
end
section
open Go.RowKit
set_option linter.unusedVariables false
set_option linter.unusedSimpArgs false
set_option maxRecDepth 100000 in
set_option maxHeartbeats 4000000 in
theorem intRR_any (k : Int) (w : World) (h0 : -9223372036854775808 ≤ k) (h1 : k ≤ 9223372036854775807) :
    Calls Tryz.prog 67 #[.int .i64 k] w fun e w' => ∃ r, e = .returned r ∧ ResR w.heap.size w' r (intQ k) 6 ∧ Below w.heap.size w w' := by
  obtain ⟨i1, i2, i3⟩ := intQ_parts k
  obtain ⟨m1, hm1⟩ : ∃ m, decide (k < 0) = m := ⟨_, rfl⟩
  rw [hm1] at i1
  have I1 := Lib.hid i1
  have I2 := Lib.hid i2
  have I3 := Lib.hid i3
  clear i1 i2 i3
  obtain ⟨W, hW⟩ : ∃ W, (w.alloc (.cells #[.bool false, .slice none 0 0, .slice none 0 0] 56)) = W := ⟨_, rfl⟩
  have R0 : Row W (w.heap.size) 56 #[.bool false, .slice none 0 0, .slice none 0 0] := by rw [← hW]; exact (Row.new _ _ _)
  have hBW : Below w.heap.size w W := by rw [← hW]; exact ((Below.refl _ _).alloc (by (try simp) <;> omega) _)
  have hsW : w.heap.size + 1 ≤ W.heap.size := by rw [← hW]; simp
  go_enter Tryz.func67, Tryz.ntmps67
  go_wp2_with fail
  refine (sizeR_any k _ h0 h1).mono ?_
  rintro e w1 ⟨r1, rfl, z1, q1, l1, hb1⟩
  have hs1 := hb1.size
  obtain ⟨ad1, cp1, rfl, q1, A1⟩ := q1.slice
  have v1 : valD z1 = (((intQ k).num.natAbs : Nat) : Int) := by rw [q1.eq, I2.out]
  have V1 := Lib.hid v1
  have hb2 : Below w1.heap.size w1 (w1.alloc (.cells #[.int .i64 1] 3)) := (Below.refl _ _).alloc (Nat.le_refl _) _
  have L := digit_lit (Row.new w1 3 #[.int .i64 1]) (by omega)
  have P2 := (R0.later hb1).later hb2
  have A2 := A1.later hb2
  have Q1 := Lib.hid q1
  clear v1 q1 hW
  obtain ⟨q0, q1, q2, h0', h1', h2'⟩ := (R0.later hb1).three
  obtain ⟨u0, u1, u2, g0, g1, g2⟩ := P2.three
  go_wp2_with fail
  refine bodyPost_ret (v := .agg #[.bool m1, .slice ad1 z1.length cp1, .slice (some ⟨w1.heap.size, 0, none⟩) 1 1]) (by simp [results, Tryz.results67, go_sem, u0, u1, u2]) rfl ⟨_, rfl, ⟨z1, [1], ad1, some ⟨w1.heap.size, 0, none⟩, cp1, 1, by rw [I1.out]; rfl, ?_, ?_, l1, by simp⟩, ?_⟩
  · exact (((Q1.out.mono (by omega)).later hb2).far P2 (by decide) (kept3 _ _ _)).eqTo V1.out
  · rw [I3.out]; exact (ResD.one w1 (by omega)).far P2 (by decide) (kept3 _ _ _)
  · exact below_set3 ((hBW.trans (hb1.mono (by omega))).trans (hb2.mono (by omega))) (by omega) _ _ _
/-- a tensor as it is answered -/
def ResT (base : Nat) (w : World) (v : Value) (s : List Int) (L : List Rat) (m : Nat) : Prop :=
  ∃ (a b : Option Addr) (ca cb : Nat), v = .agg #[.slice a s.length ca, .slice b L.length cb] ∧ ResS base w (.slice a s.length ca) s ∧ RowO base 51 (fun W v x => ResQ base W v x m) w (.slice b L.length cb) L
theorem ResT.later {base : Nat} {w w' : World} {v : Value} {s : List Int} {L : List Rat} {m : Nat} (h : ResT base w v s L m) (hb : Below w.heap.size w w') : ResT base w' v s L m := by
  obtain ⟨a, b, ca, cb, rfl, h1, h2⟩ := h
  exact ⟨a, b, ca, cb, rfl, h1.later hb, h2.later hb (fun v x h => h.later hb)⟩
theorem ResT.mono {base base' : Nat} {w : World} {v : Value} {s : List Int} {L : List Rat} {m : Nat} (h : ResT base w v s L m) (hb : base' ≤ base) : ResT base' w v s L m := by
  obtain ⟨a, b, ca, cb, rfl, h1, h2⟩ := h
  exact ⟨a, b, ca, cb, rfl, h1.mono hb, h2.mono hb (fun v x h => h.mono hb)⟩
theorem ResT.far {base : Nat} {w w' : World} {v : Value} {s : List Int} {L : List Rat} {m g : Nat} {t : TypeId} {cs : Array Value} (h : ResT base w v s L m) (R : Row w g t cs) (h1 : t ≠ 3) (h2 : t ≠ 64) (h3 : t ≠ 51) (hk : ∀ k, k ≠ g → w'.heap[k]? = w.heap[k]?) : ResT base w' v s L m := by
  obtain ⟨a, b, ca, cb, rfl, k1, k2⟩ := h
  exact ⟨a, b, ca, cb, rfl, k1.far R h1 hk, k2.far R h3 hk (fun v x h => h.far R h2 hk)⟩
end
section
open Go.RowKit Go.ChangeShapes Go.WideShapes Go.ChangeAt Go.Joins Go.Deep
set_option linter.unusedVariables false
set_option linter.unusedSimpArgs false
set_option maxRecDepth 100000
theorem cellsInt7 : Tryz.prog.cellsOf 3 = 1 := by kernel_rfl
theorem wf_int7 {i : Int} (h : (Lit.int .i64 i).wf = true) : -9223372036854775808 ≤ i ∧ i ≤ 9223372036854775807 := by simpa [Lit.wf, IntKind.min, IntKind.max, IntKind.signed, IntKind.bits] using h
/-- a row of limbs, as it came in: it is no longer than its bulk -/
theorem open_natB {H : Type} {enc : TypeId × Value → H} {W : World} {v : Value} {y : DataW H × List MemPlace} {fuel : Nat}
    (hf : DataW.trod enc Tryz.prog W 0 (fun _ => true) true fuel 49 [v] = some y) : ∃ ad xs cap, v = .slice ad xs.length cap ∧ Arg W (.slice ad xs.length cap) xs ad cap ∧ xs.length + 1 ≤ Rows.uptoBulk y.1 ∧ (ad = none → cap = 0) := by
  rcases open_ints Tryz.underlying49 Tryz.underlying64 cellsLimb hf with ⟨hcs, hx⟩ | ⟨a, n, cap, zs, hcs, _, hl, hm, hz, hx, hcell, hwz⟩
  · simp only [List.cons.injEq, and_true] at hcs
    subst hcs
    exact ⟨none, [], 0, rfl, ⟨rfl, .inl rfl, Nat.le_refl _, Wf.nil⟩, by have := bulk_pos y.1; simpa using this, fun _ => rfl⟩
  · simp only [List.cons.injEq, and_true] at hcs
    subst hcs
    subst hx
    simp only [if_true] at hz
    have hlen : (zs.take n).length = n := by rw [List.length_take]; omega
    have hb := bulk_slice (lits .u32 (zs.take n) : List (DataW H)) (lits .u32 (zs.drop n))
    have hb2 : (zs.take n).length + 1 ≤ Rows.uptoBulk (.slice (lits .u32 (zs.take n) : List (DataW H)) (lits .u32 (zs.drop n))) := by
      have h1 := bulk_len (lits .u32 (zs.take n) : List (DataW H))
      simp only [lits, List.length_map] at h1
      simp only [Rows.uptoBulk, lits]
      omega
    refine ⟨some a, zs.take n, cap, by rw [hlen], ⟨rfl, ?_, by rw [hlen]; exact hl, fun x hx => wf_limb (hwz x (List.mem_of_mem_take hx))⟩, hb2, fun e => by cases e⟩
    by_cases h0 : n = 0
    · exact .inl (by simp [h0])
    · obtain ⟨b, off, rfl, hc⟩ := ints_at hcell (by omega)
      refine .inr ⟨b, off, rfl, fun i hi => ?_⟩
      rw [hlen] at hi
      rw [hc i (by omega)]
      simp [hi]
/-- a row of numbers, as it came in -/
theorem open_intsB {H : Type} {enc : TypeId × Value → H} {W : World} {v : Value} {y : DataW H × List MemPlace} {fuel : Nat} {T : TypeId} (hT : Tryz.prog.underlying T = some (.slice 3))
    (hf : DataW.trod enc Tryz.prog W 0 (fun _ => true) true fuel T [v] = some y) : ∃ ad xs cap, v = .slice ad xs.length cap ∧ ArgS W (.slice ad xs.length cap) xs ad cap ∧ xs.length + 1 ≤ Rows.uptoBulk y.1 ∧ (ad = none → cap = 0) := by
  rcases open_ints hT Tryz.underlying3 cellsInt7 hf with ⟨hcs, hx⟩ | ⟨a, n, cap, zs, hcs, _, hl, hm, hz, hx, hcell, hwz⟩
  · simp only [List.cons.injEq, and_true] at hcs
    subst hcs
    exact ⟨none, [], 0, rfl, ⟨rfl, .inl rfl, Nat.le_refl _, Wid.nil⟩, by have := bulk_pos y.1; simpa using this, fun _ => rfl⟩
  · simp only [List.cons.injEq, and_true] at hcs
    subst hcs
    subst hx
    simp only [if_true] at hz
    have hlen : (zs.take n).length = n := by rw [List.length_take]; omega
    have hb2 : (zs.take n).length + 1 ≤ Rows.uptoBulk (.slice (lits .i64 (zs.take n) : List (DataW H)) (lits .i64 (zs.drop n))) := by
      have h1 := bulk_len (lits .i64 (zs.take n) : List (DataW H))
      simp only [lits, List.length_map] at h1
      simp only [Rows.uptoBulk, lits]
      omega
    refine ⟨some a, zs.take n, cap, by rw [hlen], ⟨rfl, ?_, by rw [hlen]; exact hl, fun x hx => wf_int7 (hwz x (List.mem_of_mem_take hx))⟩, hb2, fun e => by cases e⟩
    by_cases h0 : n = 0
    · exact .inl (by simp [h0])
    · obtain ⟨b, off, rfl, hc⟩ := ints_at hcell (by omega)
      refine .inr ⟨b, off, rfl, fun i hi => ?_⟩
      rw [hlen] at hi
      rw [hc i (by omega)]
      simp [hi]
/-- how much rational numbers hold -/
def sizeQ (q : Q3) : Nat := q.num.length + q.den.length + 1
def sizeQs : List Q3 → Nat
  | [] => 0
  | q :: qs => sizeQ q + sizeQs qs
theorem sizeQs_mem {qs : List Q3} {q : Q3} (h : q ∈ qs) : sizeQ q ≤ sizeQs qs := by
  induction qs with
  | nil => cases h
  | cons p qs ih =>
    simp only [sizeQs]
    rcases List.mem_cons.1 h with rfl | h
    · omega
    · have := ih h; omega
theorem sizeQs_range {H : Type} (F : Nat → Q3) (D : Nat → DataW H) (n : Nat) (h : ∀ i, i < n → sizeQ (F i) ≤ Rows.uptoBulk (D i)) : sizeQs ((List.range n).map F) ≤ Rows.uptoBulkAll ((List.range n).map D) := by
  suffices hs : ∀ l : List Nat, (∀ i ∈ l, sizeQ (F i) ≤ Rows.uptoBulk (D i)) → sizeQs (l.map F) ≤ Rows.uptoBulkAll (l.map D) from hs _ (fun i hi => h i (List.mem_range.1 hi))
  intro l
  induction l with
  | nil => intro _; simp [sizeQs]
  | cons a l ih =>
    intro hl
    have h1 := hl a (List.mem_cons_self ..)
    have h2 := ih (fun i hi => hl i (List.mem_cons_of_mem _ hi))
    simp only [List.map_cons, sizeQs, Rows.uptoBulkAll]
    omega
/-- a row of rational numbers, as it came in -/
theorem open_rats {H : Type} {enc : TypeId × Value → H} {W : World} {v : Value} {y : DataW H × List MemPlace} {fuel : Nat}
    (hf : DataW.trod enc Tryz.prog W 0 (fun _ => true) true fuel 24 [v] = some y) : ∃ (ad : Option Addr) (qs : List Q3) (cap : Nat), v = .slice ad qs.length cap ∧ RowA RawQ W (.slice ad qs.length cap) qs ad cap ∧ (ad = none → cap = 0) ∧ sizeQs qs + 1 ≤ Rows.uptoBulk y.1 := by
  rcases open_slice Tryz.underlying24 hf with ⟨hcs, hx⟩ | ⟨a, len, cap, m, n, D, Pl, hcs, hb, hl, hm, hmm, hx, hi⟩
  · simp only [List.cons.injEq, and_true] at hcs
    subst hcs
    exact ⟨none, [], 0, rfl, ⟨rfl, Nat.le_refl _, .inl rfl⟩, fun _ => rfl, by have := bulk_pos y.1; simpa [sizeQs] using this⟩
  · simp only [List.cons.injEq, and_true] at hcs
    subst hcs
    subst hx
    simp only [if_true] at hmm
    rw [cellsRat] at hi
    have hel : ∀ i, i < len → ∃ (e : E3) (q : Q3), W.cell? (a.add (i * 3)) = some e.a ∧ W.cell? ((a.add (i * 3)).add 1) = some e.b ∧ W.cell? ((a.add (i * 3)).add 2) = some e.c ∧ RawQ W e.agg q ∧ sizeQ q ≤ Rows.uptoBulk (D i) := fun i hlt => by
      obtain ⟨cs', hc, ht⟩ := hi i (by omega)
      obtain ⟨_, hcl, hat⟩ := World.cells?_some hc
      obtain ⟨xs, n', _, hy, hlen, hyl, hfd⟩ := DataW.trod_struct Tryz.underlying51 ht
      have hc3 : cs'.length = 3 := hcl
      match cs', hc3 with
      | [c0, c1, c2], _ =>
        match xs, (show xs.length = 3 from hyl) with
        | [y0, y1, y2], _ =>
          have h0 := hfd 0 _ rfl
          have h1 := hfd 1 _ rfl
          have h2 := hfd 2 _ rfl
          have g0 : DataW.trod enc Tryz.prog W 0 (fun _ => true) true n' 4 [c0] = some y0 := h0
          have g1 : DataW.trod enc Tryz.prog W 0 (fun _ => true) true n' 49 [c1] = some y1 := h1
          have g2 : DataW.trod enc Tryz.prog W 0 (fun _ => true) true n' 49 [c2] = some y2 := h2
          obtain ⟨b, hbv, _⟩ := DataW.trod_bool Tryz.underlying4 g0
          simp only [List.cons.injEq, and_true] at hbv
          subst hbv
          obtain ⟨ad, zs, ca, rfl, A, l1, n1⟩ := open_natB g1
          obtain ⟨bd, ys, cb, rfl, B, l2, n2⟩ := open_natB g2
          have p0 := hat 0 (by omega)
          have p1 := hat 1 (by omega)
          have p2 := hat 2 (by omega)
          rw [show ∀ p : Addr, p.add 0 = p from fun p => by cases p; rename_i b o path; cases path <;> simp [Addr.add]] at p0
          refine ⟨⟨.bool b, .slice ad zs.length ca, .slice bd ys.length cb⟩, ⟨b, zs, ys⟩, p0, p1, p2, ⟨ad, bd, ca, cb, rfl, A, B, n1, n2⟩, ?_⟩
          have hD : D i = .agg ([y0, y1, y2].map (·.1)) := by simpa using congrArg Prod.fst hy
          rw [hD]
          simp only [List.map_cons, List.map_nil, Rows.uptoBulk, Rows.uptoBulkAll, sizeQ]
          omega
    have hel2 : ∀ i, ∃ (e : E3) (q : Q3), i < len → W.cell? (a.add (i * 3)) = some e.a ∧ W.cell? ((a.add (i * 3)).add 1) = some e.b ∧ W.cell? ((a.add (i * 3)).add 2) = some e.c ∧ RawQ W e.agg q ∧ sizeQ q ≤ Rows.uptoBulk (D i) := fun i => by
      by_cases h : i < len
      · obtain ⟨e, q, h'⟩ := hel i h
        exact ⟨e, q, fun _ => h'⟩
      · exact ⟨⟨.bool false, .bool false, .bool false⟩, ⟨false, [], []⟩, fun h' => absurd h' h⟩
    obtain ⟨E, hE⟩ := Classical.axiomOfChoice hel2
    obtain ⟨F, hF⟩ := Classical.axiomOfChoice hE
    have hlq : ((List.range len).map F).length = len := by simp
    refine ⟨some a, (List.range len).map F, cap, by rw [hlq], ⟨rfl, by rw [hlq]; exact hl, ?_⟩, (by intro e; cases e), ?_⟩
    · by_cases h0 : len = 0
      · exact .inl (by rw [h0]; rfl)
      · have hp : ∃ b o, a = ⟨b, o, none⟩ := by
          obtain ⟨h1, _⟩ := hF 0 (by omega)
          obtain ⟨b, off, spot⟩ := a
          have hspot : spot = none := by simpa [Addr.add] using World.cell?_spot h1
          subst hspot
          exact ⟨b, off, rfl⟩
        obtain ⟨b, o, rfl⟩ := hp
        refine .inr ⟨b, o, (List.range len).map E, rfl, fun i e he => ?_, ⟨by simp, fun i e q he hq => ?_⟩⟩
        · have hlt : i < len := by
            rcases Nat.lt_or_ge i len with g | g
            · exact g
            · rw [List.getElem?_eq_none (by simpa using g)] at he; cases he
          rw [List.getElem?_map, List.getElem?_range hlt] at he
          simp only [Option.map_some, Option.some.injEq] at he
          subst he
          obtain ⟨h1, h2, h3, _⟩ := hF i hlt
          rw [add_plain] at h1 h2 h3
          rw [add_plain] at h2 h3
          exact ⟨h1, h2, h3⟩
        · have hlt : i < len := by
            rcases Nat.lt_or_ge i len with g | g
            · exact g
            · rw [List.getElem?_eq_none (by simpa using g)] at he; cases he
          rw [List.getElem?_map, List.getElem?_range hlt] at he hq
          simp only [Option.map_some, Option.some.injEq] at he hq
          subst he
          subst hq
          exact (hF i hlt).2.2.2.1
    · have h1 := sizeQs_range F D len (fun i hi => (hF i hi).2.2.2.2)
      simp only [Rows.uptoBulk]
      omega
theorem cellsTensor : Tryz.prog.cellsOf 26 = 2 := by kernel_rfl
/-- a tensor, as it came in -/
theorem open_tensor {H : Type} {enc : TypeId × Value → H} {W : World} {v : Value} {d : DataW H} {p : List MemPlace} {base : Nat}
    (hval : Value.okWide Tryz.prog W .any base 26 v) (h : DataW.Trod enc Tryz.prog W 0 (fun _ => true) true 26 v d p) :
    ∃ (s : List Int) (qs : List Q3) (a b : Option Addr) (ca cb : Nat), TensQ W v s qs a ca b cb ∧ s.length + sizeQs qs ≤ Rows.uptoBulk d := by
  obtain ⟨v0, v1, y0, y1, n, rfl, rfl, rfl, h0, h1⟩ := open_agg2 Tryz.underlying26 (by kernel_rfl) cellsTensor hval h
  obtain ⟨a, s, ca, rfl, A, l1, n1⟩ := open_intsB Tryz.underlying23 h0
  obtain ⟨b, qs, cb, rfl, B, n2, l2⟩ := open_rats h1
  refine ⟨s, qs, a, b, ca, cb, ⟨rfl, A, n1, B, n2⟩, ?_⟩
  simp only [Rows.uptoBulk, Rows.uptoBulkAll]
  omega
end
section
open Go.RowKit
set_option linter.unusedVariables false
set_option linter.unusedSimpArgs false
/-- all parts are at most n limbs long -/
def lensQ (qs : List Q3) (n : Nat) : Prop := ∀ q ∈ qs, q.num.length ≤ n ∧ q.den.length ≤ n
theorem lensQ.of {qs : List Q3} {n : Nat} (h : sizeQs qs ≤ n) : lensQ qs n := fun q hq => by
  have := sizeQs_mem hq
  unfold sizeQ at this
  omega
/-- why there is no tensor of a shape and so many numbers -/
def makeC (s : List Int) (n : Nat) : Int := if mayC s ≠ 0 then mayC s else if (n : Int) ≠ countS s then 13 else 0
/-- why two tensors have no product -/
def dotC (s1 s2 : List Int) (q1 q2 : List Q3) : Int := if mayT s1 q1 ≠ 0 then mayT s1 q1 else if mayT s2 q2 ≠ 0 then mayT s2 q2 else if s1 ≠ s2 then 13 else 0
def noTensor : Value := .agg #[.slice none 0 0, .slice none 0 0]
def noRat : Value := .agg #[.bool false, .slice none 0 0, .slice none 0 0]
/-- the rational as it is answered -/
theorem ResQ.raw {base n : Nat} {w : World} {v : Value} {x : Rat} (h : ResQ base w v x n) : ∃ q : Q3, RawQ w v q ∧ q.rat = x ∧ q.num.length ≤ n ∧ q.den.length ≤ n ∧ okQ q = true := by
  obtain ⟨zs, ys, ad, bd, ca, cb, rfl, A, B, l1, l2⟩ := h
  have e : (Q3.mk (decide (x.num < 0)) zs ys).rat = x := by unfold Q3.rat; rw [A.eq, B.eq, ratOf_self]
  refine ⟨⟨decide (x.num < 0), zs, ys⟩, ⟨ad, bd, ca, cb, rfl, A.at_.2, B.at_.2, (Num.at_ A.num A.wf).2.2, (Num.at_ B.num B.wf).2.2⟩, e, l1, l2, ?_⟩
  unfold okQ validB isB
  rw [e]
  simp only [Bool.and_eq_true, decide_eq_true_eq, beq_iff_eq]
  exact ⟨by simp, ⟨A.full, A.eq⟩, B.full, B.eq⟩
/-- an answered tensor, as it is handed in again -/
theorem ResT.tens {base m : Nat} {w : World} {v : Value} {s : List Int} {L : List Rat} (h : ResT base w v s L m) : ∃ (qs : List Q3) (a b : Option Addr) (ca cb : Nat), TensQ w v s qs a ca b cb ∧ qs.map Q3.rat = L ∧ lensQ qs m ∧ ∀ q ∈ qs, okQ q = true := by
  obtain ⟨a, b, ca, cb, rfl, h1, h2⟩ := h
  obtain ⟨_, A, na⟩ := h1.at_
  obtain ⟨_, B, nb⟩ := h2.at_
  rcases B.els with e | ⟨bb, o, es, e, hc, hall⟩
  · subst e
    exact ⟨[], a, b, ca, cb, ⟨rfl, A, na, ⟨rfl, B.le, .inl rfl⟩, nb⟩, rfl, (fun q hq => by cases hq), fun q hq => by cases hq⟩
  · have hch : ∀ i, ∃ q : Q3, i < L.length → ∀ d x, es[i]? = some d → L[i]? = some x → RawQ w d.agg q ∧ q.rat = x ∧ q.num.length ≤ m ∧ q.den.length ≤ m ∧ okQ q = true := fun i => by
      by_cases hi : i < L.length
      · obtain ⟨d, x, g1, g2, g3⟩ := hall.at hi
        obtain ⟨q, k1, k2, k3, k4, k5⟩ := ResQ.raw g3
        refine ⟨q, fun _ d' x' e1 e2 => ?_⟩
        rw [g1] at e1
        rw [g2] at e2
        cases e1
        cases e2
        exact ⟨k1, k2, k3, k4, k5⟩
      · exact ⟨⟨false, [], []⟩, fun h => absurd h hi⟩
    obtain ⟨F, hF⟩ := Classical.axiomOfChoice hch
    have hl : ((List.range L.length).map F).length = L.length := by simp
    have hat : ∀ i q, ((List.range L.length).map F)[i]? = some q → i < L.length ∧ q = F i := fun i q hq => by
      have hlt : i < L.length := by
        rcases Nat.lt_or_ge i L.length with g | g
        · exact g
        · rw [List.getElem?_eq_none (by simpa using g)] at hq; cases hq
      rw [List.getElem?_map, List.getElem?_range hlt] at hq
      simp only [Option.map_some, Option.some.injEq] at hq
      exact ⟨hlt, hq.symm⟩
    refine ⟨(List.range L.length).map F, a, b, ca, cb, ⟨by rw [hl], A, na, ⟨rfl, by rw [hl]; exact B.le, .inr ⟨bb, o, es, e, hc, by rw [hl]; exact hall.1, fun i d q h1 hq => ?_⟩⟩, nb⟩, ?_, fun q hq => ?_, fun q hq => ?_⟩
    · obtain ⟨hlt, rfl⟩ := hat i q hq
      obtain ⟨d', x, g1, g2, _⟩ := hall.at hlt
      rw [h1] at g1
      cases g1
      exact (hF i hlt d x h1 g2).1
    · apply List.ext_getElem?
      intro i
      by_cases hlt : i < L.length
      · obtain ⟨d, x, g1, g2, _⟩ := hall.at hlt
        rw [List.getElem?_map, List.getElem?_map, List.getElem?_range hlt, g2]
        simp only [Option.map_some]
        rw [(hF i hlt d x g1 g2).2.1]
      · rw [List.getElem?_eq_none (by simpa using hlt), List.getElem?_eq_none (by omega)]
    · obtain ⟨i, hi, rfl⟩ := List.mem_iff_getElem.1 hq
      obtain ⟨hlt, he⟩ := hat i _ (List.getElem?_eq_getElem hi)
      obtain ⟨d, x, g1, g2, _⟩ := hall.at hlt
      rw [he]
      exact ⟨(hF i hlt d x g1 g2).2.2.1, (hF i hlt d x g1 g2).2.2.2.1⟩
    · obtain ⟨i, hi, rfl⟩ := List.mem_iff_getElem.1 hq
      obtain ⟨hlt, he⟩ := hat i _ (List.getElem?_eq_getElem hi)
      obtain ⟨d, x, g1, g2, _⟩ := hall.at hlt
      rw [he]
      exact (hF i hlt d x g1 g2).2.2.2.2
end
section
open Go.RowKit Go.Shelf
attribute [local go_sem] Oper.semAt_some
set_option linter.unusedVariables false
set_option linter.unusedSimpArgs false
/-- all blocks of cells are as they were -/
def KeepC (W W' : World) : Prop := ∀ (k : Nat) (cur : Array Value) (t : TypeId) (fr : Nat × Nat), W.heap[k]? = some (Obj.cells cur t fr) → W'.heap[k]? = W.heap[k]?
theorem KeepC.below {W W' : World} (h : Below W.heap.size W W') : KeepC W W' := fun k _ _ _ e => h.block k (lt_of_block e)
theorem KeepC.grown {W W' : World} {row : Option Nat} (hg : W.grownBy W' row) (hr : ∀ r, row = some r → ∃ o : Obj, W.heap[r]? = some o ∧ o.isCells = false) : KeepC W W' := fun k cur t fr e =>
  hg.block k (lt_of_block e) fun e2 => by
    obtain ⟨o, ho, hc⟩ := hr k e2.symm
    rw [e] at ho
    cases ho
    cases hc
theorem keepC_row {W W' : World} {base size n : Nat} {T : TypeId} {v : Value} {xs : List Value} (k : KeepC W W') (h : W.ownsRow base T size v n xs) : W'.ownsRow base T size v n xs := by
  obtain ⟨h1, h2⟩ := h
  refine ⟨h1, ?_⟩
  rcases h2 with h2 | ⟨g, cap, cur, rfl, hg0, hh, hrest⟩
  · exact .inl h2
  · exact .inr ⟨g, cap, cur, rfl, hg0, (k _ _ _ _ hh).trans hh, hrest⟩
theorem Boxed.keepC {W W' : World} {B : Nat} {t : TypeId} {v : Value} (h : Boxed W B t v) (k : KeepC W W') : Boxed W' B t v := (k _ _ _ _ h).trans h
theorem Row.keepC {W W' : World} {B : Nat} {t : TypeId} {cs : Array Value} (h : Row W B t cs) (k : KeepC W W') : Row W' B t cs := (k _ _ _ _ h).trans h
theorem OwnE.keepC {W W' : World} {base : Nat} {T : TypeId} {v : Value} {es : List E3} (h : OwnE base T W v es) (k : KeepC W W') : OwnE base T W' v es := keepC_row k h
theorem Num.keepC {W W' : World} {base : Nat} {v : Value} {xs : List Int} (h : Num base W v xs) (k : KeepC W W') : Num base W' v xs := keepC_row k h
theorem Res.keepC {W W' : World} {base : Nat} {v : Value} {xs : List Int} {m : Int} (h : Res base W v xs m) (k : KeepC W W') : Res base W' v xs m := ⟨h.num.keepC k, h.wf, h.full, h.eq⟩
theorem ResQ.keepC {W W' : World} {base n : Nat} {v : Value} {x : Rat} (h : ResQ base W v x n) (k : KeepC W W') : ResQ base W' v x n := by
  obtain ⟨zs, ys, ad, bd, ca, cb, rfl, A, B, h⟩ := h
  exact ⟨zs, ys, ad, bd, ca, cb, rfl, A.keepC k, B.keepC k, h⟩
theorem RawO.keepC {W W' : World} {base : Nat} {v : Value} {q : Q3} (h : RawO base W v q) (k : KeepC W W') : RawO base W' v q := by
  obtain ⟨ad, bd, ca, cb, rfl, A, B, h⟩ := h
  exact ⟨ad, bd, ca, cb, rfl, A.keepC k, B.keepC k, h⟩
/-- the block that an append may write to: of cells, if there is one -/
theorem ownV_hits {base size n : Nat} {T : TypeId} {w : World} {v : Value} {xs : List Value} (h : w.ownsRow base T size v n xs) (hb : base ≤ w.heap.size) :
    ∃ r, (v.ownBlock = none ∨ v.ownBlock = some r) ∧ base ≤ r ∧ (∀ g t cs, Row w g t cs → t ≠ T → g ≠ r) ∧ (∀ o, w.heap[r]? = some o → o.isCells = true) ∧ (v.ownBlock = some r ∨ r = w.heap.size) := by
  obtain ⟨_, h2⟩ := h
  rcases h2 with ⟨rfl, _⟩ | ⟨g, cap, cur, rfl, hg0, hh, hrest⟩
  · refine ⟨w.heap.size, .inl rfl, hb, fun g t cs R _ => by have := R.lt; omega, fun o ho => ?_, .inr rfl⟩
    have := lt_of_block ho
    omega
  · refine ⟨g, .inr rfl, hg0, fun k t cs R ht e => ?_, fun o ho => ?_, .inl rfl⟩
    · subst e
      have := hh.symm.trans R
      simp only [Option.some.injEq, Obj.cells.injEq] at this
      exact ht this.2.1.symm
    · rw [hh] at ho
      cases ho
      rfl
theorem keepsFrom_kept {r B : Nat} {W W' : World} (h : Kept r W W') (hr : ∀ o, W.heap[r]? = some o → o.isCells = true) : KeepsFrom B W W' := ⟨h.size, fun k o _ hk ho => by
  have hne : k ≠ r := fun e => by
    subst e
    rw [hr o hk] at ho
    cases ho
  exact (h.block k (lt_of_block hk) hne).trans hk⟩
theorem keepsFrom_set {B : Nat} {W W' : World} (h : KeepsFrom B W W') (p : Addr) (v : Value) : KeepsFrom B W (W'.setCell p v) := h.trans ((KeepsOthers.setCell W' p v).from B)
theorem keepsFrom_below {B : Nat} {W W' : World} (h : Below W.heap.size W W') : KeepsFrom B W W' := ⟨h.size, fun k o _ hk ho => (h.block k (lt_of_block hk)).trans hk⟩
def dfE : E3 := ⟨.bool false, .slice none 0 0, .slice none 0 0⟩
/-- what a round over structs is handed -/
def ratAt (es : List E3) {n : Nat} (x : Fin n) : Array Value := #[.agg #[(es[x.val]?.getD dfE).a, (es[x.val]?.getD dfE).b, (es[x.val]?.getD dfE).c]]
def ratsAt (es fs : List E3) {n : Nat} (x : Fin n) : Array Value := #[.agg #[(es[x.val]?.getD dfE).a, (es[x.val]?.getD dfE).b, (es[x.val]?.getD dfE).c], .agg #[(fs[x.val]?.getD dfE).a, (fs[x.val]?.getD dfE).b, (fs[x.val]?.getD dfE).c]]
/-- where the structs of a slice lie: below n₀ -/
def LimE (w : World) (ad : Option Addr) (es : List E3) (n₀ : Nat) : Prop := es = [] ∨ ∃ b o, ad = some ⟨b, o, none⟩ ∧ CellsE w b o es ∧ b < n₀
theorem LimE.below {w w' : World} {ad : Option Addr} {es : List E3} {n₀ : Nat} (h : LimE w ad es n₀) (hb : Below n₀ w w') : LimE w' ad es n₀ := by
  rcases h with h | ⟨b, o, e, c, hl⟩
  · exact .inl h
  · refine .inr ⟨b, o, e, fun i d hd => ?_, hl⟩
    obtain ⟨h0, h1, h2⟩ := c i d hd
    exact ⟨(hb.cell (p := ⟨b, o + i * 3, none⟩) hl).trans h0, (hb.cell (p := ⟨b, o + i * 3 + 1, none⟩) hl).trans h1, (hb.cell (p := ⟨b, o + i * 3 + 2, none⟩) hl).trans h2⟩
theorem RowA.limE {α : Type} {P : World → Value → α → Prop} {w : World} {u : Value} {L : List α} {ad : Option Addr} {cap : Nat} (h : RowA P w u L ad cap) : ∃ es, LimE w ad es w.heap.size ∧ AllE (P w) es L := by
  rcases h.els with e | ⟨b, o, es, e, c, k⟩
  · subst e
    exact ⟨[], .inl rfl, AllE.nil _⟩
  · by_cases hn : es = []
    · exact ⟨es, .inl hn, k⟩
    · have hL : L ≠ [] := fun h => hn (List.eq_nil_of_length_eq_zero (by rw [k.1, h]; rfl))
      exact ⟨es, .inr ⟨b, o, e, c, h.low hL e⟩, k⟩
/-- the structs are of one bool and two slices -/
def ShE (es : List E3) : Prop := ∀ k, k < es.length → ∃ m a1 n1 c1 a2 n2 c2, es[k]?.getD dfE = ⟨.bool m, .slice a1 n1 c1, .slice a2 n2 c2⟩
theorem shE_of {α : Type} {P : Value → α → Prop} {es : List E3} {L : List α} (h : AllE P es L) (hP : ∀ v x, P v x → ∃ m a1 n1 c1 a2 n2 c2, v = .agg #[.bool m, .slice a1 n1 c1, .slice a2 n2 c2]) : ShE es := fun k hk => by
  obtain ⟨e, x, h1, h2, h3⟩ := h.at (i := k) (by rw [← h.1]; exact hk)
  obtain ⟨m, a1, n1, c1, a2, n2, c2, he⟩ := hP _ _ h3
  rw [h1]
  obtain ⟨p, q, r⟩ := e
  simp only [E3.agg, Value.agg.injEq, Array.mk.injEq, List.cons.injEq, and_true] at he
  obtain ⟨rfl, rfl, rfl⟩ := he
  exact ⟨m, a1, n1, c1, a2, n2, c2, rfl⟩
theorem RawQ.form {w : World} {v : Value} {q : Q3} (h : RawQ w v q) : ∃ m a1 n1 c1 a2 n2 c2, v = .agg #[.bool m, .slice a1 n1 c1, .slice a2 n2 c2] := by
  obtain ⟨_, _, _, _, rfl, _⟩ := h
  exact ⟨_, _, _, _, _, _, _, rfl⟩
theorem LimE.cells {w : World} {ad : Option Addr} {es : List E3} {n₀ : Nat} (h : LimE w ad es n₀) {k : Nat} (hk : k < es.length) : ∃ b o, ad = some ⟨b, o, none⟩ ∧ w.cell? ⟨b, o + k * 3, none⟩ = some (es[k]?.getD dfE).a ∧ w.cell? ⟨b, o + k * 3 + 1, none⟩ = some (es[k]?.getD dfE).b ∧ w.cell? ⟨b, o + k * 3 + 2, none⟩ = some (es[k]?.getD dfE).c := by
  rcases h with h | ⟨b, o, e, c, _⟩
  · subst h; simp at hk
  · have hx : es[k]? = some es[k] := List.getElem?_eq_getElem hk
    obtain ⟨h0, h1, h2⟩ := c k _ hx
    exact ⟨b, o, e, by rw [hx]; exact h0, by rw [hx]; exact h1, by rw [hx]; exact h2⟩
set_option maxRecDepth 100000 in
set_option maxHeartbeats 2000000 in
theorem allQ_in (n l Bs n₀ : Nat) (ad : Option Addr) (es : List E3) (cap : Nat) (hm : es.length ≤ 1000000000000) (hcap : es.length ≤ cap) (J Jx : List (Fin es.length) → World → Prop)
    (hJ : ∀ pre A B, J pre A → Below A.heap.size A B → J pre B)
    (hY : ∀ pre x W, J pre W → pre.length < es.length → YieldAt Fence.wide (n - 1) Tryz.prog l (ratAt es x) W fun e W' =>
      (e = .returned (.bool true) ∧ J (pre ++ [x]) W' ∧ Below n₀ W W') ∨ (e = .returned (.bool false) ∧ Jx (pre ++ [x]) W'))
    (W : World) (hn₀ : n₀ ≤ W.heap.size) (hBs : W.cell? ⟨Bs, 0, none⟩ = some (.slice ad es.length cap)) (hl : LimE W ad es n₀) (hsh : ShE es) (h0 : J [] W) :
    CallsIn Fence.wide n Tryz.prog 125 #[.func (.yield l) #[] #[], .pointer (some ⟨Bs, 0, none⟩)] W fun e W' => (∃ v, e = .returned v) ∧
      ((∃ ys, Upto ys es.length ∧ J ys W') ∨ (∃ pre, (∃ k, k ≤ es.length ∧ Upto pre k) ∧ Jx pre W')) := by
  refine callsIn_of_wp Tryz.func125 rfl trivial ?_ rfl
  simp only [Tryz.ntmps125, List.size_toArray, List.length_cons, List.length_nil, Nat.reduceAdd, Nat.reduceSub, Array.replicate_succ, Array.replicate_zero, List.push_toArray, List.append_toArray, List.nil_append, List.cons_append]
  gi_wp2_with fail
  gi_loopw [4, 7] (fun _ i wr => ∃ (k : Nat) (pre : List (Fin es.length)), k ≤ es.length ∧ i = .int .i64 k ∧ Upto pre k ∧ J pre wr ∧ Below n₀ W wr)
    (fun _ i _ => es.length - (intOf i).toNat)
  case atStart => exact ⟨0, [], Nat.zero_le _, rfl, rfl, h0, Below.refl _ _⟩
  case round =>
    obtain ⟨k, pre, hk, rfl, hup, hJs, hnx⟩ := hrel
    by_cases hlt : k < es.length
    · obtain ⟨b, o, rfl, c0, c1, c2⟩ := (hl.below hnx).cells hlt
      have hsz := hnx.size
      obtain ⟨W2, hW2⟩ : ∃ W2, wr.alloc (.cells #[(es[k]?.getD dfE).a, (es[k]?.getD dfE).b, (es[k]?.getD dfE).c] 51) = W2 := ⟨_, rfl⟩
      have hb2 : Below wr.heap.size wr W2 := by rw [← hW2]; exact (Below.refl _ _).alloc (Nat.le_refl _) _
      have R2 : Row W2 wr.heap.size 51 #[(es[k]?.getD dfE).a, (es[k]?.getD dfE).b, (es[k]?.getD dfE).c] := by rw [← hW2]; exact Row.new _ _ _
      obtain ⟨d0, d1, d2, _, _, _⟩ := R2.three
      obtain ⟨fn, tmps, assign, body, hy, hR⟩ := hY pre ⟨k, hlt⟩ W2 (hJ _ _ _ hJs hb2) (by rw [hup.length]; exact hlt)
      simp only [ratAt] at hy
      have hnx2 : Below n₀ W W2 := hnx.trans (hb2.mono (by omega))
      obtain ⟨z1, z2, z3, z4, z5, z6, z7, he⟩ := hsh k hlt
      rw [he] at hy c0 c1 c2 hW2 d0 d1 d2
      clear he R2
      have HJ := Lib.hid hJ
      have HY := Lib.hid hY
      clear hJ hY hl
      gi_wp2
      refine ⟨(fun h => by cases h), hR.mono ?_⟩
      rintro e W3 (⟨rfl, hJ3, hk3⟩ | ⟨rfl, hJx3⟩)
      · gi_wp2
        go_roundw
        case rel => exact ⟨k + 1, _, by omega, by go_num, hup.snoc hlt, hJ3, hnx2.trans hk3⟩
        case measure => simp [intOf]; omega
      · gi_wp2
        refine bodyPost_ret (results_none rfl _ _ _) rfl ?_
        exact ⟨⟨_, rfl⟩, .inr ⟨_, ⟨k + 1, by omega, hup.snoc hlt⟩, hJx3⟩⟩
    · obtain rfl : k = es.length := by omega
      gi_wp2
      go_end0
      exact ⟨⟨_, rfl⟩, .inl ⟨_, hup, hJs⟩⟩
end
section
open Go.RowKit Go.Shelf
attribute [local go_sem] Oper.semAt_some
set_option linter.unusedVariables false
set_option linter.unusedSimpArgs false
theorem allQ_any (ad : Option Addr) (n cap : Nat) (w : World) :
    Calls Tryz.prog 84 #[.slice ad n cap] w fun e w' => e = .returned (.func (.func 125) #[] #[.pointer (some ⟨w.heap.size, 0, none⟩)]) ∧ w' = w.alloc (.cells #[.slice ad n cap] 95) := by
  go_enter Tryz.func84, Tryz.ntmps84
  go_wp2
  go_ret
  exact ⟨rfl, rfl⟩
theorem allQ_stops (n Bs n₀ : Nat) (ad : Option Addr) (es : List E3) (cap : Nat) (hm : es.length ≤ 1000000000000) (hcap : es.length ≤ cap) (w : World) (hn₀ : n₀ ≤ w.heap.size) (hBs : Bs < w.heap.size)
    (hc : w.cell? ⟨Bs, 0, none⟩ = some (.slice ad es.length cap)) (hl : LimE w ad es n₀) (hsh : ShE es) :
    SeqStopsK Fence.wide n Tryz.prog 125 #[.pointer (some ⟨Bs, 0, none⟩)] (ratAt es (n := es.length)) (Below n₀) (fun ys => Upto ys es.length) (fun pre => ∃ k, k ≤ es.length ∧ Upto pre k) es.length w := fun l J Jx W hW hJ _ hY h0 =>
  allQ_in n l Bs n₀ ad es cap hm hcap J Jx (fun pre A B hj hb => hJ pre A B none hj ⟨hb.os, hb.tape, hb.output, hb.size, fun k hk _ => hb.block k hk⟩ (fun _ h => by cases h)) hY W (Nat.le_trans hn₀ hW.size) ((hW.cell (p := ⟨Bs, 0, none⟩) hBs).trans hc) (hl.below (hW.mono hn₀)) hsh h0
theorem besideQ_any (a b : Option Addr) (n m ca cb : Nat) (w : World) :
    Calls Tryz.prog 80 #[.slice a n ca, .slice b m cb] w fun e w' => e = .returned (.func (.func 120) #[] #[.pointer (some ⟨w.heap.size, 0, none⟩), .pointer (some ⟨w.heap.size + 1, 0, none⟩)]) ∧
      w' = (w.alloc (.cells #[.slice a n ca] 95)).alloc (.cells #[.slice b m cb] 95) := by
  go_enter Tryz.func80, Tryz.ntmps80
  go_wp2
  go_ret
  simp
end
end Go.Proofs.YtjcacmnmbbnffaaGreat
