/-
  Package shape as it landed: Inverse, Perm.
-/
import Derived.Test.YthlohkehacnolaaSCode4
namespace Go.Proofs.Ythlohkehacnolaa
open Go.RowKit
set_option linter.unusedVariables false
set_option linter.unusedSimpArgs false

/-- the first k numbers of a list are different ones, below L; each one's place is told -/
def SeenP (p : List Int) (L k : Nat) (zs : List Int) : Prop := zs.length = L ∧ (p.take k).Nodup ∧ (∀ x, x ∈ p.take k → 0 ≤ x ∧ x < L) ∧ ∀ j, j < k → zs.getD (p.getD j 0).toNat 0 = (j : Int)
theorem SeenP.nil (p : List Int) (L : Nat) : SeenP p L 0 (List.replicate L 0) := ⟨by simp, by simp, fun x h => by simp at h, fun j hj => by omega⟩
theorem mem_takeS {p : List Int} {j k : Nat} (hj : j < k) (hl : j < p.length) : p.getD j 0 ∈ p.take k := by
  rw [getD_elem hl, List.mem_take_iff_getElem]
  exact ⟨j, by omega, rfl⟩
theorem SeenP.next {p : List Int} {L k m : Nat} {zs : List Int} (h : SeenP p L k zs) (hk : k < p.length) (hx : p[k]? = some (m : Int)) (hm : m < L) (hn : ¬ (m : Int) ∈ p.take k) : SeenP p L (k + 1) (zs.set m (k : Int)) := by
  obtain ⟨h1, h2, h3, h4⟩ := h
  have ht : p.take (k + 1) = p.take k ++ [(m : Int)] := by rw [List.take_add_one, hx]; rfl
  refine ⟨by rw [List.length_set]; exact h1, ?_, fun x hx2 => ?_, fun j hj => ?_⟩
  · rw [ht, List.nodup_append]
    refine ⟨h2, by simp, fun a ha b hb e => ?_⟩
    rw [List.mem_singleton] at hb
    subst hb
    subst e
    exact hn ha
  · rw [ht, List.mem_append, List.mem_singleton] at hx2
    rcases hx2 with g | g
    · exact h3 x g
    · omega
  · by_cases e : j = k
    · subst e
      have e2 : p.getD j 0 = (m : Int) := by rw [List.getD_eq_getElem?_getD, hx]; rfl
      rw [e2, List.getD_eq_getElem?_getD, show (m : Int).toNat = m by omega, List.getElem?_set_self (by omega)]
      rfl
    · have hmem := mem_takeS (p := p) (j := j) (k := k) (by omega) (by omega)
      have hr := h3 _ hmem
      have hne : m ≠ (p.getD j 0).toNat := fun e2 => hn (by rw [e2, show (((p.getD j 0).toNat : Nat) : Int) = p.getD j 0 by omega]; exact hmem)
      rw [List.getD_eq_getElem?_getD, List.getElem?_set_ne hne, ← List.getD_eq_getElem?_getD]
      exact h4 j (by omega)
theorem SeenP.full {p : List Int} {L : Nat} {zs : List Int} (h : SeenP p L L zs) (hL : p.length = L) : IsPerm p ∧ zs = invL p := by
  obtain ⟨h1, h2, h3, h4⟩ := h
  rw [take_all hL] at h2 h3
  have hp := perm_of_all (p := upS L) (q := p) h2 (fun x hx => mem_upS.2 (h3 x hx)) (by rw [upS_length, hL]; exact Nat.le_refl _)
  have ip : IsPerm p := ⟨h2, fun x => by rw [← hp.mem_iff, mem_upS, hL]⟩
  refine ⟨ip, ?_⟩
  apply List.ext_getElem
  · rw [h1, invL_length, hL]
  · intro i g1 g2
    rw [← getD_elem g1, ← getD_elem g2, invL_at p (by omega)]
    have hmem := (ip.mem (i : Int)).2 (by omega)
    have hlt := List.idxOf_lt_length_of_mem hmem
    have hget := List.getElem_idxOf hlt
    have h5 := h4 (p.idxOf (i : Int)) (by omega)
    rw [getD_elem hlt, hget, show ((i : Nat) : Int).toNat = i by omega] at h5
    exact h5
theorem permC_no {p : List Int} (h : ¬ IsPerm p) (r : Int) : permC p r = 11 := by
  unfold permC
  rw [if_neg]
  exact fun e => h (permB_is e).1
theorem permC_yes {p : List Int} (h : IsPerm p) : permC p p.length = 0 := by unfold permC; rw [if_pos (is_permB h)]
theorem invV_no {p : List Int} (h : ¬ IsPerm p) : invV p = [] := by
  unfold invV
  rw [if_neg]
  exact fun e => h (permB_is e).1
theorem invV_yes {p : List Int} (h : IsPerm p) : invV p = invL p := by unfold invV; rw [if_pos (is_permB h)]
theorem not_twice {p : List Int} {k : Nat} (hk : k < p.length) (h : p.getD k 0 ∈ p.take k) : ¬ IsPerm p := by
  intro ip
  have hn := ip.nodup
  rw [← List.take_append_drop k p, List.nodup_append] at hn
  refine hn.2.2 _ h (p.getD k 0) ?_ rfl
  rw [List.drop_eq_getElem_cons hk, getD_elem hk]
  exact List.mem_cons_self ..

set_option maxRecDepth 100000 in
set_option maxHeartbeats 4000000 in
theorem inverseS_any {u : Value} {p : List Int} {a : Option Addr} {ca : Nat} {w : World} (A : ArgS w u p a ca) (ha : a = none → ca = 0) (hx : p.length ≤ 1000) :
    Calls Try.prog 27 #[u] w fun e w' => ∃ r, e = .returned (.tuple #[r, .int .i64 (permC p p.length)]) ∧ ResS w.heap.size w' r (invV p) ∧ Below w.heap.size w w' := by
  have HA := Lib.hid A
  obtain rfl := A.is
  obtain ⟨c, hc⟩ : ∃ c, permC p p.length = c := ⟨_, rfl⟩
  obtain ⟨r, hr⟩ : ∃ r, invV p = r := ⟨_, rfl⟩
  have HC := Lib.hid hc
  have HR := Lib.hid hr
  rw [hc, hr]
  obtain ⟨L, hL⟩ : ∃ L, p.length = L := ⟨_, rfl⟩
  have HL := Lib.hid hL
  rw [hL] at hx ⊢
  have hmk1 := make_runM L (by omega)
  have hmk2 := make_runS L (by omega)
  clear A ha hc hr hL
  go_enter Try.func27, Try.ntmps27
  go_wp2
  have hb0 : Below w.heap.size w ((w.alloc (.cells (madeCells #[.bool false] L) 4)).alloc (.cells (madeCells #[.int .i64 0] L) 3)) := ((Below.refl _ w).alloc (Nat.le_refl _) _).alloc (by simp) _
  have hm0 : MrkS ((w.alloc (.cells (madeCells #[.bool false] L) 4)).alloc (.cells (madeCells #[.int .i64 0] L) 3)) w.heap.size (List.replicate L false) := (MrkS.made w L).alloc _
  have hp0 : PartS ((w.alloc (.cells (madeCells #[.bool false] L) 4)).alloc (.cells (madeCells #[.int .i64 0] L) 3)) (w.heap.size + 1) L (List.replicate L 0) := by
    have h := BlkS.made (w.alloc (.cells (madeCells #[.bool false] L) 4)) L
    simp only [World.size_alloc] at h
    exact ⟨_, h, by simp, by simp, by simp⟩
  have HB0 := Lib.hid hb0
  have HM0 := Lib.hid hm0
  have HP0 := Lib.hid hp0
  clear hb0 hm0 hp0 hmk1 hmk2
  go_loopw [6, 7, 16] (fun _ _ i wr => ∃ (k : Nat) (M : List Bool) (zs : List Int), i = .int .i64 (k : Int) ∧ k ≤ L ∧ MrkS wr w.heap.size M ∧ SeenM p L k M ∧ PartS wr (w.heap.size + 1) L zs ∧ SeenP p L k zs ∧ Below w.heap.size w wr) (fun _ _ i _ => L - (intOf i).toNat)
  case atStart => exact ⟨0, _, _, rfl, Nat.zero_le _, HM0.out, SeenM.nil p L, HP0.out, SeenP.nil p L, HB0.out⟩
  case round =>
    obtain ⟨k, M, zs, rfl, hk, hM, hS, hP, hQ, hb⟩ := hrel
    have hsz := hb.size
    have HMK := Lib.hid hM
    have HS := Lib.hid hS
    have HP := Lib.hid hP
    have HQ := Lib.hid hQ
    clear hS hQ
    by_cases hlt : k < L
    · obtain ⟨b1, o1, rfl, c1⟩ := (HA.out.later hb).at (i := k) (by rw [HL.out]; exact hlt)
      have hxx := getD_some (xs := p) (k := k) (by rw [HL.out]; exact hlt)
      obtain ⟨x, hxe⟩ : ∃ x, p.getD k 0 = x := ⟨_, rfl⟩
      rw [hxe] at c1 hxx
      have HX := Lib.hid hxx
      have HXE := Lib.hid hxe
      have hbw := below_any x (L : Int) wr
      have hltI : (k : Int) < (L : Int) := by omega
      clear hxx hxe
      by_cases hg : 0 ≤ x ∧ x < L
      · obtain ⟨g0, g1⟩ := hg
        rw [belowB_yes g0 g1] at hbw
        obtain ⟨j, rfl⟩ : ∃ j : Nat, x = (j : Int) := ⟨x.toNat, by omega⟩
        have hj : j < L := by omega
        have hf := hM.free j
        have hcj := hM.cell j (by rw [HS.out.1]; exact hj)
        rw [HS.out.2 j hj] at hcj
        by_cases hmem : (j : Int) ∈ p.take k
        · rw [decide_eq_true hmem] at hcj
          have hno : ¬ IsPerm p := not_twice (k := k) (by rw [HL.out]; exact hlt) (by rw [HXE.out]; exact hmem)
          obtain rfl : c = 11 := by rw [← HC.out]; exact permC_no hno _
          obtain rfl : r = [] := by rw [← HR.out]; exact invV_no hno
          clear hM hP hmem hno
          go_wp2_with (go_at_call 42; refine hbw.mono ?_; rintro e w1 ⟨rfl, rfl⟩)
          go_ret2
          exact ⟨_, rfl, ResS.nil _ _, hb⟩
        · rw [decide_eq_false hmem] at hcj
          have hP1 := hP.far (p := ⟨w.heap.size, j, none⟩) (by show w.heap.size + 1 ≠ w.heap.size; omega) (.bool true)
          have hf2 := hP1.free j
          have hc2 := hP1.cell j (by rw [HQ.out.1]; exact hj)
          have HP1 := Lib.hid hP1
          have HME := Lib.hid hmem
          have hkp : k < p.length := by rw [HL.out]; exact hlt
          have HKP := Lib.hid hkp
          clear hM hP hP1 hmem hkp
          go_wp2_with (go_at_call 42; refine hbw.mono ?_; rintro e w1 ⟨rfl, rfl⟩)
          go_roundw
          case rel =>
            refine ⟨k + 1, _, _, by go_num, by omega, ((HMK.out.set j true).far ?_ _), HS.out.mark HX.out hj, HP1.out.set j (by rw [HQ.out.1]; exact hj) (k : Int), HQ.out.next HKP.out HX.out hj HME.out, ?_⟩
            · show w.heap.size ≠ w.heap.size + 1
              omega
            · exact (hb.setCell (Nat.le_refl _) _).setCell (by show w.heap.size ≤ w.heap.size + 1; omega) _
          case measure => simp [intOf]; omega
      · rw [belowB_no (by omega)] at hbw
        have hno : ¬ IsPerm p := fun ip => by
          have h := (ip.mem x).1 (by rw [← HXE.out, getD_elem (by rw [HL.out]; exact hlt)]; exact List.getElem_mem _)
          rw [HL.out] at h
          exact hg h
        obtain rfl : c = 11 := by rw [← HC.out]; exact permC_no hno _
        obtain rfl : r = [] := by rw [← HR.out]; exact invV_no hno
        clear hM hP hno hg
        go_wp2_with (go_at_call 42; refine hbw.mono ?_; rintro e w1 ⟨rfl, rfl⟩)
        go_ret2
        exact ⟨_, rfl, ResS.nil _ _, hb⟩
    · obtain rfl : k = L := by omega
      obtain ⟨ip, hzs⟩ := HQ.out.full HL.out
      obtain rfl : c = 0 := by rw [← HC.out]; exact permC_yes ip
      have hzr : zs = r := by rw [← HR.out, invV_yes ip]; exact hzs
      have hltI : ¬ (k : Int) < (k : Int) := by omega
      have hwid : Wid zs := by
        rw [hzs]
        intro x hx2
        have := (ip.inv.mem x).1 hx2
        rw [invL_length, HL.out] at this
        omega
      have HW := Lib.hid hwid
      clear hM hP ip hzs hwid
      go_wp2
      go_ret2
      have hn := HP.out.num (base := w.heap.size) (by omega) (by unfold maxLen; omega)
      rw [HQ.out.1] at hn
      exact ⟨_, rfl, by rw [← hzr]; exact ⟨hn, HW.out⟩, hb⟩

set_option maxRecDepth 100000 in
set_option maxHeartbeats 2000000 in
theorem permS_any {u : Value} {p : List Int} {a : Option Addr} {ca : Nat} {w : World} (rank : Int) (A : ArgS w u p a ca) (ha : a = none → ca = 0) (hx : p.length ≤ 1000) (h0 : -9223372036854775808 ≤ rank) (h1 : rank ≤ 9223372036854775807) :
    Calls Try.prog 26 #[u, .int .i64 rank] w fun e w' => e = .returned (.int .i64 (permC p rank)) ∧ Below w.heap.size w w' := by
  have hv := inverseS_any A ha hx
  obtain rfl := A.is
  obtain ⟨c, hc⟩ : ∃ c, permC p rank = c := ⟨_, rfl⟩
  obtain ⟨d, hd⟩ : ∃ d, permC p p.length = d := ⟨_, rfl⟩
  obtain ⟨z, hz⟩ : ∃ z, invV p = z := ⟨_, rfl⟩
  obtain ⟨m, hm⟩ : ∃ m, max rank 0 = m := ⟨_, rfl⟩
  have h2 : (p.length : Int) ≠ m → c = 11 := fun h => by
    rw [← hc]
    unfold permC
    rw [if_neg]
    intro e
    unfold permB at e
    rw [Bool.and_eq_true, decide_eq_true_iff, decide_eq_true_iff] at e
    exact h (e.2.trans hm)
  have h3 : (p.length : Int) = m → c = d := fun h => by
    rw [← hc, ← hd]
    unfold permC permB
    rw [show max rank 0 = max (p.length : Int) 0 by omega]
  rw [hd, hz] at hv
  rw [hc]
  obtain ⟨L, hL⟩ : ∃ L, p.length = L := ⟨_, rfl⟩
  rw [hL] at hv h2 h3 ⊢
  clear A ha hx hc hd hz hL
  by_cases h : (L : Int) = m
  · obtain rfl := h3 h
    have hne : ((L : Int) != m) = false := by simpa using h
    clear h h2 h3
    go_enter Try.func26, Try.ntmps26
    go_wp2_with (go_at_call 27; refine hv.mono ?_; rintro e w1 ⟨r, rfl, R, hb⟩)
    all_goals (go_ret; exact ⟨rfl, hb⟩)
  · obtain rfl := h2 h
    have hne : ((L : Int) != m) = true := by simpa using h
    clear h h2 h3
    go_enter Try.func26, Try.ntmps26
    go_wp2
    all_goals (go_ret; exact ⟨rfl, Below.refl _ _⟩)
end Go.Proofs.Ythlohkehacnolaa
