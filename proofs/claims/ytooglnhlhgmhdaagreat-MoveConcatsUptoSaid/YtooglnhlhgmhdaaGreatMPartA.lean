/-
  Layer 9's law MoveParts: the parts of what is put together.
-/
import Derived.Test.YtooglnhlhgmhdaaGreatMConB
import Derived.Test.YtooglnhlhgmhdaaGreatZ28
namespace Go.Proofs.YtooglnhlhgmhdaaGreat
open Go.RowKit
set_option linter.unusedVariables false
set_option linter.unusedSimpArgs false

theorem fillV_self9P {s : List Int} (hp : posS s) {L : List Rat} (hl : L.length = (prodS s).toNat) : fillV s (elV s L) = L := by
  apply List.ext_getElem
  · rw [fillV_len, hl]
  · intro i g1 g2
    simp only [fillV, List.getElem_map, List.getElem_range]
    obtain ⟨h1, h2⟩ := place_idx hp (n := (i : Int)) (by omega) (by omega)
    rw [elV_in h1, h2]
    simp [g2]
/-- the cuts at which a tensor stands, up to dimension m -/
def ctL (a : Nat) (f : Int) (s : List Int) (m : Nat) : List Int := (List.range m).flatMap fun i : Nat => if i = a then [f, f + s.getD i 0] else [0, s.getD i 0]
theorem ctL_next (a : Nat) (f : Int) (s : List Int) (m : Nat) : ctL a f s (m + 1) = ctL a f s m ++ if m = a then [f, f + s.getD m 0] else [0, s.getD m 0] := by
  unfold ctL
  rw [List.range_succ, List.flatMap_append]
  simp
theorem ctL_len (a : Nat) (f : Int) (s : List Int) (m : Nat) : (ctL a f s m).length = 2 * m := by
  induction m with
  | zero => rfl
  | succ m ih =>
    rw [ctL_next, List.length_append, ih]
    split <;> (simp; omega)
theorem ctL_fst (a : Nat) (f : Int) (s : List Int) {i m : Nat} (hi : i < m) : fstP (ctL a f s m) i = if i = a then f else 0 := by
  have h := flat2_at (fun i : Nat => if i = a then [f, f + s.getD i 0] else [0, s.getD i 0]) (fun i => by split <;> rfl) hi 0 (by omega)
  refine Eq.trans h ?_
  by_cases e : i = a
  · rw [if_pos e, if_pos e]; rfl
  · rw [if_neg e, if_neg e]; rfl
theorem ctL_snd (a : Nat) (f : Int) (s : List Int) {i m : Nat} (hi : i < m) : sndP (ctL a f s m) i = (if i = a then f else 0) + s.getD i 0 := by
  have h := flat2_at (fun i : Nat => if i = a then [f, f + s.getD i 0] else [0, s.getD i 0]) (fun i => by split <;> rfl) hi 1 (by omega)
  refine Eq.trans h ?_
  by_cases e : i = a
  · rw [if_pos e, if_pos e]; rfl
  · rw [if_neg e, if_neg e, Int.zero_add]; rfl
theorem ctL_wid {a : Nat} {f : Int} {s : List Int} (hf : 0 ≤ f ∧ f ≤ 2000000000) (hs : ∀ i, 0 ≤ s.getD i 0 ∧ s.getD i 0 ≤ 1024) (m : Nat) : Wid (ctL a f s m) := fun x hx => by
  obtain ⟨i, _, hm⟩ := List.mem_flatMap.1 hx
  have h := hs i
  by_cases e : i = a
  · rw [if_pos e] at hm
    simp only [List.mem_cons, List.not_mem_nil, or_false] at hm
    rcases hm with rfl | rfl <;> omega
  · rw [if_neg e] at hm
    simp only [List.mem_cons, List.not_mem_nil, or_false] at hm
    rcases hm with rfl | rfl <;> omega
theorem sumD_le {a : Nat} {xs : List X2} (h : ∀ x ∈ xs, OkS x.s ∧ a < x.s.length) (k : Nat) : sumD a (xs.take k) ≤ sumD a xs := by
  induction xs generalizing k with
  | nil => simp
  | cons x l ih =>
    have h2 := h x List.mem_cons_self
    have h3 := h2.1.pos.getD h2.2
    have hl := sumD_bound (a := a) (l := l) fun y hy => h y (List.mem_cons_of_mem _ hy)
    cases k with
    | zero => simp only [List.take_zero, sumD]; omega
    | succ k =>
      have := ih (fun y hy => h y (List.mem_cons_of_mem _ hy)) k
      simp only [List.take_succ_cons, sumD]
      omega
theorem take_next_le {a : Nat} {xs : List X2} {k : Nat} {x : X2} (h : ∀ x ∈ xs, OkS x.s ∧ a < x.s.length) (hx : xs[k]? = some x) : sumD a (xs.take k) + x.s.getD a 0 ≤ sumD a xs := by
  have := sumD_le h (k + 1)
  rw [take_nextL hx, sumD_snoc] at this
  exact this
theorem layL_at {a : Nat} {xs : List X2} {k j : Nat} {x : X2} (h : ∀ x ∈ xs, OkS x.s ∧ a < x.s.length) (hx : xs[k]? = some x) (hj : (j : Int) < x.s.getD a 0) : (layL a xs)[(sumD a (xs.take k) + (j : Int)).toNat]? = some (x, (j : Int)) := by
  have hk : k < xs.length := by
    rcases Nat.lt_or_ge k xs.length with h | h
    · exact h
    · rw [List.getElem?_eq_none h] at hx; cases hx
  have e : xs = xs.take k ++ ([x] ++ xs.drop (k + 1)) := by
    conv => lhs; rw [← List.take_append_drop k xs]
    congr 1
    rw [List.drop_eq_getElem_cons hk]
    rw [List.getElem?_eq_getElem hk] at hx
    rw [Option.some.inj hx]
    rfl
  have hpre : ∀ y ∈ xs.take k, OkS y.s ∧ a < y.s.length := fun y hy => h y (List.mem_of_mem_take hy)
  have hln := layL_len (a := a) (l := xs.take k) (fun y hy => by have := (hpre y hy).1.pos.getD (hpre y hy).2; omega)
  have e2 : layL a xs = layL a (xs.take k) ++ (((List.range (x.s.getD a 0).toNat).map fun n : Nat => (x, (n : Int))) ++ layL a (xs.drop (k + 1))) := by
    conv => lhs; rw [e]
    unfold layL
    rw [List.flatMap_append, List.flatMap_append]
    simp
  rw [e2, show (sumD a (xs.take k) + (j : Int)).toNat = (layL a (xs.take k)).length + j by omega, List.getElem?_append_right (by omega), Nat.add_sub_cancel_left, List.getElem?_append_left (by rw [List.length_map, List.length_range]; omega), List.getElem?_map, List.getElem?_range (by omega)]
  rfl
theorem Jo.dim {a : Nat} {xs : List X2} (J : Jo a xs) {x : X2} (hx : x ∈ xs) {i : Nat} (hi : i ≠ a) : (joS a xs).getD i 0 = x.s.getD i 0 ∧ (joS a xs).length = x.s.length := by
  have e := J.same x hx
  have hl : x.s.length = (firstS xs).length := by
    have := congrArg List.length e
    rw [ones_len, ones_len] at this
    exact this
  refine ⟨?_, by rw [joS_len, hl]⟩
  have e1 : (joS a xs).getD i 0 = (firstS xs).getD i 0 := getD_set_ne _ _ (fun h => hi h.symm)
  rw [e1]
  by_cases h : i < x.s.length
  · have h1 := ones_at x.s [(a : Int)] h
    have h2 := ones_at (firstS xs) [(a : Int)] (i := i) (by omega)
    have hm : ¬ ((i : Int) ∈ [(a : Int)]) := by simp; omega
    rw [if_neg hm] at h1 h2
    rw [← h1, ← h2, e]
  · rw [List.getD_eq_getElem?_getD, List.getD_eq_getElem?_getD, List.getElem?_eq_none (by omega), List.getElem?_eq_none (by omega)]
theorem Jo.sum {a : Nat} {xs : List X2} (J : Jo a xs) : (joS a xs).getD a 0 = sumD a xs := getD_set_self _ _ _ J.ax
/-- a part of what is put together -/
theorem part_of {a : Nat} {xs : List X2} (J : Jo a xs) {k : Nat} {x : X2} (hx : xs[k]? = some x) :
    slC (joS a xs) (ctL a (sumD a (xs.take k)) x.s x.s.length) = 0 ∧ slS (joS a xs) (ctL a (sumD a (xs.take k)) x.s x.s.length) = x.s ∧ slV (joS a xs) (ctL a (sumD a (xs.take k)) x.s x.s.length) (conV a xs) = x.q.map Q3.rat := by
  have hm := List.mem_of_getElem? hx
  have hox := J.okx x hm
  have hlen : (joS a xs).length = x.s.length := by
    have h := (congrArg List.length (J.same x hm))
    rw [ones_len, ones_len] at h
    rw [joS_len, h]
  have hle := take_next_le J.okx hx
  have hge : 0 ≤ sumD a (xs.take k) := by
    have := sumD_bound (a := a) (l := xs.take k) fun y hy => J.okx y (List.mem_of_mem_take hy)
    omega
  have hdim : ∀ i, i < x.s.length → (if i = a then sumD a (xs.take k) else 0) + x.s.getD i 0 ≤ (joS a xs).getD i 0 ∧ 0 ≤ (if i = a then sumD a (xs.take k) else (0 : Int)) := fun i hi => by
    by_cases e : i = a
    · subst e
      rw [if_pos rfl, J.sum]
      exact ⟨hle, hge⟩
    · rw [if_neg e, (J.dim hm e).1]
      omega
  have hC : slC (joS a xs) (ctL a (sumD a (xs.take k)) x.s x.s.length) = 0 := slC_ok (by rw [ctL_len, hlen]) (fun i hi => by
      rw [hlen] at hi
      unfold badCut
      rw [ctL_fst _ _ _ hi, ctL_snd _ _ _ hi]
      have h1 := (hdim i hi).2
      have h2 := hox.1.pos.getD hi
      omega) (fun i hi => by
      rw [hlen] at hi
      rw [ctL_snd _ _ _ hi]
      have := (hdim i hi).1
      omega)
  have hS : slS (joS a xs) (ctL a (sumD a (xs.take k)) x.s x.s.length) = x.s := by
    refine list_eq_getD (by rw [slS_len, hlen]) fun i hi => ?_
    rw [slS_len, hlen] at hi
    rw [slS_at _ _ (by rw [hlen]; exact hi), ctL_fst _ _ _ hi, ctL_snd _ _ _ hi]
    omega
  refine ⟨hC, hS, ?_⟩
  have hkq := ok9_of (J.may x hm)
  unfold slV
  rw [hS]
  refine Eq.trans (fillV_congr hox.1.pos fun zs hz => ?_) (fillV_self9P hox.1.pos (by rw [List.length_map]; have := hkq.len; omega))
  obtain ⟨ys, hys⟩ : ∃ ys, ((List.range (joS a xs).length).map fun i : Nat => IntKind.i64.wrap (zs.getD i 0 + fstP (ctL a (sumD a (xs.take k)) x.s x.s.length) i)) = ys := ⟨_, rfl⟩
  rw [hys]
  have hfew := J.ok.few
  have hyl : ys.length = x.s.length := by rw [← hys, List.length_map, List.length_range, hlen]
  have hya : ∀ i, i < x.s.length → ys.getD i 0 = zs.getD i 0 + (if i = a then sumD a (xs.take k) else 0) := fun i hi => by
    have h1 := inS_at hz hi
    have h2 := hdim i hi
    have h3 := getD_le_prod J.ok.pos (k := i) (by rw [hlen]; exact hi)
    rw [← hys, getD_map_range _ (by rw [hlen]; exact hi), ctL_fst _ _ _ hi]
    exact wrap_i64 (by omega) (by omega)
  have hin : inS (joS a xs) ys := inS_of (by rw [hyl, hlen]) fun i hi => by
    rw [hlen] at hi
    have h1 := inS_at hz hi
    have h2 := hdim i hi
    rw [hya i hi]
    omega
  unfold conV
  rw [elV_fill _ hin]
  have hz1 := inS_at hz hox.2
  obtain ⟨j, hj⟩ : ∃ j : Nat, zs.getD a 0 = (j : Int) := ⟨(zs.getD a 0).toNat, by omega⟩
  have hlay := layL_at (j := j) J.okx hx (by omega)
  rw [conF_at (x := x) (k := (j : Int)) (by rw [hya a hox.2, if_pos rfl, hj, Int.add_comm]; exact hlay)]
  congr 1
  refine list_eq_getD (by rw [List.length_set, hyl, inS_length hz]) fun i hi => ?_
  rw [List.length_set, hyl] at hi
  by_cases e : i = a
  · subst e
    rw [getD_set_self _ _ _ (by rw [hyl]; exact hi), hj]
  · rw [getD_set_ne _ _ (fun h => e h.symm), hya i hi, if_neg e, Int.add_zero]
end Go.Proofs.YtooglnhlhgmhdaaGreat
