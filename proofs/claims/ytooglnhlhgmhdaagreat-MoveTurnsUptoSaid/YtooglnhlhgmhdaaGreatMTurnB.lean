/-
  Layer 9's law MoveTurns: products of what is moved.
-/
import Derived.Test.YtooglnhlhgmhdaaGreatMTurnA
import Derived.Test.YtooglnhlhgmhdaaGreatV34
namespace Go.Proofs.YtooglnhlhgmhdaaGreat
open Go.RowKit
set_option linter.unusedVariables false
set_option linter.unusedSimpArgs false

theorem fillV_self9 {s : List Int} (hp : posS s) {L : List Rat} (hl : L.length = (prodS s).toNat) : fillV s (elV s L) = L := by
  apply List.ext_getElem
  · rw [fillV_len, hl]
  · intro i g1 g2
    simp only [fillV, List.getElem_map, List.getElem_range]
    obtain ⟨h1, h2⟩ := place_idx hp (n := (i : Int)) (by omega) (by omega)
    rw [elV_in h1, h2]
    simp [g2]
theorem fill_getD {s : List Int} {F : List Int → Rat} {k : Nat} (hk : k < (prodS s).toNat) : (fillV s F).getD k 0 = F (idxS s (k : Int)) := by
  rw [List.getD_eq_getElem?_getD]
  unfold fillV
  rw [List.getElem?_map, List.getElem?_range hk]
  rfl
theorem dotN_fill {s : List Int} {F G : List Int → Rat} : ∀ k, k ≤ (prodS s).toNat → dotN (fillV s F) (fillV s G) k = sumQ (fun xs => F xs * G xs) (placesTo s k)
  | 0, _ => rfl
  | k + 1, hk => by
    show dotN (fillV s F) (fillV s G) k + (fillV s F).getD k 0 * (fillV s G).getD k 0 = _
    rw [dotN_fill k (by omega), placesTo_next, sumQ_snoc, fill_getD (by omega), fill_getD (by omega)]
theorem dot_fitP {s : List Int} {F G : List Int → Rat} {bF bG : List Int → Nat} (hF : ∀ xs, FitQ (F xs) (bF xs)) (hG : ∀ xs, FitQ (G xs) (bG xs)) : ∀ k, k ≤ (prodS s).toNat → FitQ (dotN (fillV s F) (fillV s G) k) (sumN (fun xs => bF xs + bG xs + 1) (placesTo s k))
  | 0, _ => FitQ.zero _
  | k + 1, hk => by
    show FitQ (dotN (fillV s F) (fillV s G) k + (fillV s F).getD k 0 * (fillV s G).getD k 0) _
    rw [placesTo_next, sumN_snoc, fill_getD (by omega), fill_getD (by omega)]
    exact ((dot_fitP hF hG k (by omega)).add ((hF _).mul (hG _))).mono (by omega)
theorem sumN_to {s : List Int} {f : List Int → Nat} {k n : Nat} (h : k ≤ n) : sumN f (placesTo s k) ≤ sumN f (placesTo s n) := by
  induction n with
  | zero => obtain rfl : k = 0 := by omega
            exact Nat.le_refl _
  | succ n ih =>
    by_cases e : k = n + 1
    · subst e; exact Nat.le_refl _
    · rw [placesTo_next, sumN_snoc]
      have := ih (by omega)
      omega
theorem dot_fitA {s : List Int} {F G : List Int → Rat} {bF bG : List Int → Nat} {B : Nat} (hF : ∀ xs, FitQ (F xs) (bF xs)) (hG : ∀ xs, FitQ (G xs) (bG xs)) (hB : sumN bF (places s) + sumN bG (places s) + (prodS s).toNat ≤ B) : ∀ k, k ≤ (prodS s).toNat → FitQ (dotN (fillV s F) (fillV s G) k) B := fun k hk =>
  (dot_fitP hF hG k hk).mono (by
    have h1 := sumN_to (s := s) (f := fun xs => bF xs + bG xs + 1) hk
    have h2 := sumN_add bF bG (places s)
    rw [places_len] at h2
    unfold places at h2 hB
    omega)
/-- how great an element may be -/
def wQ (s : List Int) (qs : List Q3) (xs : List Int) : Nat := if inS s xs then 32 * ((qs.map sizeQ).getD (placeS s xs).toNat 0) else 0
theorem wQ_fit {s : List Int} {qs : List Q3} (hw : WfQs qs) (xs : List Int) : FitQ (elV s (qs.map Q3.rat) xs) (wQ s qs xs) := by
  unfold wQ
  by_cases h : inS s xs
  · rw [if_pos h, elV_in h]
    obtain ⟨k, hk⟩ : ∃ k, (placeS s xs).toNat = k := ⟨_, rfl⟩
    rw [hk]
    cases e : qs[k]? with
    | none =>
      have : (qs.map Q3.rat).getD k 0 = 0 := by rw [List.getD_eq_getElem?_getD, List.getElem?_map, e]; rfl
      rw [this]
      exact FitQ.zero _
    | some q =>
      rw [getD_someL (l := qs.map Q3.rat) (x := q.rat) (by rw [List.getElem?_map, e]; rfl), getD_someL (l := qs.map sizeQ) (x := sizeQ q) (by rw [List.getElem?_map, e]; rfl)]
      exact (fit_Q3 (hw q (List.mem_of_getElem? e))).mono (by omega)
  · rw [elV_out h]
    exact FitQ.zero _
theorem wQ_out {s : List Int} {qs : List Q3} {xs : List Int} (h : ¬ inS s xs) : wQ s qs xs = 0 := if_neg h
theorem wQ_sum {s : List Int} {qs : List Q3} (hp : posS s) (hl : qs.length = (prodS s).toNat) : sumN (wQ s qs) (places s) ≤ 32 * sizeQs qs := by
  have key : ∀ k, k ≤ (prodS s).toNat → sumN (wQ s qs) (placesTo s k) = 32 * sizeQs (qs.take k) := fun k => by
    induction k with
    | zero => intro _; rfl
    | succ k ih =>
      intro hk
      obtain ⟨q, hq⟩ : ∃ q, qs[k]? = some q := ⟨_, List.getElem?_eq_getElem (by omega)⟩
      have hi := place_idx hp (n := (k : Int)) (by omega) (by omega)
      rw [placesTo_next, sumN_snoc, ih (by omega), sizeQs_take hq]
      unfold wQ
      rw [if_pos hi.1, hi.2, show ((k : Int)).toNat = k by omega, getD_someL (l := qs.map sizeQ) (x := sizeQ q) (by rw [List.getElem?_map, hq]; rfl)]
      omega
  unfold places
  rw [key _ (Nat.le_refl _)]
  have := sizeQs_takeLe qs (prodS s).toNat
  omega
theorem few_places {s : List Int} (ok : OkS s) : (prodS s).toNat ≤ 1024 := by have := ok.few; omega
/-- the product with what is transposed -/
theorem turn_dot {s p : List Int} {L M : List Rat} (hp : IsPerm p) (hl : p.length = s.length) (ok : OkS s) (hL : L.length = (prodS s).toNat) (hM : M.length = (prodS (trS s p)).toNat) :
    dotN (trV s p L) M (prodS (trS s p)).toNat = dotN L (trV (trS s p) (invL p) M) (prodS s).toNat := by
  have okP := (trS_ok hp hl ok).1
  obtain ⟨t1, t2, t3, t4⟩ := tr_places hp hl ok
  have l1 := dotN_fill (s := trS s p) (F := fun ys => elV s L (trI p ys)) (G := elV (trS s p) M) _ (Nat.le_refl _)
  have r1 := dotN_fill (s := s) (F := elV s L) (G := fun xs => elV (trS s p) M (trI (invL p) xs)) _ (Nat.le_refl _)
  rw [fillV_self9 okP.pos hM] at l1
  rw [fillV_self9 ok.pos hL] at r1
  have e2 : trV (trS s p) (invL p) M = fillV s (fun xs => elV (trS s p) M (trI (invL p) xs)) := by unfold trV; rw [trS_back hp hl]
  rw [e2, r1]
  refine Eq.trans l1 ?_
  have h := sumQ_image (A := places (trS s p)) (B := places s) (φ := trI p) (H := fun xs => elV s L xs * elV (trS s p) M (trI (invL p) xs)) (places_nodup okP.pos) (places_nodup ok.pos) t1 t2 (fun y hy hn => by
    obtain ⟨x, hx, e⟩ := t3 y hy
    exact absurd e (hn x hx))
  refine Eq.trans (sumQ_congr fun ys hy => ?_) h.symm
  rw [t4 ys hy]
theorem turn_fit {s p : List Int} {qs ms : List Q3} {B : Nat} (hp : IsPerm p) (hl : p.length = s.length) (ok : OkS s) (hq : WfQs qs) (hm : WfQs ms) (hL : qs.length = (prodS s).toNat) (hM : ms.length = (prodS (trS s p)).toNat) (hB : 32 * (sizeQs qs + sizeQs ms) + 1024 ≤ B) :
    (∀ k, k ≤ (prodS (trS s p)).toNat → FitQ (dotN (trV s p (qs.map Q3.rat)) (ms.map Q3.rat) k) B) ∧ ∀ k, k ≤ (prodS s).toNat → FitQ (dotN (qs.map Q3.rat) (trV (trS s p) (invL p) (ms.map Q3.rat)) k) B := by
  have okP := (trS_ok hp hl ok).1
  obtain ⟨t1, t2, t3, t4⟩ := tr_places hp hl ok
  have w1 := wQ_sum (qs := qs) ok.pos hL
  have w2 := wQ_sum (qs := ms) okP.pos hM
  have f1 := few_places ok
  have f2 := few_places okP
  refine ⟨fun k hk => ?_, fun k hk => ?_⟩
  · have i1 := sumN_image (A := places (trS s p)) (B := places s) (φ := trI p) (H := wQ s qs) (places_nodup okP.pos) (places_nodup ok.pos) t1 t2
    have h := dot_fitA (s := trS s p) (F := fun ys => elV s (qs.map Q3.rat) (trI p ys)) (G := elV (trS s p) (ms.map Q3.rat)) (bF := fun ys => wQ s qs (trI p ys)) (bG := wQ (trS s p) ms) (B := B) (fun xs => wQ_fit hq _) (fun xs => wQ_fit hm _) (by omega) k hk
    rw [fillV_self9 okP.pos (by rw [List.length_map]; exact hM)] at h
    exact h
  · have hinv : ∀ x ∈ places s, trI (invL p) x ∈ places (trS s p) ∧ trI p (trI (invL p) x) = x := fun x hx => by
      obtain ⟨y, hy, rfl⟩ := t3 x hx
      rw [t4 y hy]
      exact ⟨hy, rfl⟩
    have i1 := sumN_image (A := places s) (B := places (trS s p)) (φ := trI (invL p)) (H := wQ (trS s p) ms) (places_nodup ok.pos) (places_nodup okP.pos) (fun x hx => (hinv x hx).1) (fun x hx y hy e => by rw [← (hinv x hx).2, e, (hinv y hy).2])
    have h := dot_fitA (s := s) (F := elV s (qs.map Q3.rat)) (G := fun xs => elV (trS s p) (ms.map Q3.rat) (trI (invL p) xs)) (bF := wQ s qs) (bG := fun xs => wQ (trS s p) ms (trI (invL p) xs)) (B := B) (fun xs => wQ_fit hq _) (fun xs => wQ_fit hm _) (by omega) k hk
    rw [fillV_self9 ok.pos (by rw [List.length_map]; exact hL)] at h
    have e2 : trV (trS s p) (invL p) (ms.map Q3.rat) = fillV s (fun xs => elV (trS s p) (ms.map Q3.rat) (trI (invL p) xs)) := by unfold trV; rw [trS_back hp hl]
    rw [e2]
    exact h
/-- the product with what is padded -/
theorem pad_dot {s t : List Int} {L M : List Rat} (ok : OkS s) (h : pdC s t = 0) (hL : L.length = (prodS s).toNat) (hM : M.length = (prodS (pdS s t)).toNat) :
    dotN (pdV s t L) M (prodS (pdS s t)).toNat = dotN L (slV (pdS s t) (inL s t) M) (prodS s).toNat := by
  have okP := (pdC_is h).2.1
  obtain ⟨t1, t2, t3⟩ := pd_places ok h
  have l1 := dotN_fill (s := pdS s t) (F := fun ys => elV s L (downL s t ys)) (G := elV (pdS s t) M) _ (Nat.le_refl _)
  have r1 := dotN_fill (s := s) (F := elV s L) (G := fun xs => elV (pdS s t) M (upL s t xs)) _ (Nat.le_refl _)
  rw [fillV_self9 okP.pos hM] at l1
  rw [fillV_self9 ok.pos hL] at r1
  have e1 : pdV s t L = fillV (pdS s t) (fun ys => elV s L (downL s t ys)) := by unfold pdV; rw [pdW_eq ok (.inl h)]; rfl
  have e2 : slV (pdS s t) (inL s t) M = fillV s (fun xs => elV (pdS s t) M (upL s t xs)) := by unfold slV; rw [in_slS]; rfl
  rw [e1, e2, r1]
  refine Eq.trans l1 ?_
  have hs := sumQ_image (A := places s) (B := places (pdS s t)) (φ := upL s t) (H := fun ys => elV s L (downL s t ys) * elV (pdS s t) M ys) (places_nodup ok.pos) (places_nodup okP.pos) t1 (fun x hx y hy e => by rw [← t2 x hx, e, t2 y hy]) (fun y hy hn => by
    by_cases hd : inS s (downL s t y)
    · exact absurd (t3 y hy hd) (hn _ ((places_mem ok.pos).2 hd))
    · show elV s L (downL s t y) * _ = 0
      rw [elV_out hd, Rat.zero_mul])
  refine Eq.trans hs (sumQ_congr fun xs hx => ?_)
  rw [t2 xs hx]
theorem pad_fit {s t : List Int} {qs ms : List Q3} {B : Nat} (ok : OkS s) (h : pdC s t = 0) (hq : WfQs qs) (hm : WfQs ms) (hL : qs.length = (prodS s).toNat) (hM : ms.length = (prodS (pdS s t)).toNat) (hB : 32 * (sizeQs qs + sizeQs ms) + 1024 ≤ B) :
    (∀ k, k ≤ (prodS (pdS s t)).toNat → FitQ (dotN (pdV s t (qs.map Q3.rat)) (ms.map Q3.rat) k) B) ∧ ∀ k, k ≤ (prodS s).toNat → FitQ (dotN (qs.map Q3.rat) (slV (pdS s t) (inL s t) (ms.map Q3.rat)) k) B := by
  have okP := (pdC_is h).2.1
  obtain ⟨t1, t2, t3⟩ := pd_places ok h
  have w1 := wQ_sum (qs := qs) ok.pos hL
  have w2 := wQ_sum (qs := ms) okP.pos hM
  have f1 := few_places ok
  have f2 := few_places okP
  have hinj : ∀ x ∈ places s, ∀ y ∈ places s, upL s t x = upL s t y → x = y := fun x hx y hy e => by rw [← t2 x hx, e, t2 y hy]
  refine ⟨fun k hk => ?_, fun k hk => ?_⟩
  · have i1 := sumN_image0 (A := places s) (B := places (pdS s t)) (φ := upL s t) (H := fun ys => wQ s qs (downL s t ys)) (places_nodup ok.pos) (places_nodup okP.pos) t1 hinj (fun y hy hn => by
      by_cases hd : inS s (downL s t y)
      · exact absurd (t3 y hy hd) (hn _ ((places_mem ok.pos).2 hd))
      · exact wQ_out hd)
    have i2 : sumN (fun xs => wQ s qs (downL s t (upL s t xs))) (places s) = sumN (wQ s qs) (places s) := sumN_congr fun xs hx => by rw [t2 xs hx]
    have h' := dot_fitA (s := pdS s t) (F := fun ys => elV s (qs.map Q3.rat) (downL s t ys)) (G := elV (pdS s t) (ms.map Q3.rat)) (bF := fun ys => wQ s qs (downL s t ys)) (bG := wQ (pdS s t) ms) (B := B) (fun xs => wQ_fit hq _) (fun xs => wQ_fit hm _) (by omega) k hk
    rw [fillV_self9 okP.pos (by rw [List.length_map]; exact hM)] at h'
    have e1 : pdV s t (qs.map Q3.rat) = fillV (pdS s t) (fun ys => elV s (qs.map Q3.rat) (downL s t ys)) := by unfold pdV; rw [pdW_eq ok (.inl h)]; rfl
    rw [e1]
    exact h'
  · have i1 := sumN_image (A := places s) (B := places (pdS s t)) (φ := upL s t) (H := wQ (pdS s t) ms) (places_nodup ok.pos) (places_nodup okP.pos) t1 hinj
    have h' := dot_fitA (s := s) (F := elV s (qs.map Q3.rat)) (G := fun xs => elV (pdS s t) (ms.map Q3.rat) (upL s t xs)) (bF := wQ s qs) (bG := fun xs => wQ (pdS s t) ms (upL s t xs)) (B := B) (fun xs => wQ_fit hq _) (fun xs => wQ_fit hm _) (by omega) k hk
    rw [fillV_self9 ok.pos (by rw [List.length_map]; exact hL)] at h'
    have e2 : slV (pdS s t) (inL s t) (ms.map Q3.rat) = fillV s (fun xs => elV (pdS s t) (ms.map Q3.rat) (upL s t xs)) := by unfold slV; rw [in_slS]; rfl
    rw [e2]
    exact h'
end Go.Proofs.YtooglnhlhgmhdaaGreat
