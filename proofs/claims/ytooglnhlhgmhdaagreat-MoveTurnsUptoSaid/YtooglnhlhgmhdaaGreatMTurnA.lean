/-
  Layer 9's law MoveTurns: sums over places, and places that are moved.
-/
import Derived.Test.YtooglnhlhgmhdaaGreatV34
namespace Go.Proofs.YtooglnhlhgmhdaaGreat
open Go.RowKit
set_option linter.unusedVariables false
set_option linter.unusedSimpArgs false

/-- the places of a shape, in their order -/
def placesTo (s : List Int) (n : Nat) : List (List Int) := (List.range n).map fun k : Nat => idxS s (k : Int)
def places (s : List Int) : List (List Int) := placesTo s (prodS s).toNat
theorem placesTo_next (s : List Int) (n : Nat) : placesTo s (n + 1) = placesTo s n ++ [idxS s (n : Int)] := by
  unfold placesTo
  rw [List.range_succ, List.map_append]
  rfl
theorem places_mem {s : List Int} (hp : posS s) {xs : List Int} : xs ∈ places s ↔ inS s xs := by
  constructor
  · intro h
    obtain ⟨k, hk, rfl⟩ := List.mem_map.1 h
    have := List.mem_range.1 hk
    exact (place_idx hp (by omega) (by omega)).1
  · intro h
    obtain ⟨h0, h1⟩ := place_range h
    refine List.mem_map.2 ⟨(placeS s xs).toNat, List.mem_range.2 (by omega), ?_⟩
    rw [show (((placeS s xs).toNat : Nat) : Int) = placeS s xs by omega]
    exact idx_place h
theorem places_nodup {s : List Int} (hp : posS s) : (places s).Nodup := by
  unfold places placesTo List.Nodup
  rw [List.pairwise_map]
  refine List.Pairwise.imp_of_mem (fun {a b} ha hb h e => ?_) (List.pairwise_lt_range (n := (prodS s).toNat))
  have h1 := List.mem_range.1 ha
  have h2 := List.mem_range.1 hb
  have e1 := (place_idx hp (n := (a : Int)) (by omega) (by omega)).2
  have e2 := (place_idx hp (n := (b : Int)) (by omega) (by omega)).2
  rw [e, e2] at e1
  omega
theorem places_len (s : List Int) : (places s).length = (prodS s).toNat := by simp [places, placesTo]
def sumQ (f : List Int → Rat) : List (List Int) → Rat
  | [] => 0
  | x :: l => f x + sumQ f l
def sumN (f : List Int → Nat) : List (List Int) → Nat
  | [] => 0
  | x :: l => f x + sumN f l
theorem sumQ_snoc (f : List Int → Rat) (l : List (List Int)) (x : List Int) : sumQ f (l ++ [x]) = sumQ f l + f x := by
  induction l with
  | nil => simp only [List.nil_append, sumQ, Rat.add_zero, Rat.zero_add]
  | cons y l ih => simp only [List.cons_append, sumQ, ih, Rat.add_assoc]
theorem sumN_snoc (f : List Int → Nat) (l : List (List Int)) (x : List Int) : sumN f (l ++ [x]) = sumN f l + f x := by
  induction l with
  | nil => simp [sumN]
  | cons y l ih => simp only [List.cons_append, sumN, ih]; omega
theorem sumQ_perm {f : List Int → Rat} {l m : List (List Int)} (h : l.Perm m) : sumQ f l = sumQ f m := by
  induction h with
  | nil => rfl
  | cons x _ ih => simp only [sumQ]; rw [ih]
  | swap x y l => simp only [sumQ]; rw [← Rat.add_assoc, ← Rat.add_assoc, Rat.add_comm (f y)]
  | trans _ _ h1 h2 => exact h1.trans h2
theorem sumN_perm {f : List Int → Nat} {l m : List (List Int)} (h : l.Perm m) : sumN f l = sumN f m := by
  induction h with
  | nil => rfl
  | cons x _ ih => simp only [sumN]; rw [ih]
  | swap x y l => simp only [sumN]; omega
  | trans _ _ h1 h2 => exact h1.trans h2
theorem sumQ_congr {f g : List Int → Rat} {l : List (List Int)} (h : ∀ x ∈ l, f x = g x) : sumQ f l = sumQ g l := by
  induction l with
  | nil => rfl
  | cons x l ih => simp only [sumQ]; rw [h x List.mem_cons_self, ih fun y hy => h y (List.mem_cons_of_mem _ hy)]
theorem sumN_congr {f g : List Int → Nat} {l : List (List Int)} (h : ∀ x ∈ l, f x = g x) : sumN f l = sumN g l := by
  induction l with
  | nil => rfl
  | cons x l ih => simp only [sumN]; rw [h x List.mem_cons_self, ih fun y hy => h y (List.mem_cons_of_mem _ hy)]
theorem sumQ_zero {f : List Int → Rat} {l : List (List Int)} (h : ∀ x ∈ l, f x = 0) : sumQ f l = 0 := by
  induction l with
  | nil => rfl
  | cons x l ih => simp only [sumQ]; rw [h x List.mem_cons_self, ih fun y hy => h y (List.mem_cons_of_mem _ hy), Rat.zero_add]
theorem sumN_add (f g : List Int → Nat) (l : List (List Int)) : sumN (fun x => f x + g x + 1) l = sumN f l + sumN g l + l.length := by
  induction l with
  | nil => rfl
  | cons x l ih => simp only [sumN, ih, List.length_cons]; omega
/-- a sum over places is the one over the places that are moved there, where nothing else counts -/
theorem sumQ_image {A B : List (List Int)} {φ : List Int → List Int} {H : List Int → Rat} (hA : A.Nodup) (hB : B.Nodup) (hφ : ∀ x ∈ A, φ x ∈ B) (hi : ∀ x ∈ A, ∀ y ∈ A, φ x = φ y → x = y) (h0 : ∀ y ∈ B, (∀ x ∈ A, φ x ≠ y) → H y = 0) :
    sumQ H B = sumQ (fun x => H (φ x)) A := by
  induction A generalizing B with
  | nil => exact sumQ_zero fun y hy => h0 y hy (fun x hx => by cases hx)
  | cons x A ih =>
    have hx := hφ x List.mem_cons_self
    rw [List.nodup_cons] at hA
    rw [sumQ_perm (List.perm_cons_erase hx)]
    simp only [sumQ]
    rw [ih hA.2 (hB.erase _) (fun y hy => hB.mem_erase_iff.2 ⟨fun e => hA.1 (by rw [← hi y (List.mem_cons_of_mem _ hy) x List.mem_cons_self e]; exact hy), hφ y (List.mem_cons_of_mem _ hy)⟩)
      (fun y hy z hz => hi y (List.mem_cons_of_mem _ hy) z (List.mem_cons_of_mem _ hz)) (fun y hy hn => by
        obtain ⟨h1, h2⟩ := hB.mem_erase_iff.1 hy
        exact h0 y h2 fun z hz => by
          rcases List.mem_cons.1 hz with rfl | hz
          · exact fun e => h1 e.symm
          · exact hn z hz)]
theorem sumN_image {A B : List (List Int)} {φ : List Int → List Int} {H : List Int → Nat} (hA : A.Nodup) (hB : B.Nodup) (hφ : ∀ x ∈ A, φ x ∈ B) (hi : ∀ x ∈ A, ∀ y ∈ A, φ x = φ y → x = y) : sumN (fun x => H (φ x)) A ≤ sumN H B := by
  induction A generalizing B with
  | nil => exact Nat.zero_le _
  | cons x A ih =>
    have hx := hφ x List.mem_cons_self
    rw [List.nodup_cons] at hA
    rw [sumN_perm (List.perm_cons_erase hx)]
    simp only [sumN]
    have := ih hA.2 (hB.erase (φ x)) (fun y hy => hB.mem_erase_iff.2 ⟨fun e => hA.1 (by rw [← hi y (List.mem_cons_of_mem _ hy) x List.mem_cons_self e]; exact hy), hφ y (List.mem_cons_of_mem _ hy)⟩)
      (fun y hy z hz => hi y (List.mem_cons_of_mem _ hy) z (List.mem_cons_of_mem _ hz))
    omega
theorem sumN_image0 {A B : List (List Int)} {φ : List Int → List Int} {H : List Int → Nat} (hA : A.Nodup) (hB : B.Nodup) (hφ : ∀ x ∈ A, φ x ∈ B) (hi : ∀ x ∈ A, ∀ y ∈ A, φ x = φ y → x = y) (h0 : ∀ y ∈ B, (∀ x ∈ A, φ x ≠ y) → H y = 0) :
    sumN H B = sumN (fun x => H (φ x)) A := by
  induction A generalizing B with
  | nil =>
    have hz : ∀ y ∈ B, H y = 0 := fun y hy => h0 y hy (fun x hx => by cases hx)
    clear h0 hφ hB
    induction B with
    | nil => rfl
    | cons y B ih => simp only [sumN] at ih ⊢; rw [hz y List.mem_cons_self, ih fun z hz' => hz z (List.mem_cons_of_mem _ hz')]
  | cons x A ih =>
    have hx := hφ x List.mem_cons_self
    rw [List.nodup_cons] at hA
    rw [sumN_perm (List.perm_cons_erase hx)]
    simp only [sumN]
    rw [ih hA.2 (hB.erase _) (fun y hy => hB.mem_erase_iff.2 ⟨fun e => hA.1 (by rw [← hi y (List.mem_cons_of_mem _ hy) x List.mem_cons_self e]; exact hy), hφ y (List.mem_cons_of_mem _ hy)⟩)
      (fun y hy z hz => hi y (List.mem_cons_of_mem _ hy) z (List.mem_cons_of_mem _ hz)) (fun y hy hn => by
        obtain ⟨h1, h2⟩ := hB.mem_erase_iff.1 hy
        exact h0 y h2 fun z hz => by
          rcases List.mem_cons.1 hz with rfl | hz
          · exact fun e => h1 e.symm
          · exact hn z hz)]
theorem IsPerm.twice9 {p : List Int} (h : IsPerm p) : invL (invL p) = p := by
  apply List.ext_getElem
  · rw [invL_length, invL_length]
  · intro i h1 h2
    have hi : i < (invL p).length := by rw [invL_length]; exact h2
    rw [← getD_elem h1, ← getD_elem h2, invL_at (invL p) hi]
    obtain ⟨h3, h4⟩ := h.back h2
    have hlt : (p.getD i 0).toNat < (invL p).length := by rw [invL_length]; omega
    rw [getD_elem hlt] at h4
    rw [← h4, h.inv.nodup.idxOf_getElem]
    omega
/-- transposing moves the places of the one shape onto those of the other -/
theorem tr_places {s p : List Int} (hp : IsPerm p) (hl : p.length = s.length) (ok : OkS s) : (∀ ys ∈ places (trS s p), trI p ys ∈ places s) ∧ (∀ x ∈ places (trS s p), ∀ y ∈ places (trS s p), trI p x = trI p y → x = y) ∧
    (∀ xs ∈ places s, ∃ ys ∈ places (trS s p), trI p ys = xs) ∧ ∀ ys ∈ places (trS s p), trI (invL p) (trI p ys) = ys := by
  have okP := (trS_ok hp hl ok).1
  have hbk : ∀ ys ∈ places (trS s p), trI (invL p) (trI p ys) = ys := fun ys hy => by
    have h := inS_length ((places_mem okP.pos).1 hy)
    rw [trS_len] at h
    have := trI_back hp.inv (xs := ys) (by rw [invL_length]; exact h)
    rw [hp.twice9] at this
    exact this
  refine ⟨fun ys hy => (places_mem ok.pos).2 (trI_in hp hl ((places_mem okP.pos).1 hy)), fun x hx y hy e => ?_, fun xs hx => ⟨trI (invL p) xs, (places_mem okP.pos).2 ?_, ?_⟩, hbk⟩
  · rw [← hbk x hx, e, hbk y hy]
  · have hx2 := (places_mem ok.pos).1 hx
    exact trI_in (s := trS s p) hp.inv (by rw [invL_length, trS_len]) (by rw [trS_back hp hl]; exact hx2)
  · exact trI_back hp (by rw [inS_length ((places_mem ok.pos).1 hx), hl])
/-- where a place stands within what is padded -/
def upL (s t xs : List Int) : List Int := (List.range (pdS s t).length).map fun i : Nat => IntKind.i64.wrap (xs.getD i 0 + fstP (inL s t) i)
def downL (s t ys : List Int) : List Int := (List.range s.length).map fun i : Nat => IntKind.i64.wrap (ys.getD i 0 - fstP t i)
theorem pd_places {s t : List Int} (ok : OkS s) (h : pdC s t = 0) : (∀ xs ∈ places s, upL s t xs ∈ places (pdS s t)) ∧ (∀ xs ∈ places s, downL s t (upL s t xs) = xs) ∧ ∀ ys ∈ places (pdS s t), inS s (downL s t ys) → upL s t (downL s t ys) = ys := by
  obtain ⟨h1, okP, h3⟩ := pdC_is h
  have key : ∀ xs, inS s xs → ∀ i, i < s.length → (upL s t xs).getD i 0 = xs.getD i 0 + fstP t i := fun xs hx i hi => by
    have e1 := inS_at hx hi
    have e2 := pd_small h ok hi
    have e3 := h3 i hi
    have e4 := getD_le_prod okP.pos (k := i) (by rw [pdS_len]; exact hi)
    have e5 := okP.few
    unfold upL
    rw [getD_map_range _ (by rw [pdS_len]; exact hi), inL_fst hi]
    exact wrap_i64 (by omega) (by omega)
  have dn : ∀ ys, inS (pdS s t) ys → ∀ i, i < s.length → (downL s t ys).getD i 0 = ys.getD i 0 - fstP t i := fun ys hy i hi => by
    have e1 := inS_at hy (i := i) (by rw [pdS_len]; exact hi)
    have e2 := pd_small h ok hi
    have e3 := h3 i hi
    have e4 := getD_le_prod okP.pos (k := i) (by rw [pdS_len]; exact hi)
    have e5 := okP.few
    unfold downL
    rw [getD_map_range _ hi]
    exact wrap_i64 (by omega) (by omega)
  have ul : ∀ xs, (upL s t xs).length = s.length := fun xs => by unfold upL; rw [List.length_map, List.length_range, pdS_len]
  have dl : ∀ ys, (downL s t ys).length = s.length := fun ys => by unfold downL; rw [List.length_map, List.length_range]
  have up : ∀ xs, inS s xs → inS (pdS s t) (upL s t xs) := fun xs hx => inS_of (by rw [ul, pdS_len]) fun i hi => by
    rw [pdS_len] at hi
    have e1 := inS_at hx hi
    have e2 := pd_small h ok hi
    have e3 := h3 i hi
    rw [key xs hx i hi]
    omega
  refine ⟨fun xs hx => (places_mem okP.pos).2 (up xs ((places_mem ok.pos).1 hx)), fun xs hx => ?_, fun ys hy hd => ?_⟩
  · have hx2 := (places_mem ok.pos).1 hx
    refine list_eq_getD (by rw [dl, inS_length hx2]) fun i hi => ?_
    rw [dl] at hi
    rw [dn _ (up xs hx2) i hi, key xs hx2 i hi]
    omega
  · have hy2 := (places_mem okP.pos).1 hy
    refine list_eq_getD (by rw [ul, inS_length hy2, pdS_len]) fun i hi => ?_
    rw [ul] at hi
    rw [key _ hd i hi, dn _ hy2 i hi]
    omega
end Go.Proofs.YtooglnhlhgmhdaaGreat
