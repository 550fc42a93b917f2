/-
  The reference of layer 5: Block.
-/
import Derived.Test.YtgjoiacgdgbcjaaWRefC
namespace Go.Proofs.Ytgjoiacgdgbcjaa
open Go.RowKit
set_option linter.unusedVariables false
set_option linter.unusedSimpArgs false

/-- why no block stands in front: 0, or an error -/
def blockC (l : List Int) (most : Int) : Int :=
  if getC l ≠ 0 then getC l else if 0 < getV l ∧ (most < 0 ∨ most < getV l) then 14 else if ((l.length - (lead l + 1) : Nat) : Int) < getV l then 3 else 0
theorem blockC_get {l : List Int} {most : Int} (h : getC l ≠ 0) : blockC l most = getC l := by unfold blockC; rw [if_pos h]
theorem blockC_limit {l : List Int} {most : Int} (h : getC l = 0) (h2 : 0 < getV l ∧ (most < 0 ∨ most < getV l)) : blockC l most = 14 := by unfold blockC; rw [if_neg (by rw [h]; simp), if_pos h2]
theorem blockC_short {l : List Int} {most : Int} (h : getC l = 0) (h2 : ¬ (0 < getV l ∧ (most < 0 ∨ most < getV l))) (h3 : ((l.length - (lead l + 1) : Nat) : Int) < getV l) : blockC l most = 3 := by unfold blockC; rw [if_neg (by rw [h]; simp), if_neg h2, if_pos h3]
theorem blockC_ok {l : List Int} {most : Int} (h : getC l = 0) (h2 : ¬ (0 < getV l ∧ (most < 0 ∨ most < getV l))) (h3 : ¬ ((l.length - (lead l + 1) : Nat) : Int) < getV l) : blockC l most = 0 := by unfold blockC; rw [if_neg (by rw [h]; simp), if_neg h2, if_neg h3]
/-- the bytes of the block in front -/
def blockB (l : List Int) : List Int := (l.drop (lead l + 1)).take (getV l).toNat
/-- what Block answers -/
def BlockA (w : World) (l : List Int) (p : Nat) (most : Int) (e : Ending) : Prop :=
  ∃ (r : Value) (nx : Int), e = .returned (.tuple #[r, .int .i64 nx, .int .i64 (blockC l most)]) ∧
    ((blockC l most ≠ 0 ∧ r = .slice none 0 0 ∧ nx = p) ∨ (blockC l most = 0 ∧ nx = (p : Int) + lead l + 1 + getV l ∧ ∃ ad cap, ArgB w r (blockB l) ad cap))
theorem BlockA.bad {w : World} {l : List Int} {p : Nat} {most c : Int} (h : blockC l most = c) (hc : c ≠ 0) : BlockA w l p most (.returned (.tuple #[.slice none 0 0, .int .i64 (p : Int), .int .i64 c])) :=
  ⟨_, _, by rw [h], .inl ⟨by rw [h]; exact hc, rfl, rfl⟩⟩

set_option maxRecDepth 100000 in
set_option maxHeartbeats 4000000 in
theorem blockB_any {u : Value} {xs : List Int} {a : Option Addr} {cap p : Nat} {most : Int} {w : World} (h1 : ArgB w u xs a cap) (hp : p ≤ xs.length) (hx : xs.length ≤ 140737488355328) (hm : -9223372036854775808 ≤ most ∧ most ≤ 9223372036854775807) :
    Calls Try.prog 29 #[u, .int .i64 (p : Int), .int .i64 most] w fun e w' => BlockA w (xs.drop p) p most e ∧ w = w' := by
  have hget := getB_any h1 hp hx
  obtain ⟨l, hl⟩ : ∃ l, xs.drop p = l := ⟨_, rfl⟩
  have hbl : Byt l := by rw [← hl]; exact h1.wf.drop p
  rw [hl] at hget ⊢
  obtain ⟨hm0, hm1⟩ := hm
  by_cases h0 : getC l = 0
  · rw [getA_ok h0] at hget
    obtain ⟨_, hv0, hv1, hlt, hl9⟩ := enc_get hbl h0
    obtain ⟨V, hV⟩ : ∃ V, getV l = V := ⟨_, rfl⟩
    obtain ⟨K, hK⟩ : ∃ K, lead l = K := ⟨_, rfl⟩
    rw [hV, hK] at hget
    rw [hV] at hv0 hv1
    rw [hK] at hlt hl9
    have hll : l.length = xs.length - p := by rw [← hl, List.length_drop]
    by_cases hlim : 0 < V ∧ (most < 0 ∨ most < V)
    · have HB := Lib.hid (BlockA.bad (w := w) (p := p) (blockC_limit (most := most) h0 (by rw [hV]; exact hlim)) (by decide))
      obtain ⟨hpos, hor⟩ := hlim
      obtain rfl := h1.is
      clear h0 hV hK hl hbl h1
      go_enter Try.func29, Try.ntmps29
      go_wp2_with fail
      refine hget.mono ?_
      rintro e w' ⟨rfl, rfl⟩
      clear hget
      by_cases hneg : most < 0
      · clear hor
        go_wp2
        exact bodyPost_ret (v := .tuple #[.slice none 0 0, .int .i64 (p : Int), .int .i64 14]) (by simp [results, Try.results29, go_sem]) rfl ⟨HB.out, rfl⟩
      · have hmv : most < V := by exact hor.resolve_left hneg
        have hge : 0 ≤ most := by omega
        have hwm : IntKind.u64.wrap most = most := IntWalk.u64_in _ (by omega)
        clear hor
        go_wp2
        exact bodyPost_ret (v := .tuple #[.slice none 0 0, .int .i64 (p : Int), .int .i64 14]) (by simp [results, Try.results29, go_sem]) rfl ⟨HB.out, rfl⟩
    · obtain ⟨R, hR⟩ : ∃ R, xs.length - (p + K + 1) = R := ⟨_, rfl⟩
      have hrest : ((l.length - (lead l + 1) : Nat) : Int) = (R : Int) := by rw [hK, hll]; omega
      have hA := h1
      obtain rfl := h1.is
      obtain ⟨L, hL⟩ : ∃ L, xs.length = L := ⟨_, rfl⟩
      have hwR : IntKind.u64.wrap (R : Int) = (R : Int) := IntWalk.u64_in _ (by omega)
      have hsub : IntKind.i64.wrap ((L : Int) - ((p : Int) + K + 1)) = (R : Int) := by
        rw [show (L : Int) - ((p : Int) + K + 1) = (R : Int) by omega]
        exact IntWalk.i64_in _ (by omega)
      have hsub2 : (L : Int) - ((p : Int) + K + 1) = (R : Int) := by omega
      by_cases hsh : (R : Int) < V
      · have HB := Lib.hid (BlockA.bad (w := w) (p := p) (blockC_short (most := most) h0 (by rw [hV]; exact hlim) (by rw [hrest, hV]; exact hsh)) (by decide))
        rw [hL] at hget ⊢
        clear h0 hV hK hl hbl hrest hA hL hR hll
        go_enter Try.func29, Try.ntmps29
        go_wp2_with fail
        refine hget.mono ?_
        rintro e w' ⟨rfl, rfl⟩
        clear hget
        have hVpos : 0 < V := by omega
        have hmn : ¬ most < 0 := fun g => hlim ⟨hVpos, .inl g⟩
        have hmV : ¬ most < V := fun g => hlim ⟨hVpos, .inr g⟩
        have hwm : IntKind.u64.wrap most = most := IntWalk.u64_in _ (by omega)
        clear hlim
        go_wp2
        exact bodyPost_ret (v := .tuple #[.slice none 0 0, .int .i64 (p : Int), .int .i64 3]) (by simp [results, Try.results29, go_sem]) rfl ⟨HB.out, rfl⟩
      · have hok := blockC_ok (most := most) h0 (by rw [hV]; exact hlim) (by rw [hrest, hV]; exact hsh)
        rcases hA.lim with e | ⟨b, off, rfl, hc⟩
        · have e0 : xs.length = 0 := by rw [e]; rfl
          omega
        obtain ⟨n, rfl⟩ : ∃ n : Nat, V = (n : Int) := ⟨V.toNat, by omega⟩
        obtain ⟨lo, hlo⟩ : ∃ lo, p + K + 1 = lo := ⟨_, rfl⟩
        have hloI : (p : Int) + K + 1 = (lo : Int) := by omega
        have hhi : lo + n ≤ L := by omega
        have hle := hA.le
        rw [hL] at hget hle ⊢
        rw [hloI] at hget hsub hsub2
        have hnR : (n : Int) ≤ (R : Int) := by omega
        have hhi2 : (lo : Int) + (n : Int) ≤ (cap : Int) := by omega
        have hmm : n = 0 ∨ (0 ≤ most ∧ (n : Int) ≤ most) := by
          rcases Nat.eq_zero_or_pos n with g | g
          · exact .inl g
          · exact .inr ⟨Int.not_lt.1 fun h => hlim ⟨by omega, .inl h⟩, Int.not_lt.1 fun h => hlim ⟨by omega, .inr h⟩⟩
        have hww : IntKind.u64.wrap most = most ∨ n = 0 := by
          rcases hmm with g | g
          · exact .inr g
          · exact .inl (IntWalk.u64_in _ (by omega))
        have hR2 : Hid (∀ ad cp, (ad = some ⟨b, off + lo, none⟩ ∨ n = 0) → n ≤ cp → BlockA w l p most (.returned (.tuple #[.slice ad n cp, .int .i64 ((lo : Int) + n), .int .i64 0]))) := by
          intro ad cp had hcp
          have hlen : (blockB l).length = n := by unfold blockB; rw [hV, hK, List.length_take, List.length_drop, hll]; omega
          refine ⟨_, _, by rw [hok], .inr ⟨hok, by rw [hK, hV]; omega, ad, cp, by rw [hlen], ?_, by omega, (hbl.drop _).take _⟩⟩
          rcases had with rfl | hn
          · refine .inr ⟨b, off + lo, rfl, fun i hi => ?_⟩
            rw [hlen] at hi
            rw [Nat.add_assoc, hc (lo + i) (by omega)]
            have e : (blockB l).getD i 0 = xs.getD (lo + i) 0 := by
              unfold blockB
              rw [hV, hK, ← hl, List.getD_eq_getElem?_getD, List.getElem?_take, if_pos (by omega), List.getElem?_drop, List.getElem?_drop, List.getD_eq_getElem?_getD, show p + (K + 1 + i) = lo + i by omega]
            rw [e]
          · exact .inl (List.eq_nil_of_length_eq_zero (by rw [hlen, hn]))
        have hn0 : (0 : Int) ≤ (n : Int) := by omega
        have hloB : (lo : Int) ≤ 140737488355328 := by omega
        have hRB : (R : Int) ≤ 140737488355328 := by omega
        have hnB : (n : Int) ≤ 140737488355328 := by omega
        have hloL : (lo : Int) ≤ (L : Int) := by omega
        have hloC : (lo : Int) ≤ (cap : Int) := by omega
        have hLC : (L : Int) ≤ (cap : Int) := by omega
        have hlo0 : (0 : Int) ≤ (lo : Int) := by omega
        have hwn : IntKind.i64.wrap (n : Int) = (n : Int) := IntWalk.i64_in _ (by omega)
        have hws : IntKind.i64.wrap ((lo : Int) + (n : Int)) = (lo : Int) + (n : Int) := IntWalk.i64_in _ (by omega)
        have hht : ((lo : Int) + (n : Int)).toNat = lo + n := by omega
        clear h0 hV hK hl hbl hrest hA hL hR hll hok hc hlim hwR hlo hloI
        go_enter Try.func29, Try.ntmps29
        go_wp2_with fail
        refine hget.mono ?_
        rintro e w' ⟨rfl, rfl⟩
        clear hget
        by_cases hnz : n = 0
        · subst hnz
          by_cases hcap : cap = lo
          · subst hcap
            have hE : BlockA w l p most (.returned (.tuple #[.slice (some ⟨b, off, none⟩) 0 0, .int .i64 (cap : Int), .int .i64 0])) := by simpa using hR2 (some ⟨b, off, none⟩) 0 (.inr rfl) (Nat.le_refl _)
            have HE := Lib.hid hE
            clear hE
            go_wp2
            exact bodyPost_ret (v := .tuple #[.slice (some ⟨b, off, none⟩) 0 0, .int .i64 (cap : Int), .int .i64 0]) (by simp [results, Try.results29, go_sem]) rfl ⟨HE.out, rfl⟩
          · have hE : BlockA w l p most (.returned (.tuple #[.slice (some ⟨b, off + lo, none⟩) 0 (cap - lo), .int .i64 (lo : Int), .int .i64 0])) := by simpa using hR2 (some ⟨b, off + lo, none⟩) (cap - lo) (.inl rfl) (by omega)
            have HE := Lib.hid hE
            clear hE
            go_wp2
            exact bodyPost_ret (v := .tuple #[.slice (some ⟨b, off + lo, none⟩) 0 (cap - lo), .int .i64 (lo : Int), .int .i64 0]) (by simp [results, Try.results29, go_sem]) rfl ⟨HE.out, rfl⟩
        · have hpos : (0 : Int) < (n : Int) := by omega
          obtain ⟨hm2, hm3⟩ := hmm.resolve_left hnz
          have HE := Lib.hid (hR2 (some ⟨b, off + lo, none⟩) (cap - lo) (.inl rfl) (by omega))
          have hwm := hww.resolve_right hnz
          have hcap : ¬ cap = lo := by omega
          have hmB : most ≤ 9223372036854775807 := hm1
          have hnm : ¬ most < 0 := by omega
          have hnV : ¬ most < (n : Int) := by omega
          clear hmm hww hv1 hv0 hm0 hm1 hx hsh hR2
          go_wp2
          exact bodyPost_ret (v := .tuple #[.slice (some ⟨b, off + lo, none⟩) n (cap - lo), .int .i64 ((lo : Int) + n), .int .i64 0]) (by simp [results, Try.results29, go_sem]) rfl ⟨HE.out, rfl⟩
  · have HB := Lib.hid (BlockA.bad (w := w) (p := p) (blockC_get (most := most) h0) h0)
    rw [getA_bad rfl h0] at hget
    obtain ⟨c, hc⟩ : ∃ c, getC l = c := ⟨_, rfl⟩
    have h0b : (c != 0) = true := by rw [← hc]; simpa using h0
    rw [hc] at hget
    have HC := Lib.hid hc
    obtain rfl := h1.is
    clear h0 hc h1
    go_enter Try.func29, Try.ntmps29
    go_wp2_with fail
    refine hget.mono ?_
    rintro e w' ⟨rfl, rfl⟩
    clear hget
    go_wp2
    exact bodyPost_ret (v := .tuple #[.slice none 0 0, .int .i64 (p : Int), .int .i64 c]) (by simp [results, Try.results29, go_sem]) rfl ⟨by have := HB.out; rw [HC.out] at this; exact this, rfl⟩
end Go.Proofs.Ytgjoiacgdgbcjaa
