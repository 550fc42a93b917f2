/-
  The cursor: Block.
-/
import Derived.Test.YtgjoiacgdgbcjaaWMeth
namespace Go.Proofs.Ytgjoiacgdgbcjaa
open Go.RowKit
set_option linter.unusedVariables false
set_option linter.unusedSimpArgs false

def blkB (l : List Int) (most : Int) : List Int := if blockC l most = 0 then blockB l else []
def blkP (l : List Int) (p : Nat) (most : Int) : Nat := if blockC l most = 0 then p + lead l + 1 + (getV l).toNat else p

theorem within_any (most : Int) (w : World) : Calls Try.prog 53 #[.int .i64 most] w fun e w' => e = .returned (.func (.func 56) #[] #[.pointer (some ⟨w.heap.size, 0, none⟩)]) ∧ w' = w.alloc (.cells #[.int .i64 most] 3) := by
  have hmf := hmfW
  go_enter Try.func53, Try.ntmps53
  go_wp2
  go_ret
  exact ⟨rfl, rfl⟩
set_option maxRecDepth 100000 in
theorem within1_any {km : Nat} {w : World} (n most : Int) (R : RowB w km 3 #[.int .i64 most]) (h0 : 0 ≤ n) (h1 : n < 18446744073709551616) (m0 : -9223372036854775808 ≤ most) (m1 : most ≤ 9223372036854775807) :
    Calls Try.prog 56 #[.int .u64 n, .pointer (some ⟨km, 0, none⟩)] w fun e w' => e = .returned (if 0 < n ∧ (most < 0 ∨ most < n) then .tuple #[.int .i64 0, .int .i64 14] else .tuple #[.int .i64 n, .int .i64 0]) ∧ w = w' := by
  have a0 := R.cell 0
  simp only [List.getElem?_toArray, List.getElem?_cons_zero, List.getElem?_cons_succ] at a0
  clear R
  by_cases hneg : most < 0
  · have hmx : max most 0 = 0 := by omega
    by_cases hp : 0 < n
    · rw [if_pos ⟨hp, .inl hneg⟩]
      go_enter Try.func56, Try.ntmps56
      go_wp2
      all_goals (go_ret2; exact ⟨rfl, rfl⟩)
    · obtain rfl : n = 0 := by omega
      rw [if_neg (fun h => hp h.1)]
      clear hp h0 h1
      go_enter Try.func56, Try.ntmps56
      go_wp2
      all_goals (go_ret2; exact ⟨rfl, rfl⟩)
  · have hmx : max most 0 = most := by omega
    have hwm : IntKind.u64.wrap most = most := IntWalk.u64_in _ (by omega)
    by_cases hp : most < n
    · rw [if_pos ⟨by omega, .inr hp⟩]
      go_enter Try.func56, Try.ntmps56
      go_wp2
      all_goals (go_ret2; exact ⟨rfl, rfl⟩)
    · rw [if_neg (fun h => h.2.elim hneg hp)]
      have hwn : IntKind.i64.wrap n = n := IntWalk.i64_in _ (by omega)
      go_enter Try.func56, Try.ntmps56
      go_wp2
      all_goals (go_ret2; exact ⟨rfl, rfl⟩)

theorem makeS_any (fn1 fn2 : Fn) (x1 y1 x2 y2 : Array Value) (w : World) :
    Calls Try.prog 52 #[.func fn1 x1 y1, .func fn2 x2 y2] w fun e w' => e = .returned (.func (.func 55) #[] #[.pointer (some ⟨w.heap.size, 0, none⟩), .pointer (some ⟨w.heap.size + 1, 0, none⟩)]) ∧ w' = (w.alloc (.cells #[.func fn1 x1 y1] 37)).alloc (.cells #[.func fn2 x2 y2] 74) := by
  have hmf := hmfW
  go_enter Try.func52, Try.ntmps52
  go_wp2
  go_ret
  exact ⟨rfl, rfl⟩

/-- a size, and why there is none -/
def sizC (l : List Int) (most : Int) : Int := if getC l ≠ 0 then getC l else if (0 < getV l ∧ (most < 0 ∨ most < getV l)) then 14 else 0
def sizV (l : List Int) (most : Int) : Int := if sizC l most = 0 then getV l else 0
set_option maxRecDepth 100000 in
set_option maxHeartbeats 1000000 in
theorem convS_any {base g p ka kb km : Nat} {w : World} {b : List Int} {most : Int} (C : Cur base w g b p) (ra : RowB w ka 37 #[.func (.func 36) #[.pointer (some ⟨g, 0, none⟩)] #[]]) (rb : RowB w kb 74 #[.func (.func 56) #[] #[.pointer (some ⟨km, 0, none⟩)]]) (rm : RowB w km 3 #[.int .i64 most]) (hb : kb ≠ g) (hm : km ≠ g) (m0 : -9223372036854775808 ≤ most) (m1 : most ≤ 9223372036854775807) :
    Calls Try.prog 55 #[.pointer (some ⟨ka, 0, none⟩), .pointer (some ⟨kb, 0, none⟩)] w fun e w' => e = .returned (.tuple #[.int .i64 (sizV (b.drop p) most), .int .i64 (sizC (b.drop p) most)]) ∧ (∃ q, Cur base w' g b q ∧ (sizC (b.drop p) most = 0 → q = p + lead (b.drop p) + 1)) ∧ KeptC g w w' := by
  have hn := numberC_any C
  have hr := numV_range (C.facts.2.2.1.drop p)
  obtain ⟨l, hl⟩ : ∃ l, b.drop p = l := ⟨_, rfl⟩
  rw [hl] at hn hr ⊢
  have a0 := ra.cell 0
  simp only [List.getElem?_toArray, List.getElem?_cons_zero, List.getElem?_cons_succ] at a0
  have HB := Lib.hid rb
  have HM := Lib.hid rm
  clear rb rm ra C hl
  by_cases h0 : getC l = 0
  · have hv : numV l = getV l := by unfold numV; rw [if_pos h0]
    have hsc : sizC l most = if (0 < getV l ∧ (most < 0 ∨ most < getV l)) then 14 else 0 := by unfold sizC; rw [if_neg (by rw [h0]; simp)]
    have hsv : sizV l most = if (0 < getV l ∧ (most < 0 ∨ most < getV l)) then 0 else getV l := by
      unfold sizV
      rw [hsc]
      by_cases h : (0 < getV l ∧ (most < 0 ∨ most < getV l))
      · rw [if_pos h, if_neg (by decide), if_pos h]
      · rw [if_neg h, if_pos rfl, if_neg h]
    rw [hv, h0] at hn
    rw [hv] at hr
    rw [hsc, hsv]
    obtain ⟨x, hx⟩ : ∃ x, getV l = x := ⟨_, rfl⟩
    obtain ⟨q0, hq0⟩ : ∃ q : Nat, p + lead l + 1 = q := ⟨_, rfl⟩
    rw [hx, hq0] at hn
    rw [hx] at hr ⊢
    rw [hq0]
    clear hv hsc hsv hx hq0 h0
    by_cases ho : 0 < x ∧ (most < 0 ∨ most < x)
    · rw [if_pos ho, if_pos ho]
      have hw := fun W R => within1_any (km := km) (w := W) x most R hr.1 hr.2 m0 m1
      simp only [if_pos ho] at hw
      clear ho
      go_enter Try.func55, Try.ntmps55
      go_wp2_with fail
      refine hn.mono ?_
      rintro e w1 ⟨rfl, ⟨q, C1, _⟩, k1⟩
      have b0 := (HB.out.kept k1 hb).cell 0
      simp only [List.getElem?_toArray, List.getElem?_cons_zero, List.getElem?_cons_succ] at b0
      have rm1 := HM.out.kept k1 hm
      clear hn a0
      go_wp2_with (go_at_call 56; refine (hw _ rm1).mono ?_; rintro e w2 ⟨rfl, rfl⟩)
      go_ret2
      exact ⟨rfl, ⟨q, C1, fun h => by cases h⟩, k1⟩
    · rw [if_neg ho, if_neg ho]
      have hw := fun W R => within1_any (km := km) (w := W) x most R hr.1 hr.2 m0 m1
      simp only [if_neg ho] at hw
      clear ho
      go_enter Try.func55, Try.ntmps55
      go_wp2_with fail
      refine hn.mono ?_
      rintro e w1 ⟨rfl, ⟨q, C1, hq⟩, k1⟩
      have b0 := (HB.out.kept k1 hb).cell 0
      simp only [List.getElem?_toArray, List.getElem?_cons_zero, List.getElem?_cons_succ] at b0
      have rm1 := HM.out.kept k1 hm
      clear hn a0
      obtain rfl := hq (by trivial)
      clear hq
      go_wp2_with (go_at_call 56; refine (hw _ rm1).mono ?_; rintro e w2 ⟨rfl, rfl⟩)
      go_ret2
      first | exact ⟨rfl, C1, k1⟩ | exact ⟨rfl, ⟨_, C1, fun _ => rfl⟩, k1⟩
  · have hv : numV l = 0 := by unfold numV; rw [if_neg h0]
    have hsc : sizC l most = getC l := by unfold sizC; rw [if_pos h0]
    have hsv : sizV l most = 0 := by unfold sizV; rw [hsc, if_neg h0]
    rw [hv] at hn
    rw [hsc, hsv]
    obtain ⟨c, hc⟩ : ∃ c, getC l = c := ⟨_, rfl⟩
    rw [hc] at hn h0 ⊢
    have hne : (c != 0) = true := by simpa using h0
    have H0 := Lib.hid h0
    clear hv hsc hsv hc h0
    go_enter Try.func55, Try.ntmps55
    go_wp2_with fail
    refine hn.mono ?_
    rintro e w1 ⟨rfl, ⟨q, C1, _⟩, k1⟩
    clear hn a0
    go_wp2
    go_ret2
    exact ⟨rfl, ⟨q, C1, fun h => absurd h H0.out⟩, k1⟩

theorem blkC_siz {l : List Int} {most : Int} (h : sizC l most ≠ 0) : blockC l most = sizC l most := by
  unfold sizC at h ⊢
  by_cases h0 : getC l = 0
  · rw [if_neg (by rw [h0]; simp)] at h ⊢
    by_cases ho : 0 < getV l ∧ (most < 0 ∨ most < getV l)
    · rw [if_pos ho, blockC_limit h0 ho]
    · rw [if_neg ho] at h; exact absurd rfl h
  · rw [if_pos h0, blockC_get h0]
theorem blkC_take {l m : List Int} {most : Int} (h : sizC l most = 0) (hm : m = l.drop (lead l + 1)) (hv : 0 ≤ getV l) : blockC l most = takeC m (getV l) ∧ blkB l most = takeB m (getV l) ∧ getC l = 0 ∧ ¬ (0 < getV l ∧ (most < 0 ∨ most < getV l)) := by
  have h0 : getC l = 0 := by
    unfold sizC at h
    by_cases h0 : getC l = 0
    · exact h0
    · rw [if_pos h0] at h; exact absurd h h0
  have ho : ¬ (0 < getV l ∧ (most < 0 ∨ most < getV l)) := by
    intro ho
    unfold sizC at h
    rw [if_neg (by rw [h0]; simp), if_pos ho] at h
    exact absurd h (by decide)
  have hml : m.length = l.length - (lead l + 1) := by rw [hm, List.length_drop]
  have hc : blockC l most = takeC m (getV l) := by
    unfold takeC
    rw [if_neg (by omega), hml]
    by_cases hs : ((l.length - (lead l + 1) : Nat) : Int) < getV l
    · rw [if_pos hs, blockC_short h0 ho hs]
    · rw [if_neg hs, blockC_ok h0 ho hs]
  refine ⟨hc, ?_, h0, ho⟩
  unfold blkB takeB blockB
  rw [hc, hm]

set_option maxRecDepth 100000 in
set_option maxHeartbeats 2000000 in
theorem blockW_any {base g p : Nat} {w : World} {b : List Int} (most : Int) (C : Cur base w g b p) (m0 : -9223372036854775808 ≤ most) (m1 : most ≤ 9223372036854775807) :
    Calls Try.prog 42 #[.pointer (some ⟨g, 0, none⟩), .int .i64 most] w fun e w' => ∃ r, e = .returned (.tuple #[r, .int .i64 (blockC (b.drop p) most)]) ∧ ResB w.heap.size w' r (blkB (b.drop p) most) ∧ (∃ q, Cur base w' g b q ∧ (blockC (b.drop p) most = 0 → q = blkP (b.drop p) p most)) ∧ KeptC g w w' := by
  have hmf := hmfW
  have hglt := C.facts.2.1
  have hr := numV_range (C.facts.2.2.1.drop p)
  have h1 := within_any most w
  have h2 := makeS_any (.func 36) (.func 56) #[.pointer (some ⟨g, 0, none⟩)] #[] #[] #[.pointer (some ⟨w.heap.size, 0, none⟩)] (w.alloc (.cells #[.int .i64 most] 3))
  have s1 : (w.alloc (.cells #[.int .i64 most] 3)).heap.size = w.heap.size + 1 := by simp
  have s2 : ((w.alloc (.cells #[.int .i64 most] 3)).alloc (.cells #[.func (.func 36) #[.pointer (some ⟨g, 0, none⟩)] #[]] 37)).heap.size = w.heap.size + 1 + 1 := by simp
  rw [s1] at h2
  obtain ⟨W2, hW2⟩ : ∃ W2, ((w.alloc (.cells #[.int .i64 most] 3)).alloc (.cells #[.func (.func 36) #[.pointer (some ⟨g, 0, none⟩)] #[]] 37)).alloc (.cells #[.func (.func 56) #[] #[.pointer (some ⟨w.heap.size, 0, none⟩)]] 74) = W2 := ⟨_, rfl⟩
  have rm : RowB W2 w.heap.size 3 #[.int .i64 most] := by rw [← hW2]; exact ((RowB.new _ _ _).alloc _).alloc _
  have ra : RowB W2 (w.heap.size + 1) 37 #[.func (.func 36) #[.pointer (some ⟨g, 0, none⟩)] #[]] := by rw [← hW2, ← s1]; exact (RowB.new _ _ _).alloc _
  have rb : RowB W2 (w.heap.size + 1 + 1) 74 #[.func (.func 56) #[] #[.pointer (some ⟨w.heap.size, 0, none⟩)]] := by rw [← hW2, ← s2]; exact RowB.new _ _ _
  have hb2 : Below w.heap.size w W2 := by rw [← hW2]; exact (((Below.refl _ w).alloc (Nat.le_refl _) _).alloc (by simp) _).alloc (by simp; omega) _
  have hS2 : w.heap.size ≤ W2.heap.size := hb2.size
  rw [hW2] at h2
  have C2 := C.later hb2
  have hcv := convS_any C2 ra rb rm (by omega) (by omega) m0 m1
  have hK := KeptC.ofBelow g hb2
  have HK := Lib.hid hK
  have HS := Lib.hid hS2
  have hdl : ∀ q, q = p + lead (b.drop p) + 1 → b.drop q = (b.drop p).drop (lead (b.drop p) + 1) := fun q hq => by rw [hq, List.drop_drop, Nat.add_assoc]
  have HD := Lib.hid hdl
  obtain ⟨l, hl⟩ : ∃ l, b.drop p = l := ⟨_, rfl⟩
  rw [hl] at hcv hr ⊢
  have HL := Lib.hid hl
  clear C hW2 s1 s2 ra rb rm C2 hb2 hK hS2 hglt hdl hl
  by_cases h0 : sizC l most = 0
  · have hv : 0 ≤ getV l ∧ getV l < 18446744073709551616 := by
      have hg : getC l = 0 := by
        unfold sizC at h0
        by_cases h : getC l = 0
        · exact h
        · rw [if_pos h] at h0; exact absurd h0 h
      unfold numV at hr
      rw [if_pos hg] at hr
      exact hr
    have hsv : sizV l most = getV l := by unfold sizV; rw [if_pos h0]
    obtain ⟨k1, k2, k3, k4⟩ := blkC_take h0 rfl hv.1
    have hbp : blkP l p most = p + lead l + 1 + (if takeC (l.drop (lead l + 1)) (getV l) = 0 then (getV l).toNat else 0) ∨ blockC l most ≠ 0 := by
      by_cases h : blockC l most = 0
      · left
        unfold blkP
        rw [if_pos h, if_pos (by rw [← k1]; exact h)]
      · exact .inr h
    have hlen : takeC (l.drop (lead l + 1)) (getV l) = 0 → (takeB (l.drop (lead l + 1)) (getV l)).length = (getV l).toNat := fun h => by
      unfold takeB
      rw [if_pos h, List.length_take]
      unfold takeC at h
      split at h
      · cases h
      · split at h
        · cases h
        · omega
    have hvm : getV l ≤ 9223372036854775807 := by
      rcases Int.lt_or_le 0 (getV l) with g1 | g1
      · have : ¬ (most < 0 ∨ most < getV l) := fun h => k4 ⟨g1, h⟩
        omega
      · omega
    rw [hsv, h0] at hcv
    rw [k1, k2]
    have HP := Lib.hid hbp
    have HN := Lib.hid hlen
    have HK1 := Lib.hid k1
    obtain ⟨x, hx⟩ : ∃ x, getV l = x := ⟨_, rfl⟩
    obtain ⟨q0, hq0⟩ : ∃ q : Nat, p + lead l + 1 = q := ⟨_, rfl⟩
    obtain ⟨m, hm⟩ : ∃ m, l.drop (lead l + 1) = m := ⟨_, rfl⟩
    obtain ⟨bp, hbp2⟩ : ∃ q : Nat, blkP l p most = q := ⟨_, rfl⟩
    have hbd : b.drop q0 = m := by rw [HD.out q0 (by rw [HL.out]; exact hq0.symm), HL.out]; exact hm
    rw [hx, hq0] at hcv
    rw [hx] at hv hvm
    rw [hx, hm, hbp2]
    have HX := Lib.hid hx
    have HQ0 := Lib.hid hq0
    have HM := Lib.hid hm
    have HBP := Lib.hid hbp2
    have HBD := Lib.hid hbd
    obtain ⟨c, hc⟩ : ∃ c, takeC m x = c := ⟨_, rfl⟩
    obtain ⟨ys, hys⟩ : ∃ ys, takeB m x = ys := ⟨_, rfl⟩
    rw [hc, hys]
    have HC := Lib.hid hc
    have HY := Lib.hid hys
    clear hx hq0 hm hbp2 hbd hc hys hbp hlen k1 k2 k3 k4 h0 hsv hr
    go_enter Try.func42, Try.ntmps42
    go_wp2_with fail
    refine h1.mono ?_
    rintro e w1 ⟨rfl, rfl⟩
    clear h1
    go_wp2_with fail
    refine h2.mono ?_
    rintro e w2 ⟨rfl, rfl⟩
    clear h2
    go_wp2_with fail
    refine hcv.mono ?_
    rintro e w3 ⟨rfl, ⟨q, C3, hq⟩, k3⟩
    obtain rfl := hq (by trivial)
    clear hcv hq
    have ht := takeW_any x C3 (by omega) hvm
    rw [HBD.out, HC.out, HY.out] at ht
    have HS3 := Lib.hid k3.size
    have HK3 := Lib.hid k3
    clear C3 k3
    go_wp2_with fail
    refine ht.mono ?_
    rintro e w4 ⟨r, rfl, N4, C4, k4⟩
    clear ht
    go_wp2
    go_ret2
    refine ⟨_, rfl, N4.mono (Nat.le_trans HS.out HS3.out), ⟨_, C4, fun h => ?_⟩, (HK.out.trans HK3.out).trans k4⟩
    subst h
    have e1 := HN.out (by rw [HM.out, HX.out]; exact HC.out)
    rw [HM.out, HX.out, HY.out] at e1
    rcases HP.out with e2 | e2
    · rw [HBP.out, HM.out, HX.out, if_pos HC.out, HQ0.out] at e2
      rw [e2, e1]
    · exact absurd (HK1.out.trans (by rw [HM.out, HX.out]; exact HC.out)) e2
  · have hbc := blkC_siz h0
    have hbb : blkB l most = [] := by unfold blkB; rw [if_neg (by rw [hbc]; exact h0)]
    have hsv : sizV l most = 0 := by unfold sizV; rw [if_neg h0]
    rw [hsv] at hcv
    rw [hbc, hbb]
    obtain ⟨c, hc⟩ : ∃ c, sizC l most = c := ⟨_, rfl⟩
    rw [hc] at hcv h0 ⊢
    have hne : (c != 0) = true := by simpa using h0
    have H0 := Lib.hid h0
    clear hbc hbb hsv hc h0 hr
    go_enter Try.func42, Try.ntmps42
    go_wp2_with fail
    refine h1.mono ?_
    rintro e w1 ⟨rfl, rfl⟩
    clear h1
    go_wp2_with fail
    refine h2.mono ?_
    rintro e w2 ⟨rfl, rfl⟩
    clear h2
    go_wp2_with fail
    refine hcv.mono ?_
    rintro e w3 ⟨rfl, ⟨q, C3, hq⟩, k3⟩
    clear hcv hq
    go_wp2
    go_ret2
    exact ⟨_, rfl, ResB.nil _ _, ⟨q, C3, fun h => absurd h H0.out⟩, HK.out.trans k3⟩

/-- Block's closure -/
theorem block41_any {base g p ka kb : Nat} {w : World} {b : List Int} {n : Int} (C : Cur base w g b p) (h0 : -9223372036854775808 ≤ n) (h1 : n ≤ 9223372036854775807) (ra : RowB w ka 33 #[.pointer (some ⟨g, 0, none⟩)]) (rb : RowB w kb 3 #[.int .i64 n]) :
    Calls Try.prog 41 #[.pointer (some ⟨ka, 0, none⟩), .pointer (some ⟨kb, 0, none⟩)] w fun e w' => ∃ r, e = .returned (.tuple #[r, .int .i64 (blockC (b.drop p) n)]) ∧ ResB w.heap.size w' r (blkB (b.drop p) n) ∧ (∃ q, Cur base w' g b q ∧ (blockC (b.drop p) n = 0 → q = blkP (b.drop p) p n)) ∧ KeptC g w w' := by
  have ht := blockW_any n C h0 h1
  have a0 := ra.cell 0
  have b0 := rb.cell 0
  simp only [List.getElem?_toArray, List.getElem?_cons_zero, List.getElem?_cons_succ] at a0 b0
  obtain ⟨c, hc⟩ : ∃ c : Int, blockC (b.drop p) n = c := ⟨_, rfl⟩
  obtain ⟨ys, hys⟩ : ∃ ys, blkB (b.drop p) n = ys := ⟨_, rfl⟩
  obtain ⟨q0, hq0⟩ : ∃ q, blkP (b.drop p) p n = q := ⟨_, rfl⟩
  rw [hc, hys, hq0] at ht ⊢
  clear hc hys hq0 C ra rb
  go_enter Try.func41, Try.ntmps41
  go_wp2_with fail
  refine ht.mono ?_
  rintro e w1 ⟨r, rfl, N1, C1, k1⟩
  clear ht
  go_wp2
  go_ret2
  exact ⟨_, rfl, N1, C1, k1⟩

theorem blkP_eq (l : List Int) (p : Nat) (n : Int) : (if blockC l n = 0 then blkP l p n else p) = blkP l p n := by
  by_cases h : blockC l n = 0
  · rw [if_pos h]
  · rw [if_neg h]; unfold blkP; rw [if_neg h]
set_option maxRecDepth 100000 in
set_option maxHeartbeats 1000000 in
theorem blockC_any {base g p : Nat} {w : World} {b : List Int} (n : Int) (C : Cur base w g b p) (h0 : -9223372036854775808 ≤ n) (h1 : n ≤ 9223372036854775807) :
    Calls Try.prog 21 #[.pointer (some ⟨g, 0, none⟩), .int .i64 n] w fun e w' => ∃ r, e = .returned (.tuple #[r, .int .i64 (blockC (b.drop p) n)]) ∧ ResB w.heap.size w' r (blkB (b.drop p) n) ∧ Cur base w' g b (blkP (b.drop p) p n) ∧ KeptC g w w' := by
  have hmf := hmfW
  obtain ⟨W2, hW2⟩ : ∃ W2, (w.alloc (.cells #[.pointer (some ⟨g, 0, none⟩)] 33)).alloc (.cells #[.int .i64 n] 3) = W2 := ⟨_, rfl⟩
  have s1 : (w.alloc (.cells #[.pointer (some ⟨g, 0, none⟩)] 33)).heap.size = w.heap.size + 1 := by simp
  have ra : RowB W2 w.heap.size 33 #[.pointer (some ⟨g, 0, none⟩)] := by rw [← hW2]; exact (RowB.new _ _ _).alloc _
  have rb : RowB W2 (w.heap.size + 1) 3 #[.int .i64 n] := by rw [← hW2, ← s1]; exact RowB.new _ _ _
  have hb2 : Below w.heap.size w W2 := by rw [← hW2]; exact ((Below.refl _ w).alloc (Nat.le_refl _) _).alloc (by simp) _
  have s2 : W2.heap.size = w.heap.size + 2 := by rw [← hW2]; simp
  have C2 := C.later hb2
  have hg := blockG_any (ka := w.heap.size) (kb := w.heap.size + 1) C2 (blockC (b.drop p) n) (blkP (b.drop p) p n) (fun W r => ResB (W2.heap.size + 3) W r (blkB (b.drop p) n)) (fun _ _ _ _ hq h k => h.keptC k hq) (fun W hb hs => (block41_any (C2.later hb) h0 h1 (ra.later hb) (rb.later hb)).mono fun e w' h => by
    obtain ⟨r, e1, e2, e3, e4⟩ := h
    exact ⟨r, e1, by rw [hs] at e2; exact e2, e3, e4⟩)
  rw [blkP_eq] at hg
  obtain ⟨c, hc⟩ : ∃ c : Int, blockC (b.drop p) n = c := ⟨_, rfl⟩
  obtain ⟨ys, hys⟩ : ∃ ys, blkB (b.drop p) n = ys := ⟨_, rfl⟩
  obtain ⟨q0, hq0⟩ : ∃ q, blkP (b.drop p) p n = q := ⟨_, rfl⟩
  rw [hc, hys, hq0] at hg ⊢
  have hK := KeptC.ofBelow g hb2
  have HK := Lib.hid hK
  have hS := Nat.le_of_lt (show w.heap.size < W2.heap.size + 3 by omega)
  have HS := Lib.hid hS
  subst hW2
  clear hc hys hq0 C s1 ra rb C2 hb2 hK hS s2
  go_enter Try.func21, Try.ntmps21
  go_wp2_with fail
  refine hg.mono ?_
  rintro e w3 ⟨r, rfl, N3, C3, k3⟩
  clear hg
  go_wp2
  go_ret2
  exact ⟨_, rfl, N3.mono HS.out, C3, HK.out.trans k3⟩
end Go.Proofs.Ytgjoiacgdgbcjaa
