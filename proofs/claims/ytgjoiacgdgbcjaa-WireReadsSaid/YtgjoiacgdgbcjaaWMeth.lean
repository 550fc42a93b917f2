/-
  The cursor's readers: Byte, Uvarint, Zigzag, Take.
-/
import Derived.Test.YtgjoiacgdgbcjaaWGuard
namespace Go.Proofs.Ytgjoiacgdgbcjaa
open Go.RowKit
set_option linter.unusedVariables false
set_option linter.unusedSimpArgs false

theorem hmfW : ∀ (fn : Fn) (first cap : Array Value) (w : World), (Instr.makeFunc fn first cap).run Try.prog w = .ok (.func fn first cap) w := fun _ _ _ _ => rfl

set_option maxRecDepth 100000 in
set_option maxHeartbeats 1000000 in
theorem byteC_any {base g p : Nat} {w : World} {b : List Int} (C : Cur base w g b p) :
    Calls Try.prog 26 #[.pointer (some ⟨g, 0, none⟩)] w fun e w' => e = .returned (.tuple #[.int .u8 (if p < b.length then b.getD p 0 else 0), .int .i64 (if p < b.length then 0 else 3)]) ∧ Cur base w' g b (if p < b.length then p + 1 else p) ∧ KeptC g w w' := by
  obtain ⟨x, hx⟩ : ∃ x : Int, (if p < b.length then b.getD p 0 else 0) = x := ⟨_, rfl⟩
  obtain ⟨c, hc⟩ : ∃ c : Int, (if p < b.length then (0 : Int) else 3) = c := ⟨_, rfl⟩
  obtain ⟨q, hq⟩ : ∃ q : Nat, (if p < b.length then p + 1 else p) = q := ⟨_, rfl⟩
  have hg := nextG_any C c q (fun W r => r = .int .u8 x) (fun _ _ _ _ _ h _ => h) (fun W hb hs => (nextC_any (C.later hb)).mono fun e w' h => by
    rw [hx, hc, hq] at h
    exact ⟨_, h.1, rfl, ⟨q, h.2.1, fun _ => rfl⟩, h.2.2⟩)
  have hfin : (if c = 0 then q else p) = q := by
    rw [← hc, ← hq]
    by_cases h : p < b.length
    · rw [if_pos h, if_pos rfl]
    · rw [if_neg h, if_neg h, if_neg (by decide)]
  rw [hfin] at hg
  rw [hx, hc, hq]
  have hmf := hmfW
  clear hx hc hq hfin C
  go_enter Try.func26, Try.ntmps26
  go_wp2_with fail
  refine hg.mono ?_
  rintro e w1 ⟨r, rfl, rfl, C1, k1⟩
  clear hg
  go_wp2
  go_ret2
  exact ⟨rfl, C1, k1⟩

theorem numP_eq (l : List Int) (p : Nat) : (if getC l = 0 then p + lead l + 1 else p) = numP l p := rfl
set_option maxRecDepth 100000 in
set_option maxHeartbeats 1000000 in
theorem uvarC_any {base g p : Nat} {w : World} {b : List Int} (C : Cur base w g b p) :
    Calls Try.prog 19 #[.pointer (some ⟨g, 0, none⟩)] w fun e w' => e = .returned (.tuple #[.int .u64 (numV (b.drop p)), .int .i64 (getC (b.drop p))]) ∧ Cur base w' g b (numP (b.drop p) p) ∧ KeptC g w w' := by
  have hg := numG_any C (getC (b.drop p)) (p + lead (b.drop p) + 1) (fun W r => r = .int .u64 (numV (b.drop p))) (fun _ _ _ _ _ h _ => h) (fun W hb hs => (numberC_any (C.later hb)).mono fun e w' h => ⟨_, h.1, rfl, h.2.1, h.2.2⟩)
  rw [numP_eq] at hg
  obtain ⟨x, hx⟩ : ∃ x : Int, numV (b.drop p) = x := ⟨_, rfl⟩
  obtain ⟨c, hc⟩ : ∃ c : Int, getC (b.drop p) = c := ⟨_, rfl⟩
  obtain ⟨q, hq⟩ : ∃ q : Nat, numP (b.drop p) p = q := ⟨_, rfl⟩
  rw [hx, hc, hq] at hg ⊢
  have hmf := hmfW
  clear hx hc hq C
  go_enter Try.func19, Try.ntmps19
  go_wp2_with fail
  refine hg.mono ?_
  rintro e w1 ⟨r, rfl, rfl, C1, k1⟩
  clear hg
  go_wp2
  go_ret2
  exact ⟨rfl, C1, k1⟩

theorem numV_range {l : List Int} (hl : Byt l) : 0 ≤ numV l ∧ numV l < 18446744073709551616 := by
  unfold numV
  by_cases h : getC l = 0
  · obtain ⟨_, h0, h1, _⟩ := enc_get hl h
    rw [if_pos h]
    exact ⟨h0, h1⟩
  · rw [if_neg h]; omega
/-- a closure that converts what number reads -/
theorem convI_any {base g p ka kb : Nat} {w : World} {b : List Int} (C : Cur base w g b p) (ra : RowB w ka 37 #[.func (.func 36) #[.pointer (some ⟨g, 0, none⟩)] #[]]) (rb : RowB w kb 64 #[.func (.func 39) #[] #[]]) (hb : kb ≠ g) :
    Calls Try.prog 50 #[.pointer (some ⟨ka, 0, none⟩), .pointer (some ⟨kb, 0, none⟩)] w fun e w' => e = .returned (.tuple #[.int .i64 (zag (numV (b.drop p))), .int .i64 (getC (b.drop p))]) ∧ (∃ q, Cur base w' g b q ∧ (getC (b.drop p) = 0 → q = p + lead (b.drop p) + 1)) ∧ KeptC g w w' := by
  have hn := numberC_any C
  have hr := numV_range (C.facts.2.2.1.drop p)
  have hz : getC (b.drop p) ≠ 0 → numV (b.drop p) = 0 := fun h => by unfold numV; rw [if_neg h]
  obtain ⟨x, hx⟩ : ∃ x : Int, numV (b.drop p) = x := ⟨_, rfl⟩
  obtain ⟨c, hc⟩ : ∃ c : Int, getC (b.drop p) = c := ⟨_, rfl⟩
  obtain ⟨q0, hq0⟩ : ∃ q : Nat, p + lead (b.drop p) + 1 = q := ⟨_, rfl⟩
  rw [hx, hc, hq0] at hn ⊢
  rw [hx] at hr
  rw [hx, hc] at hz
  obtain ⟨zx, hzx⟩ : ∃ z, zag x = z := ⟨_, rfl⟩
  have hu := fun W => unzigzag_any x W hr.1 hr.2
  rw [hzx] at hu ⊢
  have a0 := ra.cell 0
  simp only [List.getElem?_toArray, List.getElem?_cons_zero, List.getElem?_cons_succ] at a0
  have HZX := Lib.hid hzx
  have HZ := Lib.hid hz
  have HB := Lib.hid rb
  clear hx hc hq0 C hr hz hzx ra rb
  go_enter Try.func50, Try.ntmps50
  go_wp2_with fail
  refine hn.mono ?_
  rintro e w1 ⟨rfl, hq, k1⟩
  have b0 := (HB.out.kept k1 hb).cell 0
  simp only [List.getElem?_toArray, List.getElem?_cons_zero, List.getElem?_cons_succ] at b0
  have HQ := Lib.hid hq
  clear hn hq a0
  by_cases h0 : c = 0
  · subst h0
    go_wp2_with (go_at_call 39; refine (hu _).mono ?_; rintro e w2 ⟨rfl, rfl⟩)
    go_ret2
    obtain ⟨q, h1, h2⟩ := HQ.out
    obtain rfl := h2 (by trivial)
    first | exact ⟨rfl, h1, k1⟩ | exact ⟨rfl, ⟨_, h1, fun _ => rfl⟩, k1⟩
  · have hn : (c != 0) = true := by simpa using h0
    obtain rfl : zx = 0 := by rw [← HZX.out, HZ.out h0]; decide
    clear hu
    go_wp2
    go_ret2
    exact ⟨rfl, HQ.out, k1⟩

theorem makeI_any (fn1 fn2 : Fn) (x1 y1 x2 y2 : Array Value) (w : World) :
    Calls Try.prog 38 #[.func fn1 x1 y1, .func fn2 x2 y2] w fun e w' => e = .returned (.func (.func 50) #[] #[.pointer (some ⟨w.heap.size, 0, none⟩), .pointer (some ⟨w.heap.size + 1, 0, none⟩)]) ∧ w' = (w.alloc (.cells #[.func fn1 x1 y1] 37)).alloc (.cells #[.func fn2 x2 y2] 64) := by
  have hmf := hmfW
  go_enter Try.func38, Try.ntmps38
  go_wp2
  go_ret
  exact ⟨rfl, rfl⟩

set_option maxRecDepth 100000 in
set_option maxHeartbeats 1000000 in
theorem zigC_any {base g p : Nat} {w : World} {b : List Int} (C : Cur base w g b p) :
    Calls Try.prog 20 #[.pointer (some ⟨g, 0, none⟩)] w fun e w' => e = .returned (.tuple #[.int .i64 (zag (numV (b.drop p))), .int .i64 (getC (b.drop p))]) ∧ Cur base w' g b (numP (b.drop p) p) ∧ KeptC g w w' := by
  have hglt := C.facts.2.1
  have hmf := hmfW
  have HC := Lib.hid C
  have hm := makeI_any (.func 36) (.func 39) #[.pointer (some ⟨g, 0, none⟩)] #[] #[] #[] w
  obtain ⟨W2, hW2⟩ : ∃ W2, (w.alloc (.cells #[.func (.func 36) #[.pointer (some ⟨g, 0, none⟩)] #[]] 37)).alloc (.cells #[.func (.func 39) #[] #[]] 64) = W2 := ⟨_, rfl⟩
  have s1 : (w.alloc (.cells #[.func (.func 36) #[.pointer (some ⟨g, 0, none⟩)] #[]] 37)).heap.size = w.heap.size + 1 := by simp
  have ra : RowB W2 w.heap.size 37 #[.func (.func 36) #[.pointer (some ⟨g, 0, none⟩)] #[]] := by rw [← hW2]; exact (RowB.new _ _ _).alloc _
  have rb : RowB W2 (w.heap.size + 1) 64 #[.func (.func 39) #[] #[]] := by rw [← hW2, ← s1]; exact RowB.new _ _ _
  have hb2 : Below w.heap.size w W2 := by rw [← hW2]; exact ((Below.refl _ w).alloc (Nat.le_refl _) _).alloc (by simp) _
  rw [hW2] at hm
  have C2 := C.later hb2
  have hg := zigG_any (ka := w.heap.size) (kb := w.heap.size + 1) C2 (getC (b.drop p)) (p + lead (b.drop p) + 1) (fun W r => r = .int .i64 (zag (numV (b.drop p)))) (fun _ _ _ _ _ h _ => h) (fun W hb hs => (convI_any (C2.later hb) (ra.later hb) (rb.later hb) (by omega)).mono fun e w' h => ⟨_, h.1, rfl, h.2.1, h.2.2⟩)
  rw [numP_eq] at hg
  obtain ⟨x, hx⟩ : ∃ x : Int, zag (numV (b.drop p)) = x := ⟨_, rfl⟩
  obtain ⟨c, hc⟩ : ∃ c : Int, getC (b.drop p) = c := ⟨_, rfl⟩
  obtain ⟨q, hq⟩ : ∃ q : Nat, numP (b.drop p) p = q := ⟨_, rfl⟩
  rw [hx, hc, hq] at hg ⊢
  have hK := KeptC.ofBelow g hb2
  have HK := Lib.hid hK
  clear hx hc hq C hW2 s1 ra rb C2 hb2 hK
  go_enter Try.func20, Try.ntmps20
  go_wp2_with fail
  refine hm.mono ?_
  rintro e w1 ⟨rfl, rfl⟩
  clear hm
  go_wp2_with fail
  refine hg.mono ?_
  rintro e w3 ⟨r, rfl, rfl, C3, k3⟩
  clear hg
  go_wp2
  go_ret2
  exact ⟨rfl, C3, HK.out.trans k3⟩

/-- Take's closure -/
theorem take43_any {base g p ka kb : Nat} {w : World} {b : List Int} {n : Int} (C : Cur base w g b p) (h0 : -9223372036854775808 ≤ n) (h1 : n ≤ 9223372036854775807) (ra : RowB w ka 33 #[.pointer (some ⟨g, 0, none⟩)]) (rb : RowB w kb 3 #[.int .i64 n]) :
    Calls Try.prog 43 #[.pointer (some ⟨ka, 0, none⟩), .pointer (some ⟨kb, 0, none⟩)] w fun e w' => ∃ r, e = .returned (.tuple #[r, .int .i64 (takeC (b.drop p) n)]) ∧ ResB w.heap.size w' r (takeB (b.drop p) n) ∧ Cur base w' g b (p + (takeB (b.drop p) n).length) ∧ KeptC g w w' := by
  have ht := takeW_any n C h0 h1
  have a0 := ra.cell 0
  have b0 := rb.cell 0
  simp only [List.getElem?_toArray, List.getElem?_cons_zero, List.getElem?_cons_succ] at a0 b0
  obtain ⟨c, hc⟩ : ∃ c : Int, takeC (b.drop p) n = c := ⟨_, rfl⟩
  obtain ⟨ys, hys⟩ : ∃ ys, takeB (b.drop p) n = ys := ⟨_, rfl⟩
  rw [hc, hys] at ht ⊢
  clear hc hys C ra rb
  go_enter Try.func43, Try.ntmps43
  go_wp2_with fail
  refine ht.mono ?_
  rintro e w1 ⟨r, rfl, N1, C1, k1⟩
  clear ht
  go_wp2
  go_ret2
  exact ⟨_, rfl, N1, C1, k1⟩

theorem takeB_bad {l : List Int} {n : Int} (h : takeC l n ≠ 0) : takeB l n = [] := by unfold takeB; rw [if_neg h]
set_option maxRecDepth 100000 in
set_option maxHeartbeats 1000000 in
theorem takeC_any {base g p : Nat} {w : World} {b : List Int} (n : Int) (C : Cur base w g b p) (h0 : -9223372036854775808 ≤ n) (h1 : n ≤ 9223372036854775807) :
    Calls Try.prog 24 #[.pointer (some ⟨g, 0, none⟩), .int .i64 n] w fun e w' => ∃ r, e = .returned (.tuple #[r, .int .i64 (takeC (b.drop p) n)]) ∧ ResB w.heap.size w' r (takeB (b.drop p) n) ∧ Cur base w' g b (p + (takeB (b.drop p) n).length) ∧ KeptC g w w' := by
  have hmf := hmfW
  obtain ⟨W2, hW2⟩ : ∃ W2, (w.alloc (.cells #[.pointer (some ⟨g, 0, none⟩)] 33)).alloc (.cells #[.int .i64 n] 3) = W2 := ⟨_, rfl⟩
  have s1 : (w.alloc (.cells #[.pointer (some ⟨g, 0, none⟩)] 33)).heap.size = w.heap.size + 1 := by simp
  have ra : RowB W2 w.heap.size 33 #[.pointer (some ⟨g, 0, none⟩)] := by rw [← hW2]; exact (RowB.new _ _ _).alloc _
  have rb : RowB W2 (w.heap.size + 1) 3 #[.int .i64 n] := by rw [← hW2, ← s1]; exact RowB.new _ _ _
  have hb2 : Below w.heap.size w W2 := by rw [← hW2]; exact ((Below.refl _ w).alloc (Nat.le_refl _) _).alloc (by simp) _
  have s2 : W2.heap.size = w.heap.size + 2 := by rw [← hW2]; simp
  have C2 := C.later hb2
  have hg := takeG_any (ka := w.heap.size) (kb := w.heap.size + 1) C2 (takeC (b.drop p) n) (p + (takeB (b.drop p) n).length) (fun W r => ResB (W2.heap.size + 3) W r (takeB (b.drop p) n)) (fun _ _ _ _ hq h k => h.keptC k hq) (fun W hb hs => (take43_any (C2.later hb) h0 h1 (ra.later hb) (rb.later hb)).mono fun e w' h => by
    obtain ⟨r, e1, e2, e3, e4⟩ := h
    exact ⟨r, e1, by rw [hs] at e2; exact e2, ⟨_, e3, fun _ => rfl⟩, e4⟩)
  have hfin : (if takeC (b.drop p) n = 0 then p + (takeB (b.drop p) n).length else p) = p + (takeB (b.drop p) n).length := by
    by_cases h : takeC (b.drop p) n = 0
    · rw [if_pos h]
    · rw [if_neg h, takeB_bad h]; rfl
  rw [hfin] at hg
  obtain ⟨c, hc⟩ : ∃ c : Int, takeC (b.drop p) n = c := ⟨_, rfl⟩
  obtain ⟨ys, hys⟩ : ∃ ys, takeB (b.drop p) n = ys := ⟨_, rfl⟩
  rw [hc, hys] at hg ⊢
  have hK := KeptC.ofBelow g hb2
  have HK := Lib.hid hK
  have hS := Nat.le_of_lt (show w.heap.size < W2.heap.size + 3 by omega)
  have HS := Lib.hid hS
  subst hW2
  clear hc hys C s1 ra rb C2 hb2 hK hS s2 hfin
  go_enter Try.func24, Try.ntmps24
  go_wp2_with fail
  refine hg.mono ?_
  rintro e w3 ⟨r, rfl, N3, C3, k3⟩
  clear hg
  go_wp2
  go_ret2
  exact ⟨_, rfl, N3.mono HS.out, C3, HK.out.trans k3⟩
end Go.Proofs.Ytgjoiacgdgbcjaa
