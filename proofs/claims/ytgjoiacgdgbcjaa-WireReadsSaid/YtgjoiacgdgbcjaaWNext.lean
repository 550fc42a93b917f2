/-
  The cursor: next, take.
-/
import Derived.Test.YtgjoiacgdgbcjaaWCur
import Derived.Deep.RegionHeld3
namespace Go.Proofs.Ytgjoiacgdgbcjaa
open Go.RowKit
set_option linter.unusedVariables false
set_option linter.unusedSimpArgs false

theorem KeptC.ofBelow {w w' : World} (g : Nat) (h : Below w.heap.size w w') : KeptC g w w' := ⟨h.os, h.tape, h.output, h.size, fun k hk _ => h.block k hk⟩

set_option maxRecDepth 100000 in
set_option maxHeartbeats 1000000 in
theorem nextC_any {base g p : Nat} {w : World} {b : List Int} (C : Cur base w g b p) :
    Calls Try.prog 46 #[.pointer (some ⟨g, 0, none⟩)] w fun e w' => e = .returned (.tuple #[.int .u8 (if p < b.length then b.getD p 0 else 0), .int .i64 (if p < b.length then 0 else 3)]) ∧ Cur base w' g b (if p < b.length then p + 1 else p) ∧ KeptC g w w' := by
  have hl := leftW_any C
  have hle := C.le
  have hf := C.few
  obtain ⟨L, hL⟩ : ∃ L, b.length = L := ⟨_, rfl⟩
  rw [hL] at hle hl hf ⊢
  by_cases hlt : p < L
  · rw [if_pos hlt, if_pos hlt, if_pos hlt]
    have hne : ((L : Int) - (p : Int) == 0) = false := by simp; omega
    obtain ⟨z, hz⟩ : ∃ z, b.getD p 0 = z := ⟨_, rfl⟩
    rw [hz]
    have HL := Lib.hid hL
    have HZ := Lib.hid hz
    have HC := Lib.hid C
    clear hL hz C
    have hws : IntKind.i64.wrap ((p : Int) + 1) = (p : Int) + 1 := IntWalk.i64_in _ (by omega)
    go_enter Try.func46, Try.ntmps46
    go_wp2_with (go_at_call 22; refine hl.mono ?_; rintro e w1 ⟨rfl, hb⟩)
    have C1 := HC.out.later hb
    obtain ⟨bl, off, cap, R, hc⟩ := C1.byte (by rw [HL.out]; exact hlt)
    rw [HL.out] at R
    rw [HZ.out] at hc
    have c0 := R.cell 0
    have c1 := R.cell 1
    have z1 := R.free 1
    simp only [List.getElem?_toArray, List.getElem?_cons_zero, List.getElem?_cons_succ] at c0 c1
    have hin : 0 ≤ (p : Int) ∧ (p : Int) < (L : Int) := by omega
    have HR := Lib.hid R
    have H1 := Lib.hid C1
    clear R C1 hl
    go_wp2
    go_quiet (fail)
    go_wp2
    go_ret2
    refine ⟨rfl, ?_, ?_⟩
    · have h := (H1.out.later (belowN w1.heap.size w1 nq)).move (p + 1) (by rw [HL.out]; omega)
      simpa using h
    · exact ((KeptC.ofBelow g hb).trans (KeptC.ofBelow g (belowN w1.heap.size w1 nq))).trans (KeptC.setCell _ g 1 _)
  · rw [if_neg hlt, if_neg hlt, if_neg hlt]
    have hne : ((L : Int) - (p : Int) == 0) = true := by simp; omega
    have HC := Lib.hid C
    clear C hL
    go_enter Try.func46, Try.ntmps46
    go_wp2_with (go_at_call 22; refine hl.mono ?_; rintro e w1 ⟨rfl, hb⟩)
    go_ret2
    exact ⟨rfl, HC.out.later hb, KeptC.ofBelow g hb⟩

/-- why n bytes are not taken: 0, or an error -/
def takeC (l : List Int) (n : Int) : Int := if n < 0 then 2 else if (l.length : Int) < n then 3 else 0
def takeB (l : List Int) (n : Int) : List Int := if takeC l n = 0 then l.take n.toNat else []

/-- bytes in the middle of an argument -/
theorem ArgB.part {w : World} {ad : Option Addr} {xs : List Int} {n cap : Nat} (h : ArgB w (.slice ad n cap) xs ad cap) (hn0 : ad = none → cap = 0) (p m : Nat) (hm : p + m ≤ n) (ad' : Option Addr) (cap' : Nat)
    (h1 : (∀ b off, ad = some ⟨b, off, none⟩ → ad' = some ⟨b, off + p, none⟩) ∨ m = 0) (h2 : m ≤ cap') : ArgB w (.slice ad' m cap') ((xs.drop p).take m) ad' cap' := by
  obtain ⟨e, l, hle, wf⟩ := h
  simp only [Value.slice.injEq, true_and, and_true] at e
  have hl : ((xs.drop p).take m).length = m := by rw [List.length_take, List.length_drop]; omega
  refine ⟨by rw [hl], ?_, by omega, (wf.drop p).take m⟩
  rcases h1 with h1 | rfl
  · rcases l with rfl | ⟨b, off, rfl, hc⟩
    · exact .inl (by simp)
    · refine .inr ⟨b, off + p, h1 b off rfl, fun i hi => ?_⟩
      rw [hl] at hi
      rw [Nat.add_assoc, hc (p + i) (by omega), List.getD_eq_getElem?_getD, List.getD_eq_getElem?_getD, List.getElem?_take, if_pos (by omega), List.getElem?_drop]
  · exact .inl (by simp)

set_option maxRecDepth 100000 in
set_option maxHeartbeats 4000000 in
theorem takeW_any {base g p : Nat} {w : World} {b : List Int} (n : Int) (C : Cur base w g b p) (h0 : -9223372036854775808 ≤ n) (h1 : n ≤ 9223372036854775807) :
    Calls Try.prog 44 #[.pointer (some ⟨g, 0, none⟩), .int .i64 n] w fun e w' => ∃ r, e = .returned (.tuple #[r, .int .i64 (takeC (b.drop p) n)]) ∧ ResB w.heap.size w' r (takeB (b.drop p) n) ∧ Cur base w' g b (p + (takeB (b.drop p) n).length) ∧ KeptC g w w' := by
  have hl := leftW_any C
  have hle := C.le
  have hf := C.few
  have hdl : (b.drop p).length = b.length - p := List.length_drop
  obtain ⟨L, hL⟩ : ∃ L, b.length = L := ⟨_, rfl⟩
  rw [hL] at hle hl hf hdl
  by_cases hneg : n < 0
  · have htc : takeC (b.drop p) n = 2 := by unfold takeC; rw [if_pos hneg]
    have htb : takeB (b.drop p) n = [] := by unfold takeB; rw [if_neg (by rw [htc]; decide)]
    rw [htc, htb]
    have HC := Lib.hid C
    clear htc htb hL C hdl hl h0 h1
    go_enter Try.func44, Try.ntmps44
    go_wp2
    go_ret2
    exact ⟨_, rfl, ResB.nil _ _, HC.out, KeptC.refl _ _⟩
  · by_cases hsh : (L : Int) - (p : Int) < n
    · have htc : takeC (b.drop p) n = 3 := by unfold takeC; rw [if_neg hneg, if_pos (by rw [hdl]; omega)]
      have htb : takeB (b.drop p) n = [] := by unfold takeB; rw [if_neg (by rw [htc]; decide)]
      rw [htc, htb]
      have HC := Lib.hid C
      clear htc htb hL C hdl h0 h1
      go_enter Try.func44, Try.ntmps44
      go_wp2_with (go_at_call 22; refine hl.mono ?_; rintro e w1 ⟨rfl, hb⟩)
      go_ret2
      exact ⟨_, rfl, ResB.nil _ _, HC.out.later hb, KeptC.ofBelow g hb⟩
    · obtain ⟨m, rfl⟩ : ∃ m : Nat, n = (m : Int) := ⟨n.toNat, by omega⟩
      have htc : takeC (b.drop p) (m : Int) = 0 := by unfold takeC; rw [if_neg hneg, if_neg (by rw [hdl]; omega)]
      have htb : takeB (b.drop p) (m : Int) = (b.drop p).take m := by unfold takeB; rw [if_pos htc, Int.toNat_natCast]
      have htl : ((b.drop p).take m).length = m := by rw [List.length_take, hdl]; omega
      rw [htc, htb, htl]
      have hpm : p + m ≤ L := by omega
      have hmI : (m : Int) ≤ 140737488355328 := by omega
      have hpI : (p : Int) + (m : Int) ≤ (L : Int) := by omega
      have hLI : (L : Int) ≤ 140737488355328 := by omega
      have hws : IntKind.i64.wrap ((p : Int) + (m : Int)) = (p : Int) + (m : Int) := IntWalk.i64_in _ (by omega)
      have HC := Lib.hid C
      have HTL := Lib.hid htl
      have HL := Lib.hid hL
      have hshI : ¬ (L : Int) - (p : Int) < (m : Int) := hsh
      clear htc htb hL C hdl h0 h1 htl hsh
      go_enter Try.func44, Try.ntmps44
      go_wp2_with fail
      refine hl.mono ?_
      rintro e w1 ⟨rfl, hb⟩
      have C1 := HC.out.later hb
      obtain ⟨ad, cap, R, N, k1, k2⟩ := C1.row
      have c1 := R.cell 1
      have z1 := R.free 1
      simp only [List.getElem?_toArray, List.getElem?_cons_zero, List.getElem?_cons_succ] at c1
      have C2 := C1.move (p + m) (by rw [HL.out]; exact hpm)
      have hk2 : KeptC g w (w1.setCell ⟨g, 1, none⟩ (.int .i64 ((p + m : Nat) : Int))) := (KeptC.ofBelow g hb).trans (KeptC.setCell _ g 1 _)
      have R2 := R.set 1 (.int .i64 ((p + m : Nat) : Int))
      have N2 : ResB base (w1.setCell ⟨g, 1, none⟩ (.int .i64 ((p + m : Nat) : Int))) (.slice ad b.length cap) b := by
        obtain ⟨ad', cap', R', N', _⟩ := C2.row
        have e := R'.symm.trans R2
        simp at e
        obtain ⟨rfl, rfl⟩ := e
        exact N'
      rw [HL.out] at R2 N2
      obtain ⟨adx, capx, ex, lx, hlx, hcx, hbx⟩ := N2.num.read
      simp only [Value.slice.injEq, HL.out, true_and, and_true] at ex
      obtain ⟨rfl, rfl⟩ := ex
      have hLc : L ≤ cap := by rw [← HL.out]; exact hlx
      have hcap63 : (cap : Int) ≤ 9223372036854775807 := by unfold maxLen at hcx; omega
      have A2 : ArgB (w1.setCell ⟨g, 1, none⟩ (.int .i64 ((p + m : Nat) : Int))) (.slice ad L cap) b ad cap := ⟨by rw [HL.out], lx, hlx, N2.wf⟩
      have hadz : ∀ a, ad = some a → ∃ q, a = ⟨q, 0, none⟩ := by
        intro a ha
        obtain ⟨n1, n2⟩ := N2.num
        rcases n2 with ⟨e, _⟩ | ⟨q, c, cur, e, _⟩
        · simp only [Value.slice.injEq] at e; rw [ha] at e; cases e.1
        · simp only [Value.slice.injEq] at e; rw [ha] at e; exact ⟨q, Option.some.inj e.1⟩
      have hcast : ((p + m : Nat) : Int) = (p : Int) + (m : Int) := by omega
      rw [hcast] at C2 hk2 R2 N2 A2 lx
      have HC2 := Lib.hid C2
      have HK2 := Lib.hid hk2
      clear C2 hk2 N2 hl N R C1 lx hlx hcx hbx
      have r0 := RowB.cell (w := w1.setCell ⟨g, 1, none⟩ (.int .i64 ((p : Int) + (m : Int)))) R2 0
      have r1 := RowB.cell (w := w1.setCell ⟨g, 1, none⟩ (.int .i64 ((p : Int) + (m : Int)))) R2 1
      simp at r0 r1
      go_wp2
      generalize w1.setCell ⟨g, 1, none⟩ (.int .i64 ((p : Int) + (m : Int))) = W2 at *
      have hht : ((p : Int) + (m : Int)).toNat = p + m := by omega
      have hp0 : (0 : Int) ≤ (p : Int) := by omega
      have hm0 : (0 : Int) ≤ (m : Int) := by omega
      have hpL : (p : Int) ≤ (L : Int) := by omega
      have hpC : (p : Int) ≤ (cap : Int) := by omega
      have hpmC : (p : Int) + (m : Int) ≤ (cap : Int) := by omega
      have hppm : (p : Int) ≤ (p : Int) + (m : Int) := by omega
      have hkW : w.heap.size ≤ W2.heap.size := HK2.out.size
      have fin : ∀ (w3 : World) (r : Value), ResB W2.heap.size w3 r ((b.drop p).take m) → Below W2.heap.size W2 w3 → ResB w.heap.size w3 r ((b.drop p).take m) ∧ Cur base w3 g b (p + m) ∧ KeptC g w w3 := fun w3 r hr hb3 =>
        ⟨hr.mono hkW, HC2.out.later hb3, HK2.out.trans (KeptC.ofBelow g hb3)⟩
      have mkS : ∀ X, Below W2.heap.size W2 X → X.cell? ⟨g, 0, none⟩ = some (.slice ad L cap) ∧ X.cell? ⟨g, 1, none⟩ = some (.int .i64 ((p : Int) + (m : Int))) ∧ Below W2.heap.size W2 X := fun X h => ⟨((R2.later h).cell 0).trans rfl, ((R2.later h).cell 1).trans rfl, h⟩
      have FIN := Lib.hid fin
      have HA := Lib.hid A2
      clear fin A2 hws z1 c1 hshI hneg hcast hb
      cases ad with
      | none =>
        have hc := k2 rfl
        subst hc
        obtain rfl : L = 0 := by omega
        obtain rfl : p = 0 := by omega
        obtain rfl : m = 0 := by omega
        have P2 := ArgB.part HA.out k2 0 0 (by omega) none 0 (.inr rfl) (by omega)
        clear hht hpC hpmC hpL hppm hpI hLI hmI hm0 hp0
        go_region_held3 (fun X => X.cell? ⟨g, 0, none⟩ = some (.slice none 0 0) ∧ X.cell? ⟨g, 1, none⟩ = some (.int .i64 (((0 : Nat) : Int) + ((0 : Nat) : Int))) ∧ Below W2.heap.size W2 X)
          ((refine mkS _ ?_; (repeat' (first | exact Below.refl _ _ | refine Below.drew ?_ | refine Below.trans ?_ (by assumption)))))
          ((go_at_call 34; (with_reducible refine (clone_any (P2.later (show Below W2.heap.size W2 _ by (repeat' (first | exact Below.refl _ _ | refine Below.drew ?_)))) (fun _ => rfl) (by simp)).mono ?_); rintro e w3 ⟨r3, rfl, N3, hb3⟩))
        go_wp2
        go_ret2
        exact ⟨_, rfl, FIN.out _ _ N3 (show Below W2.heap.size W2 _ by (repeat' (first | exact Below.refl _ _ | refine Below.drew ?_ | refine Below.trans ?_ (by assumption))))⟩
      | some a =>
        obtain ⟨q, rfl⟩ := hadz a rfl
        have HTX := HTL
        have fnil : ∀ x : Addr, some x = none → (cap - p) = 0 := fun x h => by cases h
        by_cases hcp : cap = p
        · subst hcp
          obtain rfl : m = 0 := by omega
          have P2 := ArgB.part HA.out k2 cap 0 (by omega) (some ⟨q, 0, none⟩) 0 (.inr rfl) (by omega)
          have hht0 : ((cap : Int) + ((0 : Nat) : Int)).toNat = cap := by omega
          obtain rfl : L = cap := by omega
          clear hpC hpmC hpL hppm hpI hmI hm0 hp0 hht
          go_region_held3 (fun X => X.cell? ⟨g, 0, none⟩ = some (.slice (some ⟨q, 0, none⟩) L L) ∧ X.cell? ⟨g, 1, none⟩ = some (.int .i64 ((L : Int) + ((0 : Nat) : Int))) ∧ Below W2.heap.size W2 X)
            ((refine mkS _ ?_; (repeat' (first | exact Below.refl _ _ | refine Below.drew ?_ | refine Below.trans ?_ (by assumption)))))
            ((go_at_call 34; (with_reducible refine (clone_any (P2.later (show Below W2.heap.size W2 _ by (repeat' (first | exact Below.refl _ _ | refine Below.drew ?_)))) (fun h => by cases h) (by rw [HTX.out]; omega)).mono ?_); rintro e w3 ⟨r3, rfl, N3, hb3⟩))
          go_wp2
          go_ret2
          exact ⟨_, rfl, FIN.out _ _ N3 (show Below W2.heap.size W2 _ by (repeat' (first | exact Below.refl _ _ | refine Below.drew ?_ | refine Below.trans ?_ (by assumption))))⟩
        · have P2 := ArgB.part HA.out k2 p m (by omega) (some ⟨q, p, none⟩) (cap - p) (.inl (fun b off e => by cases e; simp)) (by omega)
          go_region_held3 (fun X => X.cell? ⟨g, 0, none⟩ = some (.slice (some ⟨q, 0, none⟩) L cap) ∧ X.cell? ⟨g, 1, none⟩ = some (.int .i64 ((p : Int) + (m : Int))) ∧ Below W2.heap.size W2 X)
            ((refine mkS _ ?_; (repeat' (first | exact Below.refl _ _ | refine Below.drew ?_ | refine Below.trans ?_ (by assumption)))))
            ((go_at_call 34; (with_reducible refine (clone_any (P2.later (show Below W2.heap.size W2 _ by (repeat' (first | exact Below.refl _ _ | refine Below.drew ?_)))) (fun h => by cases h) (by rw [HTX.out]; omega)).mono ?_); rintro e w3 ⟨r3, rfl, N3, hb3⟩))
          go_wp2
          go_ret2
          exact ⟨_, rfl, FIN.out _ _ N3 (show Below W2.heap.size W2 _ by (repeat' (first | exact Below.refl _ _ | refine Below.drew ?_ | refine Below.trans ?_ (by assumption))))⟩
end Go.Proofs.Ytgjoiacgdgbcjaa
