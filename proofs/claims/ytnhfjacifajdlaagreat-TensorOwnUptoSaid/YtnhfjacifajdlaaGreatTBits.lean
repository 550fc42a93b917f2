/-
  The reference of layer 7: Bits, Empty.
-/
import Derived.Test.YtnhfjacifajdlaaGreatTDot
namespace Go.Proofs.YtnhfjacifajdlaaGreat
open Go.RowKit
set_option linter.unusedVariables false
set_option linter.unusedSimpArgs false

/-- how many bits a natural has -/
noncomputable def nbits (n : Nat) : Nat := Classical.choose (IsBits.exists n)
theorem nbits_is (n : Nat) : IsBits (n : Int) (nbits n) := Classical.choose_spec (IsBits.exists n)
/-- how many bits a rational has -/
noncomputable def bitsX (X : Rat) : Int := max (nbits X.num.natAbs : Int) (nbits X.den : Int)
/-- the greatest of the first k -/
noncomputable def bitsN7 (L : List Rat) : Nat → Int
  | 0 => 0
  | k + 1 => max (bitsN7 L k) (bitsX (L.getD k 0))

set_option maxRecDepth 100000 in
set_option maxHeartbeats 4000000 in
theorem bitsT_any {n : Nat} {w : World} {u : Value} {s : List Int} {L : List Rat} {a b : Option Addr} {ca cb : Nat} (T : TensR w u s L n a ca b cb) (hn : n ≤ 1000000000) (hq : L.length ≤ 1000000000) :
    Calls Tryz.prog 34 #[u] w fun e w' => e = .returned (.int .i64 (bitsN7 L L.length)) ∧ Below w.heap.size w w' := by
  have HT := Lib.hid T
  obtain rfl := T.is
  obtain ⟨W, hW⟩ : ∃ W, (w.alloc (.cells #[.slice a s.length ca, .slice b L.length cb] 39)) = W := ⟨_, rfl⟩
  have R0 : Row W w.heap.size 39 #[.slice a s.length ca, .slice b L.length cb] := by rw [← hW]; exact Row.new _ _ _
  have hBW : Below w.heap.size w W := by rw [← hW]; exact (Below.refl _ _).alloc (by simp) _
  obtain ⟨c, hc⟩ : ∃ c, bitsN7 L L.length = c := ⟨_, rfl⟩
  have HC := Lib.hid hc
  rw [hc]
  clear T hc
  go_enter Tryz.func34, Tryz.ntmps34
  go_wp2
  (try rw [hW])
  go_loopw [3, 4] (fun m i wr => ∃ (k : Nat), i = .int .i64 (k : Int) ∧ m = .int .i64 (bitsN7 L k) ∧ k ≤ L.length ∧ Below W.heap.size W wr) (fun _ i _ => L.length - (intOf i).toNat)
  case atStart => exact ⟨0, rfl, rfl, Nat.zero_le _, Below.refl _ _⟩
  case round =>
    obtain ⟨k, rfl, rfl, hk, hb⟩ := hrel
    have r0 := R0.later hb
    obtain ⟨c00, c01, _, _⟩ := r0.two
    obtain ⟨m, hm⟩ : ∃ m, bitsN7 L k = m := ⟨_, rfl⟩
    rw [hm]
    have HM := Lib.hid hm
    clear hm
    by_cases hlt : k < L.length
    · have hbw := hBW.trans (hb.mono hBW.size)
      obtain ⟨bb, o, x0, x1, x2, X, hbo, hqk, e0, e1, e2, hr⟩ := (HT.out.el.later hbw (fun v x _ k => k.later hbw)).at hlt
      subst hbo
      have hcall := bitsR_any hr hn (nbits_is _) (nbits_is _)
      have hnx : bitsN7 L (k + 1) = max m (bitsX X) := by
        simp only [bitsN7, HM.out, List.getD_eq_getElem?_getD, hqk, Option.getD_some]
      have hbx : bitsX X = max (nbits X.num.natAbs : Int) (nbits X.den : Int) := rfl
      obtain ⟨d, hd⟩ : ∃ d, max (nbits X.num.natAbs : Int) (nbits X.den : Int) = d := ⟨_, rfl⟩
      rw [hd] at hcall hbx
      rw [hbx] at hnx
      obtain ⟨f, hf⟩ : ∃ f, max m d = f := ⟨_, rfl⟩
      rw [hf] at hnx
      have HNX := Lib.hid hnx
      have hltI : (k : Int) < (L.length : Int) := by omega
      clear hqk hbx hnx hd hr
      go_wp2_with (go_at_call 71; refine hcall.mono ?_; rintro e w2 ⟨rfl, hb2⟩)
      all_goals
        go_roundw
        case rel => exact ⟨k + 1, by go_num, by rw [HNX.out] <;> (congr 1; omega), by omega, hb.trans (hb2.mono hb.size)⟩
        case measure => simp [intOf]; omega
    · obtain rfl : k = L.length := by omega
      obtain rfl : m = c := by rw [← HM.out]; exact HC.out
      have hltI : ¬ (L.length : Int) < (L.length : Int) := by omega
      go_wp2
      go_ret
      exact ⟨rfl, hBW.trans (hb.mono hBW.size)⟩

set_option maxRecDepth 100000 in
set_option maxHeartbeats 4000000 in
theorem emptyT_any {w : World} (v : Value) (sa sb : Option Addr) (n m ca cb : Nat) (hv : v = .agg #[.slice sa n ca, .slice sb m cb]) :
    Calls Tryz.prog 18 #[v] w fun e w' => e = .returned (.bool (decide (n = 0) && decide (m = 0))) ∧ Below w.heap.size w w' := by
  subst hv
  obtain ⟨W, hW⟩ : ∃ W, (w.alloc (.cells #[.slice sa n ca, .slice sb m cb] 26)) = W := ⟨_, rfl⟩
  have R0 : Row W w.heap.size 26 #[.slice sa n ca, .slice sb m cb] := by rw [← hW]; exact Row.new _ _ _
  have hBW : Below w.heap.size w W := by rw [← hW]; exact (Below.refl _ _).alloc (by simp) _
  obtain ⟨c0, c1, _, _⟩ := R0.two
  by_cases h0 : n = 0
  · subst h0
    by_cases h1 : m = 0
    · subst h1
      go_enter Tryz.func18, Tryz.ntmps18
      go_wp2
      go_ret
      exact ⟨rfl, hBW⟩
    · have h1I : ((m : Int) == 0) = false := by simp; omega
      rw [decide_eq_false h1]
      clear h1
      go_enter Tryz.func18, Tryz.ntmps18
      go_wp2
      go_ret
      exact ⟨rfl, hBW⟩
  · have h0I : ((n : Int) == 0) = false := by simp; omega
    rw [decide_eq_false h0]
    clear h0
    go_enter Tryz.func18, Tryz.ntmps18
    go_wp2
    go_ret
    exact ⟨rfl, hBW⟩
theorem ResS.at_ {base : Nat} {w : World} {ad : Option Addr} {n cap : Nat} {xs : List Int} (h : ResS base w (.slice ad n cap) xs) : n = xs.length ∧ ArgS w (.slice ad n cap) xs ad cap ∧ (ad = none → cap = 0) := by
  obtain ⟨ad', cap', e, _, A, hn⟩ := h.slice
  simp only [Value.slice.injEq] at e
  obtain ⟨rfl, rfl, rfl⟩ := e
  exact ⟨rfl, A, hn⟩
theorem RowA.imp {α : Type} {P Q : World → Value → α → Prop} {w : World} {u : Value} {L : List α} {ad : Option Addr} {cap : Nat} (h : RowA P w u L ad cap) (hP : ∀ v x, x ∈ L → P w v x → Q w v x) : RowA Q w u L ad cap := by
  refine ⟨h.is, h.le, ?_⟩
  rcases h.els with e | ⟨b, o, es, e, c, k⟩
  · exact .inl e
  · exact .inr ⟨b, o, es, e, c, k.imp hP⟩
theorem RowO.at_ {α : Type} {base : Nat} {T : TypeId} {P : World → Value → α → Prop} {w : World} {ad : Option Addr} {n cap : Nat} {L : List α} (h : RowO base T P w (.slice ad n cap) L) : n = L.length ∧ RowA P w (.slice ad n cap) L ad cap ∧ (ad = none → cap = 0) := by
  obtain ⟨ad', cap', A, hn, _⟩ := h.arg
  have e := A.is
  simp only [Value.slice.injEq] at e
  obtain ⟨rfl, rfl, rfl⟩ := e
  exact ⟨rfl, A, hn⟩
end Go.Proofs.YtnhfjacifajdlaaGreat
