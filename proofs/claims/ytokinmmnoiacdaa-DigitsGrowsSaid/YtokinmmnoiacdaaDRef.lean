/-
  The reference of layer 4: digits.
-/
import Derived.Test.YtokinmmnoiacdaaB5
import Derived.Test.YtokinmmnoiacdaaDMath
import Derived.Deep.QuietTactic
import Derived.BigQuiet
import Derived.IntWalk
import Derived.Lib.Hide
namespace Go.Proofs.Ytokinmmnoiacdaa
open Go.RowKit
set_option linter.unusedVariables false
set_option linter.unusedSimpArgs false

theorem below_drewN' {B : Nat} {a w : World} (h : Below B a w) (n : Nat) : Below B a (w.drewN n) := ⟨h.os, h.tape, h.output, h.size, h.block⟩
theorem byte_of {s : ByteArray} {l : List UInt8} (hs : s.data.toList = l) {k : Nat} (h : k < s.size) {c : UInt8} (hc : l[k]? = some c) : s[k] = c := by
  subst hs
  rw [Array.getElem?_toList] at hc
  obtain ⟨h2, h3⟩ := Array.getElem?_eq_some_iff.1 hc
  exact h3
theorem size_of {s : ByteArray} {l : List UInt8} (hs : s.data.toList = l) : s.size = l.length := by subst hs; rw [Array.length_toList]; rfl
theorem bytes_eq {s : ByteArray} {l : List UInt8} (hs : s.data.toList = l) : s = ByteArray.mk l.toArray := by subst hs; rfl
theorem bytes_app {s t : ByteArray} {l k : List UInt8} (hs : s.data.toList = l) (ht : t.data.toList = k) : (s ++ t).data.toList = l ++ k := by
  subst hs; subst ht; simp [ByteArray.data_append]
theorem bytes_from {s : ByteArray} {l : List UInt8} (hs : s.data.toList = l) (k : Nat) : (s.extract k s.size).data.toList = l.drop k := by
  subst hs
  have h : s.size = s.data.toList.length := by rw [Array.length_toList]; rfl
  rw [ByteArray.data_extract, Array.toList_extract, h, List.extract_eq_take_drop]
  rw [List.take_of_length_le (by simp)]
theorem bytes_to {s : ByteArray} {l : List UInt8} (hs : s.data.toList = l) (k : Nat) : (s.extract 0 k).data.toList = l.take k := by
  subst hs
  simp [ByteArray.data_extract]
theorem digit_cut (a : Int) (h0 : 0 ≤ a) (h1 : a < 10) : (ByteArray.mk #[48, 49, 50, 51, 52, 53, 54, 55, 56, 57]).extract a.toNat (a + 1).toNat = ByteArray.mk [dig a.toNat].toArray := by
  have h : a = 0 ∨ a = 1 ∨ a = 2 ∨ a = 3 ∨ a = 4 ∨ a = 5 ∨ a = 6 ∨ a = 7 ∨ a = 8 ∨ a = 9 := by omega
  rcases h with rfl | rfl | rfl | rfl | rfl | rfl | rfl | rfl | rfl | rfl <;> rfl
set_option maxRecDepth 100000 in
set_option maxHeartbeats 2000000 in
theorem four_any (n : Int) (w : World) (h0 : 0 ≤ n) (h1 : n < 10000) :
    Calls Try.prog 34 #[.int .i64 n] w fun e w' => e = .returned (.string (ByteArray.mk (pad 4 n.toNat).toArray)) ∧ Below w.heap.size w w' := by
  obtain ⟨a, ha⟩ : ∃ a, n / 1000 = a := ⟨_, rfl⟩
  obtain ⟨b, hb⟩ : ∃ b, n / 100 = b := ⟨_, rfl⟩
  obtain ⟨c, hc⟩ : ∃ c, n / 10 = c := ⟨_, rfl⟩
  obtain ⟨b1, hb1⟩ : ∃ b1, b % 10 = b1 := ⟨_, rfl⟩
  obtain ⟨c1, hc1⟩ : ∃ c1, c % 10 = c1 := ⟨_, rfl⟩
  obtain ⟨d1, hd1⟩ : ∃ d1, n % 10 = d1 := ⟨_, rfl⟩
  have ea : IntKind.i64.wrap (n.tdiv 1000) = a := by rw [Int.tdiv_eq_ediv_of_nonneg h0, ha]; exact IntWalk.i64_in _ (by omega)
  have eb : IntKind.i64.wrap (n.tdiv 100) = b := by rw [Int.tdiv_eq_ediv_of_nonneg h0, hb]; exact IntWalk.i64_in _ (by omega)
  have ec : IntKind.i64.wrap (n.tdiv 10) = c := by rw [Int.tdiv_eq_ediv_of_nonneg h0, hc]; exact IntWalk.i64_in _ (by omega)
  have eb1 : b.tmod 10 = b1 := by rw [Int.tmod_eq_emod_of_nonneg (by omega), hb1]
  have ec1 : c.tmod 10 = c1 := by rw [Int.tmod_eq_emod_of_nonneg (by omega), hc1]
  have ed1 : n.tmod 10 = d1 := by rw [Int.tmod_eq_emod_of_nonneg (by omega), hd1]
  have wb1 : IntKind.i64.wrap b1 = b1 := IntWalk.i64_in _ (by omega)
  have wc1 : IntKind.i64.wrap c1 = c1 := IntWalk.i64_in _ (by omega)
  have wd1 : IntKind.i64.wrap d1 = d1 := IntWalk.i64_in _ (by omega)
  have wa2 : IntKind.i64.wrap (a + 1) = a + 1 := IntWalk.i64_in _ (by omega)
  have wb2 : IntKind.i64.wrap (b1 + 1) = b1 + 1 := IntWalk.i64_in _ (by omega)
  have wc2 : IntKind.i64.wrap (c1 + 1) = c1 + 1 := IntWalk.i64_in _ (by omega)
  have wd2 : IntKind.i64.wrap (d1 + 1) = d1 + 1 := IntWalk.i64_in _ (by omega)
  have a0 : 0 ≤ a := by omega
  have b0 : 0 ≤ b1 := by omega
  have c0 : 0 ≤ c1 := by omega
  have d0 : 0 ≤ d1 := by omega
  have a9 : a + 1 ≤ 10 := by omega
  have b9 : b1 + 1 ≤ 10 := by omega
  have c9 : c1 + 1 ≤ 10 := by omega
  have d9 : d1 + 1 ≤ 10 := by omega
  have aa : a ≤ a + 1 := by omega
  have bb : b1 ≤ b1 + 1 := by omega
  have cc : c1 ≤ c1 + 1 := by omega
  have dd : d1 ≤ d1 + 1 := by omega
  have ka := digit_cut a a0 (by omega)
  have kb := digit_cut b1 b0 (by omega)
  have kc := digit_cut c1 c0 (by omega)
  have kd := digit_cut d1 d0 (by omega)
  have hp : pad 4 n.toNat = [dig a.toNat, dig b1.toNat, dig c1.toNat, dig d1.toNat] := by
    rw [pad4]
    have x1 : n.toNat / 1000 % 10 = a.toNat := by omega
    have x2 : n.toNat / 100 % 10 = b1.toNat := by omega
    have x3 : n.toNat / 10 % 10 = c1.toNat := by omega
    have x4 : n.toNat % 10 = d1.toNat := by omega
    rw [x1, x2, x3, x4]
  have HP := Lib.hid hp
  rw [hp]
  clear hp ha hb hc hb1 hc1 hd1 h0 h1 HP
  go_enter Try.func34, Try.ntmps34
  go_wp2_with fail
  go_quiet (fail)
  go_wp2
  go_ret
  exact ⟨congrArg (fun x => Ending.returned (Value.string x)) (ByteArray.ext (by simp [ByteArray.data_append])), below_drewN' (Below.refl _ w) _⟩
/-- four digits a digit of 10000, the highest first -/
def joinD : List Int → List UInt8
  | [] => []
  | x :: xs => joinD xs ++ pad 4 x.toNat
theorem joinD_length (xs : List Int) : (joinD xs).length = 4 * xs.length := by
  induction xs with
  | nil => rfl
  | cons x xs ih => rw [joinD, List.length_append, ih, pad_length, List.length_cons]; omega
theorem joinD_digs (xs : List Int) : digs (joinD xs) = true := by
  induction xs with
  | nil => rfl
  | cons x xs ih => rw [joinD, digs_append, ih, pad_digs]; rfl
theorem joinD_num {xs : List Int} (h : WfD xs) : (numL (joinD xs) : Int) = valD xs := by
  induction xs with
  | nil => rfl
  | cons x xs ih =>
    have hx := h.head
    have := ih h.tail
    rw [joinD, numL_append, pad_length, pad_num _ _ (by omega)]
    simp only [valD]
    omega
theorem joinD_drop (xs : List Int) (j : Nat) (h : j < xs.length) : joinD (xs.drop j) = joinD (xs.drop (j + 1)) ++ pad 4 (xs.getD j 0).toNat := by
  rw [List.drop_eq_getElem_cons h, joinD]
  simp [h]

set_option maxRecDepth 100000 in
set_option maxHeartbeats 2000000 in
theorem natD_any {u : Value} {xs : List Int} {a : Option Addr} {capa : Nat} {w : World} (h1 : ArgD w u xs a capa) (hx : xs.length ≤ 1048576) :
    Calls Try.prog 13 #[u] w fun e w' => ∃ s : ByteArray, e = .returned (.string s) ∧ s.data.toList = dec (valD xs).toNat ∧ s.size ≤ 4194304 ∧ Below w.heap.size w w' := by
  obtain ⟨rfl, lx, hle, wx, fx⟩ := h1
  by_cases h0 : xs.length = 0
  · have hxs : xs = [] := List.eq_nil_of_length_eq_zero h0
    subst hxs
    clear h0 lx hle wx fx hx
    go_enter Try.func13, Try.ntmps13
    go_wp2
    go_ret
    exact ⟨_, rfl, by rw [show (valD []).toNat = 0 from rfl, dec_zero], by decide, Below.refl _ _⟩
  · obtain ⟨L, hL⟩ : ∃ L, xs.length = L := ⟨_, rfl⟩
    have HL := Lib.hid hL
    have hpos : 0 < L := by omega
    have hLm : L ≤ 1048576 := by omega
    have hz : ((L : Int) == 0) = false := by simp; omega
    rw [hL]
    rw [hL] at hle
    have HX := Lib.hid hL
    clear hL h0 hx
    go_enter Try.func13, Try.ntmps13
    go_wp2
    go_loopw [3, 4] (fun s i wr => ∃ (k : Nat) (t : ByteArray), k ≤ L ∧ i = .int .i64 ((k : Int) - 1) ∧ s = .string t ∧ t.data.toList = joinD (xs.drop k) ∧ Below w.heap.size w wr) (fun _ i _ => (intOf i + 1).toNat)
    case atStart => exact ⟨L, ByteArray.empty, Nat.le_refl _, rfl, rfl, by rw [List.drop_of_length_le (by rw [HX.out]; exact Nat.le_refl _)]; rfl, Below.refl _ _⟩
    case round =>
      obtain ⟨k, t, hk, rfl, rfl, ht, hb⟩ := hrel
      have htl := size_of ht
      rw [joinD_length, List.length_drop, HX.out] at htl
      have hts : t.size ≤ 4 * 1048576 := by omega
      have HT := Lib.hid ht
      clear ht htl
      by_cases hgo : 0 < k
      · obtain ⟨j, rfl⟩ : ∃ j, k = j + 1 := ⟨k - 1, by omega⟩
        have hji : (((j + 1 : Nat) : Int) - 1) = (j : Int) := by omega
        rw [hji]
        have hjx : j < xs.length := by rw [HX.out]; omega
        obtain ⟨z, hzz⟩ : ∃ z, xs.getD j 0 = z := ⟨_, rfl⟩
        have hzd := wx.getD j
        rw [hzz] at hzd
        obtain ⟨hz0, hz1⟩ := hzd
        have hlr := lx.later hb
        rcases hlr with e | ⟨b, off, rfl, hc⟩
        · rw [e] at hjx; simp at hjx
        have hcj := hc j hjx
        rw [hzz] at hcj
        have hd := joinD_drop xs j hjx
        rw [hzz] at hd
        have HD := Lib.hid hd
        have hjl : j < L := by omega
        have hge : (0 : Int) ≤ (j : Int) := by omega
        clear hc hd hzz hjx hji
        go_wp2_with fail
        refine (four_any z _ hz0 hz1).mono ?_
        rintro e w2 ⟨rfl, hb2⟩
        have hB2 := hb.trans (hb2.mono hb.size)
        have hps : (ByteArray.mk (pad 4 z.toNat).toArray).size = 4 := by rw [size_of (l := pad 4 z.toNat) (by simp), pad_length]
        clear hcj hb2 hb
        obtain ⟨f, hf⟩ : ∃ f, ByteArray.mk (pad 4 z.toNat).toArray = f := ⟨_, rfl⟩
        rw [hf] at hps
        rw [hf]
        have HF := Lib.hid hf
        have hfs : f.size ≤ 4 := by omega
        clear hf hps
        go_wp2
        go_roundw
        case rel => exact ⟨j, t ++ f, by omega, rfl, rfl, by rw [HD.out]; exact bytes_app HT.out (by rw [← HF.out]), hB2⟩
        case measure => simp [intOf]
      · obtain rfl : k = 0 := by omega
        have hji : (((0 : Nat) : Int) - 1) = -1 := by omega
        rw [hji]
        have ht := HT.out
        rw [List.drop_zero] at ht
        obtain ⟨l, hl⟩ : ∃ l, joinD xs = l := ⟨_, rfl⟩
        rw [hl] at ht
        have hn0 : numL l ≠ 0 := by
          intro e
          have h2 := joinD_num wx
          rw [hl, e] at h2
          have h3 := valD_zero wx fx h2.symm
          have := HX.out
          omega
        have hdg : digs l = true := by rw [← hl]; exact joinD_digs xs
        obtain ⟨k0, hk0, hnought, hstop, hrest⟩ := drop_noughts hdg hn0
        have hval : (valD xs).toNat = numL l := by have := joinD_num wx; rw [hl] at this; omega
        have hsz := size_of ht
        have hk0s : k0 < t.size := by omega
        have hk0m : k0 ≤ 4 * 1048576 := by omega
        have HT2 := Lib.hid ht
        have HV := Lib.hid hval
        have HR := Lib.hid hrest
        have HN := Lib.hid hnought
        have HSt := Lib.hid hstop
        clear ht hl hn0 hdg hval hrest hnought hsz hji HT hstop
        go_wp2
        go_loop [5] (fun i => ∃ k : Nat, k ≤ k0 ∧ i = .int .i64 k) (fun i => k0 - (intOf i).toNat)
        case atStart => exact ⟨0, Nat.zero_le _, rfl⟩
        case round =>
          obtain ⟨k, hk1, rfl⟩ := hrel
          by_cases hlt : k < k0
          · have hks : k < t.size := by omega
            have hby := byte_of HT2.out hks (HN.out k hlt)
            go_wp2
            go_round
            case rel => exact ⟨k + 1, by omega, by go_num⟩
            case measure => simp [intOf]; omega
          · obtain rfl : k = k0 := by omega
            obtain ⟨c, hc⟩ : ∃ c, l[k]? = some c := ⟨l[k]'(by omega), List.getElem?_eq_getElem _⟩
            have hby := byte_of HT2.out hk0s hc
            have hne : c ≠ 48 := fun e => HSt.out (by rw [hc, e])
            have hnn : ((c.toNat : Int) == 48) = false := by
              simp only [beq_eq_false_iff_ne, ne_eq]
              intro e
              exact hne (UInt8.toNat_inj.1 (by have : c.toNat = 48 := by omega
                                               rw [this]; rfl))
            clear hc hne
            go_wp2
            go_ret
            have hsz := size_of (bytes_from HT2.out k)
            have hsl := size_of HT2.out
            rw [List.length_drop] at hsz
            exact ⟨_, rfl, by rw [bytes_from HT2.out, HR.out, HV.out], by omega, hb⟩
end Go.Proofs.Ytokinmmnoiacdaa
