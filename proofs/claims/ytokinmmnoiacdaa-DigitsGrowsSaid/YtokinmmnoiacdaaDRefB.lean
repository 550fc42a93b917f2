/-
  The reference of layer 4: natural, cut.
-/
import Derived.Test.YtokinmmnoiacdaaDRef
namespace Go.Proofs.Ytokinmmnoiacdaa
open Go.RowKit
set_option linter.unusedVariables false
set_option linter.unusedSimpArgs false

theorem take_snocL {l : List UInt8} {k : Nat} {c : UInt8} (hc : l[k]? = some c) : l.take (k + 1) = l.take k ++ [c] := by
  rw [List.take_add_one, hc]; rfl
theorem natB_bad {l : List UInt8} {k : Nat} {c : UInt8} (hc : l[k]? = some c) (h : isDig c = false) : natB l = false := by
  rw [Bool.eq_false_iff]
  intro hn
  rw [natB_iff] at hn
  have := List.all_eq_true.1 hn.1 c (List.mem_of_getElem? hc)
  rw [h] at this
  cases this
theorem natB_nil : natB [] = false := by decide
theorem natB_cons {c : UInt8} {l : List UInt8} (h : digs (c :: l) = true) : natB (c :: l) = (!(c == 48) || l.length == 0) := by
  unfold natB
  rw [h]
  simp

set_option maxRecDepth 100000 in
set_option maxHeartbeats 2000000 in
theorem natural_any {s : ByteArray} {l : List UInt8} (hs : s.data.toList = l) (w : World) (hm : s.size ≤ 9223372036854775807) :
    Calls Try.prog 42 #[.string s] w fun e w' => e = .returned (.bool (natB l)) ∧ w = w' := by
  have hz := size_of hs
  obtain ⟨L, hL⟩ : ∃ L, s.size = L := ⟨_, rfl⟩
  have hLm : L ≤ 9223372036854775807 := by omega
  have hll : l.length = L := by omega
  have HS := Lib.hid hs
  have HL := Lib.hid hll
  have HZ := Lib.hid hL
  obtain ⟨v, hv⟩ : ∃ v, natB l = v := ⟨_, rfl⟩
  have HV := Lib.hid hv
  rw [hv]
  have hsL : s.size ≤ L := by omega
  have hLs : L ≤ s.size := by omega
  clear hz hs hll hm hv
  go_enter Try.func42, Try.ntmps42
  go_wp2
  go_loop [3] (fun i => ∃ k : Nat, k ≤ L ∧ i = .int .i64 k ∧ digs (l.take k) = true) (fun i => L - (intOf i).toNat)
  case atStart => exact ⟨0, Nat.zero_le _, rfl, rfl⟩
  case round =>
    obtain ⟨k, hk, rfl, hd⟩ := hrel
    have HD := Lib.hid hd
    clear hd
    by_cases hlt : k < L
    · have hks : k < s.size := by omega
      obtain ⟨c, hc⟩ : ∃ c, l[k]? = some c := ⟨l[k]'(by rw [HL.out]; exact hlt), List.getElem?_eq_getElem _⟩
      have hb := byte_of HS.out hks hc
      obtain ⟨z, hz⟩ : ∃ z : Int, (c.toNat : Int) = z := ⟨_, rfl⟩
      have hz0 : 0 ≤ z := by omega
      have hki : (k : Int) < (L : Int) := by omega
      have HC := Lib.hid hc
      have hzc := Lib.hid hz
      clear hc
      by_cases h1 : z < 48
      · have hv : v = false := by rw [← HV.out]; exact natB_bad HC.out (by rw [Bool.eq_false_iff]; intro e; rw [isDig_iff] at e; have := hzc.out; omega)
        subst hv
        go_wp2
        go_ret
        exact ⟨rfl, rfl⟩
      · by_cases h2 : 57 < z
        · have hv : v = false := by rw [← HV.out]; exact natB_bad HC.out (by rw [Bool.eq_false_iff]; intro e; rw [isDig_iff] at e; have := hzc.out; omega)
          subst hv
          go_wp2
          go_ret
          exact ⟨rfl, rfl⟩
        · have hdd : Hid (digs (l.take (k + 1)) = true) := by
            show digs (l.take (k + 1)) = true
            have := hzc.out
            rw [take_snocL HC.out, digs_append, HD.out, digs_cons, (isDig_iff c).2 (by omega)]; rfl
          go_wp2
          go_round
          case rel => exact ⟨k + 1, by omega, by go_num, hdd⟩
          case measure => simp [intOf]; omega
    · obtain rfl : k = L := by omega
      have hdl : digs l = true := by
        have := HD.out
        rwa [List.take_of_length_le (by rw [HL.out]; exact Nat.le_refl _)] at this
      have hlk := HL.out
      have hv := HV.out
      rcases hl : l with _ | ⟨c, r⟩
      · rw [hl] at hlk hv
        obtain rfl : k = 0 := by simpa using hlk.symm
        rw [natB_nil] at hv
        subst hv
        clear hdl hl hlk
        go_wp2
        go_ret
        exact ⟨rfl, rfl⟩
      · rw [hl] at hlk hv hdl
        rw [natB_cons hdl] at hv
        rw [List.length_cons] at hlk
        have hpos : 0 < k := by omega
        have hposI : (0 : Int) < (k : Int) := by omega
        have h0s : 0 < s.size := by omega
        have hby := byte_of HS.out h0s (c := c) (by rw [hl]; rfl)
        clear hdl hl
        by_cases hc : c = 48
        · subst hc
          have h48 : (((48 : UInt8).toNat : Int) != 48) = false := by decide
          by_cases hr : r.length = 0
          · rw [hr] at hv
            have hvt : v = true := by rw [← hv]; rfl
            subst hvt
            obtain rfl : k = 1 := by omega
            clear hv hlk hr
            go_wp2
            go_ret
            exact ⟨rfl, rfl⟩
          · have hvt : v = false := by rw [← hv]; simp; intro e; exact hr (by rw [e]; rfl)
            subst hvt
            have hk1 : ((k : Int) == 1) = false := by simp; omega
            clear hv hlk hr
            go_wp2
            go_ret
            exact ⟨rfl, rfl⟩
        · have hvt : v = true := by rw [← hv]; simp [hc]
          subst hvt
          have hnn : ((c.toNat : Int) != 48) = true := by
            simp only [bne_iff_ne, ne_eq]
            intro e
            exact hc (UInt8.toNat_inj.1 (by have : c.toNat = 48 := by omega
                                            rw [this]; rfl))
          clear hv hlk hc
          go_wp2
          go_ret
          exact ⟨rfl, rfl⟩

/-- what stands ahead of the first stroke, and behind it -/
theorem ahead_take {l : List UInt8} {k : Nat} (h : ∀ i, i < k → ∃ c, l[i]? = some c ∧ c ≠ 47) (hk : l[k]? = some 47) : ahead l = l.take k ∧ behind l = l.drop (k + 1) ∧ hasStroke l = true := by
  have h47 : 47 ∉ l.take k := by
    intro hm
    obtain ⟨i, hi, e⟩ := List.getElem_of_mem hm
    rw [List.length_take] at hi
    obtain ⟨c, hc, hne⟩ := h i (by omega)
    rw [List.getElem_take] at e
    rw [List.getElem?_eq_getElem (by omega)] at hc
    exact hne ((Option.some.inj hc).symm.trans e)
  have hkl : k < l.length := by
    rcases Nat.lt_or_ge k l.length with g | g
    · exact g
    · rw [List.getElem?_eq_none g] at hk; cases hk
  have hl : l = l.take k ++ 47 :: l.drop (k + 1) := by
    have e : l.drop k = 47 :: l.drop (k + 1) := by
      rw [List.drop_eq_getElem_cons hkl]
      rw [List.getElem?_eq_getElem hkl] at hk
      rw [Option.some.inj hk]
    rw [← e, List.take_append_drop]
  obtain ⟨a, b, c⟩ := ahead_app (b := l.drop (k + 1)) h47
  rw [← hl] at a b c
  exact ⟨a, b, c⟩
theorem ahead_all {l : List UInt8} (h : ∀ i, i < l.length → ∃ c, l[i]? = some c ∧ c ≠ 47) : ahead l = l ∧ behind l = [] ∧ hasStroke l = false :=
  ahead_none (by
    intro hm
    obtain ⟨i, hi, e⟩ := List.getElem_of_mem hm
    obtain ⟨c, hc, hne⟩ := h i hi
    rw [List.getElem?_eq_getElem hi] at hc
    exact hne ((Option.some.inj hc).symm.trans e))

set_option maxRecDepth 100000 in
set_option maxHeartbeats 2000000 in
theorem cut4_any {s : ByteArray} {l : List UInt8} (hs : s.data.toList = l) (w : World) (hm : s.size ≤ 9223372036854775807) :
    Calls Try.prog 51 #[.string s] w fun e w' => ∃ s1 s2 : ByteArray, e = .returned (.tuple #[.string s1, .string s2, .bool (hasStroke l)]) ∧ s1.data.toList = ahead l ∧ s2.data.toList = behind l ∧ Below w.heap.size w w' := by
  have hz := size_of hs
  obtain ⟨L, hL⟩ : ∃ L, s.size = L := ⟨_, rfl⟩
  have hLm : L ≤ 9223372036854775807 := by omega
  have hll : l.length = L := by omega
  have HS := Lib.hid hs
  have HL := Lib.hid hll
  obtain ⟨v, hv⟩ : ∃ v, hasStroke l = v := ⟨_, rfl⟩
  have HV := Lib.hid hv
  rw [hv]
  have hsL : s.size ≤ L := by omega
  have hLs : L ≤ s.size := by omega
  clear hz hs hll hm hv
  go_enter Try.func51, Try.ntmps51
  go_wp2
  go_loop [5] (fun i => ∃ k : Nat, k ≤ L ∧ i = .int .i64 k ∧ ∀ i, i < k → ∃ c, l[i]? = some c ∧ c ≠ 47) (fun i => L - (intOf i).toNat)
  case atStart => exact ⟨0, Nat.zero_le _, rfl, fun i hi => absurd hi (by omega)⟩
  case round =>
    obtain ⟨k, hk, rfl, hd⟩ := hrel
    have HD := Lib.hid hd
    clear hd
    by_cases hlt : k < L
    · have hks : k < s.size := by omega
      obtain ⟨c, hc⟩ : ∃ c, l[k]? = some c := ⟨l[k]'(by rw [HL.out]; exact hlt), List.getElem?_eq_getElem _⟩
      have hb := byte_of HS.out hks hc
      have hki : (k : Int) < (L : Int) := by omega
      have HC := Lib.hid hc
      clear hc
      by_cases h47 : c = 47
      · subst h47
        obtain ⟨e1, e2, e3⟩ := ahead_take HD.out HC.out
        have hvt : v = true := HV.out.symm.trans e3
        subst hvt
        have E1 := Lib.hid e1
        have E2 := Lib.hid e2
        have hw1 : IntKind.i64.wrap ((k : Int) + 1) = (k : Int) + 1 := IntWalk.i64_in _ (by omega)
        have hn1 : ((k : Int) + 1).toNat = k + 1 := by omega
        have hg1 : (0 : Int) ≤ (k : Int) + 1 := by omega
        have hg2 : (k : Int) + 1 ≤ (s.size : Int) := by omega
        clear e1 e2 e3
        go_wp2
        go_quiet (fail)
        go_wp2
        exact bodyPost_ret (v := .tuple #[.string (s.extract 0 k), .string (s.extract (k + 1) L), .bool true]) (by simp [results, Try.results51, go_sem]) rfl
          ⟨_, _, rfl, by rw [E1.out]; exact bytes_to HS.out k, by rw [E2.out, ← hL]; exact bytes_from HS.out (k + 1), below_drewN' (Below.refl _ w) _⟩
      · have hnn : ((c.toNat : Int) == 47) = false := by
          simp only [beq_eq_false_iff_ne, ne_eq]
          intro e
          exact h47 (UInt8.toNat_inj.1 (by have : c.toNat = 47 := by omega
                                           rw [this]; rfl))
        have HX : Hid (∀ i, i < k + 1 → ∃ c, l[i]? = some c ∧ c ≠ 47) := by
          intro i hi
          by_cases hik : i < k
          · exact HD.out i hik
          · obtain rfl : i = k := by omega
            exact ⟨c, HC.out, h47⟩
        go_wp2
        go_round
        case rel => exact ⟨k + 1, by omega, by go_num, HX⟩
        case measure => simp [intOf]; omega
    · obtain rfl : k = L := by omega
      have hD := HD.out
      rw [← HL.out] at hD
      obtain ⟨e1, e2, e3⟩ := ahead_all hD
      have hvt : v = false := HV.out.symm.trans e3
      subst hvt
      have E1 := Lib.hid e1
      have E2 := Lib.hid e2
      clear e1 e2 e3 hD
      go_wp2
      exact bodyPost_ret (v := .tuple #[.string s, .string (ByteArray.mk #[]), .bool false]) (by simp [results, Try.results51, go_sem]) rfl ⟨_, _, rfl, by rw [E1.out]; exact HS.out, by rw [E2.out], Below.refl _ _⟩
end Go.Proofs.Ytokinmmnoiacdaa
