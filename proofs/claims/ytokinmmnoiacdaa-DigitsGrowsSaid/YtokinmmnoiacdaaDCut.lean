/-
  strings.CutPrefix at "-", strings.Cut at "/".
-/
import Derived.Test.YtokinmmnoiacdaaDNum
import Derived.Laws.StandIn
import Derived.Lib.Bytealg
import Derived.Shelf.RegionOpenPlain
namespace Go.Proofs.Ytokinmmnoiacdaa
open Go.RowKit Go.Shelf
set_option linter.unusedVariables false
set_option linter.unusedSimpArgs false

set_option maxRecDepth 100000 in
set_option maxHeartbeats 2000000 in
theorem hasPrefix_any {s : ByteArray} {l : List UInt8} (hs : s.data.toList = l) (w : World) (hm : s.size ≤ 9223372036854775807) :
    Calls Try.prog 92 #[.string s, .string (ByteArray.mk #[45])] w fun e w' => e = .returned (.bool (sgnL l)) ∧ Below w.heap.size w w' := by
  have hz := size_of hs
  rcases hl : l with _ | ⟨c, r⟩
  · rw [hl] at hz
    have hz0 : s.size = 0 := by simpa using hz
    have h1 : ¬ ((1 : Int) ≤ (s.size : Int)) := by omega
    rw [sgnL_nil]
    clear hz hl hs
    go_enter Try.func92, Try.ntmps92
    go_wp2_with fail
    go_ret
    exact ⟨rfl, Below.refl _ _⟩
  · rw [hl, List.length_cons] at hz
    have hz0 : 1 ≤ s.size := by omega
    have h1 : (1 : Int) ≤ (s.size : Int) := by omega
    have h2 : (0 : Int) ≤ 1 := by omega
    obtain ⟨b, hb⟩ : ∃ b, (c == 45) = b := ⟨_, rfl⟩
    have hq : ((s.extract 0 1).toList == [45]) = b := by
      rw [ByteArray.toList_eq, bytes_to hs 1, hl, ← hb]
      simp
    rw [sgnL_cons, hb]
    clear hz hl hs hb
    cases b
    all_goals
      go_enter Try.func92, Try.ntmps92
      go_wp2_with fail
      go_ret
      exact ⟨rfl, Below.refl _ _⟩

set_option maxRecDepth 100000 in
set_option maxHeartbeats 2000000 in
theorem cutPrefix0_any {s : ByteArray} {l : List UInt8} (hs : s.data.toList = l) (w : World) (hm : s.size ≤ 9223372036854775807) :
    Calls Try.prog 74 #[.string s, .string (ByteArray.mk #[45])] w fun e w' => ∃ t : ByteArray, e = .returned (.tuple #[.string t, .bool (sgnL l)]) ∧ t.data.toList = bare l ∧ Below w.heap.size w w' := by
  have hp := hasPrefix_any hs w hm
  have hz := size_of hs
  obtain ⟨b, hb⟩ : ∃ b, sgnL l = b := ⟨_, rfl⟩
  have HB := Lib.hid hb
  have HS := Lib.hid hs
  have hpos : b = true → (1 : Int) ≤ (s.size : Int) := by
    intro h
    rw [h] at hb
    have hne : l ≠ [] := by rintro rfl; cases hb
    have := List.length_pos_iff.2 hne
    omega
  rw [hb] at hp ⊢
  clear hz hb hs
  go_enter Try.func74, Try.ntmps74
  go_wp2_with fail
  refine hp.mono ?_
  rintro e w1 ⟨rfl, hb1⟩
  clear hp
  cases b
  · go_wp2_with fail
    go_ret2
    exact ⟨s, rfl, by rw [bare_neg HB.out]; exact HS.out, hb1⟩
  · have h1 := hpos rfl
    clear hpos
    go_wp2_with fail
    go_ret2
    exact ⟨_, rfl, by rw [bare_pos HB.out]; exact bytes_from HS.out 1, hb1⟩

set_option maxRecDepth 100000 in
set_option maxHeartbeats 2000000 in
theorem cutPrefix_any {s : ByteArray} {l : List UInt8} (hs : s.data.toList = l) (w : World) (hm : s.size ≤ 9223372036854775807) :
    Calls Try.prog 48 #[.string s, .string (ByteArray.mk #[45])] w fun e w' => ∃ t : ByteArray, e = .returned (.tuple #[.string t, .bool (sgnL l)]) ∧ t.data.toList = bare l ∧ Below w.heap.size w w' := by
  have hp := cutPrefix0_any hs w hm
  obtain ⟨b, hb⟩ : ∃ b, sgnL l = b := ⟨_, rfl⟩
  rw [hb] at hp ⊢
  clear hb
  go_enter Try.func48, Try.ntmps48
  go_wp2_with fail
  refine hp.mono ?_
  rintro e w1 ⟨t, rfl, ht, hb1⟩
  have HT := Lib.hid ht
  clear hp ht
  go_wp2_with fail
  go_ret2
  exact ⟨t, rfl, HT.out, hb1⟩

/-! the first stroke -/
theorem stroke_at (l : List UInt8) : (hasStroke l = true → Lib.indexByte l 47 = ((ahead l).length : Nat) ∧ (ahead l).length < l.length ∧ l.drop ((ahead l).length + 1) = behind l ∧ l.take (ahead l).length = ahead l) ∧ (hasStroke l = false → Lib.indexByte l 47 = -1 ∧ ahead l = l ∧ behind l = []) := by
  induction l with
  | nil => exact ⟨fun h => (by cases h), fun _ => ⟨rfl, rfl, rfl⟩⟩
  | cons c r ih =>
    unfold hasStroke ahead behind at *
    by_cases hc : c = 47
    · subst hc
      refine ⟨fun _ => ⟨by simp [Lib.indexByte], by simp, by simp, by simp⟩, fun h => by simp at h⟩
    · have hb : (c == 47) = false := by simpa using hc
      have hb2 : (c != 47) = true := by simpa using hc
      simp only [List.any_cons, hb, Bool.false_or, List.takeWhile_cons, List.dropWhile_cons, hb2, if_true, Lib.indexByte, Bool.false_eq_true, if_false]
      refine ⟨fun h => ?_, fun h => ?_⟩
      · obtain ⟨h1, h2, h3, h4⟩ := ih.1 h
        rw [h1]
        have hne : ((((r.takeWhile (fun c => c != 47)).length : Nat) : Int) == -1) = false := by rw [beq_eq_false_iff_ne]; omega
        rw [hne]
        simp only [Bool.false_eq_true, if_false, List.length_cons]
        refine ⟨by omega, by omega, by simpa using h3, by simpa using h4⟩
      · obtain ⟨h1, h2, h3⟩ := ih.2 h
        rw [h1]
        exact ⟨by simp, by rw [h2], h3⟩

set_option maxRecDepth 100000 in
set_option maxHeartbeats 2000000 in
theorem indexByte_any {s : ByteArray} {l : List UInt8} (hs : s.data.toList = l) (w : World) :
    Calls Try.prog 100 #[.string s, .int .u8 47] w fun e w' => e = .returned (.int .i64 (Lib.indexByte l 47)) ∧ w' = w := by
  subst hs
  go_enter Try.func100, Try.ntmps100
  go_wp2
  rw [run_callFunc_indexByte Try.func108 (by kernel_rfl) (by kernel_rfl) (by kernel_rfl) (by kernel_rfl), Lib.run_indexByteString]
  simp only [Result.andThen]
  rw [Oper.upon_value]
  go_wp2
  go_ret
  exact ⟨rfl, rfl⟩

set_option maxRecDepth 100000 in
set_option maxHeartbeats 2000000 in
theorem index_any {s : ByteArray} {l : List UInt8} (hs : s.data.toList = l) (w : World) :
    Calls Try.prog 93 #[.string s, .string (ByteArray.mk #[47])] w fun e w' => e = .returned (.int .i64 (Lib.indexByte l 47)) ∧ w' = w := by
  have hi := indexByte_any hs w
  obtain ⟨b, hb⟩ : ∃ b, (l == [47]) = b := ⟨_, rfl⟩
  have hq : (s.toList == [47]) = b := by rw [ByteArray.toList_eq, hs]; exact hb
  have hq2 : (([47] : List UInt8) == s.toList) = b := by rw [ByteArray.toList_eq, hs, ← hb, Bool.eq_iff_iff, beq_iff_eq, beq_iff_eq]; exact eq_comm
  obtain ⟨x, hx⟩ : ∃ x, Lib.indexByte l 47 = x := ⟨_, rfl⟩
  have h0 : b = true → x = 0 := by
    intro h
    rw [h] at hb
    have e : l = [47] := by simpa using hb
    rw [← hx, e]; rfl
  rw [hx] at hi ⊢
  clear hx hb hs
  cases b
  · clear h0
    go_enter Try.func93, Try.ntmps93
    go_wp2_with fail
    refine hi.mono ?_
    rintro e w' ⟨rfl, rfl⟩
    clear hi
    go_wp2_with fail
    go_ret
    exact ⟨rfl, rfl⟩
  · obtain rfl := h0 rfl
    clear h0 hi
    go_enter Try.func93, Try.ntmps93
    go_wp2_with fail
    go_ret
    exact ⟨rfl, rfl⟩


set_option maxRecDepth 100000 in
set_option maxHeartbeats 2000000 in
theorem cut0_any {s : ByteArray} {l : List UInt8} (hs : s.data.toList = l) (w : World) (hm : s.size ≤ 9223372036854775807) :
    Calls Try.prog 75 #[.string s, .string (ByteArray.mk #[47])] w fun e w' => ∃ ta tb : ByteArray, e = .returned (.tuple #[.string ta, .string tb, .bool (hasStroke l)]) ∧ ta.data.toList = ahead l ∧ tb.data.toList = behind l ∧ Below w.heap.size w w' := by
  have hz := size_of hs
  have hi := index_any hs w
  have hst := stroke_at l
  obtain ⟨b, hb⟩ : ∃ b, hasStroke l = b := ⟨_, rfl⟩
  have HS := Lib.hid hs
  have mixed : Try.prog.follows .mixedOrders = true := by kernel_rfl
  rw [hb] at hst ⊢
  cases b
  · obtain ⟨h1, h2, h3⟩ := hst.2 rfl
    rw [h1] at hi
    have H2 := Lib.hid h2
    have H3 := Lib.hid h3
    clear hst hb h1 h2 h3 hs hz
    go_enter Try.func75, Try.ntmps75
    go_wp2_with fail
    refine hi.mono ?_
    rintro e w' ⟨rfl, rfl⟩
    clear hi
    go_wp2_with fail
    go_ret3
    exact ⟨s, _, rfl, by rw [H2.out]; exact HS.out, by rw [H3.out], Below.refl _ _⟩
  · obtain ⟨h1, h2, h3, h4⟩ := hst.1 rfl
    rw [h1] at hi
    obtain ⟨k, hk⟩ : ∃ k, (ahead l).length = k := ⟨_, rfl⟩
    rw [hk] at hi h2 h3 h4
    have H3 := Lib.hid h3
    have H4 := Lib.hid h4
    have hks : k < s.size := by omega
    have hkI : (k : Int) ≤ (s.size : Int) := by omega
    have hkI2 : (k : Int) + 1 ≤ (s.size : Int) := by omega
    have hk0 : (0 : Int) ≤ (k : Int) := by omega
    have hk1 : (0 : Int) ≤ (k : Int) + 1 := by omega
    have hw : IntKind.i64.wrap ((k : Int) + 1) = (k : Int) + 1 := IntWalk.i64_in _ (by omega)
    clear hst hb h1 h2 h3 h4 hs hz hk
    go_enter Try.func75, Try.ntmps75
    go_wp2_with fail
    refine hi.mono ?_
    rintro e w' ⟨rfl, rfl⟩
    clear hi
    go_wp2_with fail
    go_region_o
    go_wp2
    go_ret3
    refine ⟨_, _, rfl, ?_, ?_, ?_⟩
    · first | (rw [← H4.out]; exact bytes_to HS.out k) | (rw [← H4.out]; simpa using bytes_to HS.out k)
    · first | (rw [← H3.out]; exact bytes_from HS.out (k + 1)) | (rw [← H3.out]; simpa using bytes_from HS.out (k + 1))
    · exact (Below.refl _ _).drew

set_option maxRecDepth 100000 in
set_option maxHeartbeats 2000000 in
theorem cut_parts {s : ByteArray} {l : List UInt8} (hs : s.data.toList = l) (w : World) (hm : s.size ≤ 9223372036854775807) :
    Calls Try.prog 49 #[.string s, .string (ByteArray.mk #[47])] w fun e w' => ∃ ta tb : ByteArray, e = .returned (.tuple #[.string ta, .string tb, .bool (hasStroke l)]) ∧ ta.data.toList = ahead l ∧ tb.data.toList = behind l ∧ Below w.heap.size w w' := by
  have hp := cut0_any hs w hm
  obtain ⟨b, hb⟩ : ∃ b, hasStroke l = b := ⟨_, rfl⟩
  rw [hb] at hp ⊢
  clear hb
  go_enter Try.func49, Try.ntmps49
  go_wp2_with fail
  refine hp.mono ?_
  rintro e w1 ⟨ta, tb, rfl, ht, ht2, hb1⟩
  have HT := Lib.hid ht
  have HT2 := Lib.hid ht2
  clear hp ht ht2
  go_wp2_with fail
  go_ret3
  exact ⟨ta, tb, rfl, HT.out, HT2.out, hb1⟩
end Go.Proofs.Ytokinmmnoiacdaa
