/-
  Layer 4's laws: 'falls', and the chapter's rows ('known'): they answer true.
-/
import Derived.Test.YtokinmmnoiacdaaDSpec
namespace Go.Proofs.Ytokinmmnoiacdaa
open Go.RowKit
set_option linter.unusedVariables false
set_option linter.unusedSimpArgs false

theorem limb1 {w : World} {g : Nat} {x : Int} (h : Row w g 63 #[.int .u32 x]) (hx : 0 ≤ x ∧ x < 4294967296) : Arg w (.slice (some ⟨g, 0, none⟩) 1 1) [x] (some ⟨g, 0, none⟩) 1 :=
  ⟨rfl, .inr ⟨g, 0, rfl, fun i hi => by obtain rfl : i = 0 := by simpa using hi
                                        exact h.cell 0⟩, by simp, fun y hy => by rw [List.mem_singleton.1 hy]; exact hx⟩
theorem limb2 {w : World} {g : Nat} {x y : Int} (h : Row w g 63 #[.int .u32 x, .int .u32 y]) (hx : 0 ≤ x ∧ x < 4294967296) (hy : 0 ≤ y ∧ y < 4294967296) : Arg w (.slice (some ⟨g, 0, none⟩) 2 2) [x, y] (some ⟨g, 0, none⟩) 2 :=
  ⟨rfl, .inr ⟨g, 0, rfl, fun i hi => by
    have : i = 0 ∨ i = 1 := by simp at hi; omega
    rcases this with rfl | rfl
    · exact h.cell 0
    · exact h.cell 1⟩, by simp, fun z hz => by
      rcases List.mem_cons.1 hz with rfl | hz
      · exact hx
      · rw [List.mem_singleton.1 hz]; exact hy⟩

theorem limbQ {w : World} {neg : Bool} {g1 g2 : Nat} {x y : Int} (R1 : Row w g1 63 #[.int .u32 x]) (R2 : Row w g2 63 #[.int .u32 y]) (hx : 0 ≤ x ∧ x < 4294967296) (hy : 0 ≤ y ∧ y < 4294967296) :
    ArgQ w (.agg #[.bool neg, .slice (some ⟨g1, 0, none⟩) 1 1, .slice (some ⟨g2, 0, none⟩) 1 1]) (ratOf neg x y) 1 :=
  ⟨neg, [x], [y], _, _, 1, 1, rfl, limb1 R1 hx, limb1 R2 hy, by simp [val], by simp, by simp⟩
theorem rows2 (V : World) (x y : Int) : Row ((V.alloc (.cells #[.int .u32 x] 63)).alloc (.cells #[.int .u32 y] 63)) V.heap.size 63 #[.int .u32 x] ∧ Row ((V.alloc (.cells #[.int .u32 x] 63)).alloc (.cells #[.int .u32 y] 63)) (V.heap.size + 1) 63 #[.int .u32 y] := by
  refine ⟨(Row.new _ _ _).alloc _, ?_⟩
  have h := Row.new (V.alloc (.cells #[.int .u32 x] 63)) 63 #[.int .u32 y]
  simp only [World.size_alloc] at h
  exact h

set_option maxRecDepth 100000 in
set_option maxHeartbeats 8000000 in
theorem falls_any {s : ByteArray} {l : List UInt8} {c : Int} (hs : s.data.toList = l) (hc : codeR l = c) (h0 : c ≠ 0) (w : World) (hm : s.size ≤ 9223372036854775807) :
    Calls Try.prog 25 #[.string s, .int .i64 c] w fun e w' => e = .returned (.bool true) ∧ Below w.heap.size w w' := by
  have hp := parseQ_any hs w hm
  rw [hc] at hp
  have HC := Lib.hid hc
  have H0 := Lib.hid h0
  have hcc : (c == c) = true := by simp
  clear hc h0
  go_enter Try.func25, Try.ntmps25
  go_wp2_with fail
  refine hp.mono ?_
  rintro e w1 ⟨r, rfl, hr, hb1⟩
  have hz : r = .agg #[.bool false, .slice none 0 0, .slice none 0 0] := by unfold ParsedQ at hr; rwa [if_neg (by rw [HC.out]; exact H0.out)] at hr
  subst hz
  clear hr hp
  obtain ⟨U, hU⟩ : ∃ U, w1.alloc (.cells #[.bool false, .slice none 0 0, .slice none 0 0] 40) = U := ⟨_, rfl⟩
  have hbU : Below w1.heap.size w1 U := by rw [← hU]; exact (Below.refl _ _).alloc (Nat.le_refl _) _
  have R : Row U w1.heap.size 40 #[.bool false, .slice none 0 0, .slice none 0 0] := by rw [← hU]; exact Row.new _ _ _
  obtain ⟨t0, t1, t2, _, _, _⟩ := R.three
  have hB : Below w.heap.size w U := hb1.trans (hbU.mono hb1.size)
  go_wp2
  go_ret
  have hs1 := hb1.size
  first | exact ⟨rfl, hB⟩ | exact ⟨rfl, below_set3 hB (by omega) _ _ _⟩ | (rw [← hU] at hB; exact ⟨rfl, hB⟩)

/-- a text that is not that of the number that is read of it -/
def textB (x : Rat) (l : List UInt8) : Bool := sgnL l == decide (x.num < 0) && (numL (partA l) == x.num.natAbs) && (numL (partB l) == x.den) && (hasStroke l != decide (x.den = 1))
theorem text_same {l : List UInt8} (h : ratS (valR l) = l) : textB (valR l) l = true := by
  obtain ⟨h1, h2, h3⟩ := parts_ratS (valR l)
  have h4 : hasStroke (ratS (valR l)) = !decide ((valR l).den = 1) := by
    have hn : ∀ n, 47 ∉ dec n := fun n => dec_no (by decide)
    unfold ratS
    have ha : 47 ∉ (if (valR l).num < 0 then [45] else []) ++ dec (valR l).num.natAbs := by
      intro hm
      rcases List.mem_append.1 hm with h | h
      · split at h <;> simp at h
      · exact hn _ h
    by_cases hd : (valR l).den = 1
    · rw [if_pos hd, List.append_nil, (ahead_none ha).2.2]; simp [hd]
    · rw [if_neg hd, (ahead_app ha).2.2]; simp [hd]
  rw [h] at h1 h2 h3 h4
  unfold textB
  rw [h1, h2, h3, h4, dec_num, dec_num]
  simp
theorem text_other {l : List UInt8} (h : textB (valR l) l = false) : ratS (valR l) ≠ l := by
  intro e
  rw [text_same e] at h
  cases h
theorem code0 : codeR [50, 47, 52] = 6 := codeR_other (by decide) (by decide) (codeN_ok (by decide) (by decide +kernel)) (codeN_ok (by decide) (by decide +kernel)) (text_other (by decide +kernel))
theorem code1 : codeR [51, 47, 49] = 6 := codeR_other (by decide) (by decide) (codeN_ok (by decide) (by decide +kernel)) (codeN_ok (by decide) (by decide +kernel)) (text_other (by decide +kernel))
theorem code2 : codeR [45, 48] = 6 := codeR_other (by decide) (by decide) (codeN_ok (by decide) (by decide +kernel)) (codeN_ok (by decide) (by decide +kernel)) (text_other (by decide +kernel))
theorem code3 : codeR [48, 47, 51] = 6 := codeR_other (by decide) (by decide) (codeN_ok (by decide) (by decide +kernel)) (codeN_ok (by decide) (by decide +kernel)) (text_other (by decide +kernel))
theorem code4 : codeR [49, 47, 48] = 6 := codeR_other (by decide) (by decide) (codeN_ok (by decide) (by decide +kernel)) (codeN_ok (by decide) (by decide +kernel)) (text_other (by decide +kernel))
theorem code5 : codeR [48, 49, 47, 50] = 19 := codeR_bad (by decide)
theorem code6 : codeR [49, 47] = 19 := codeR_bad (by decide)
theorem code7 : codeR [45, 47, 50] = 19 := codeR_bad (by decide)
theorem code8 : codeR [49, 47, 45, 50] = 19 := codeR_bad (by decide)
theorem code9 : codeR [43, 49] = 19 := codeR_bad (by decide)

set_option maxRecDepth 100000 in
set_option maxHeartbeats 8000000 in
theorem known4_any (w : World) : Calls Try.prog 12 #[] w fun e w' => e = .returned (.bool true) ∧ Below w.heap.size w w' := by
  have h19 : ((19 : Int) == 19) = true := by decide
  have p1 := fun w => parse4_any (s := ByteArray.mk #[48, 48, 55]) (l := [48, 48, 55]) rfl w (by decide)
  have p2 := fun w => parse4_any (s := ByteArray.mk #[49, 120]) (l := [49, 120]) rfl w (by decide)
  have p3 := fun w => parse4_any (s := ByteArray.mk #[]) (l := []) rfl w (by decide)
  rw [codeN_bad (show natB [48, 48, 55] = false by decide)] at p1
  rw [codeN_bad (show natB [49, 120] = false by decide)] at p2
  rw [codeN_bad natB_nil] at p3
  go_enter Try.func12, Try.ntmps12
  go_wp2_with fail
  refine (p1 _).mono ?_
  rintro e V1 ⟨r1, rfl, -, hb1⟩
  go_wp2_with fail
  refine (p2 _).mono ?_
  rintro e V2 ⟨r2, rfl, -, hb2⟩
  go_wp2_with fail
  refine (p3 _).mono ?_
  rintro e V3 ⟨r3, rfl, -, hb3⟩
  have hB3 : Below w.heap.size w V3 := hb1.trans ((hb2.trans (hb3.mono hb2.size)).mono hb1.size)
  have hs3 := hB3.size
  clear p1 p2 p3 hb1 hb2 hb3
  go_wp2_with fail
  refine (nat4_any (limb2 (Row.new _ _ _) (by omega) (by omega)) (by simp)).mono ?_
  rintro e V4 ⟨s4, rfl, hs, -, hb4⟩
  have hq : (s4.toList == [52, 50, 57, 52, 57, 54, 55, 50, 57, 54]) = true := by
    rw [ByteArray.toList_eq, hs]
    have e1 : (val [0, 1]).toNat = numL [52, 50, 57, 52, 57, 54, 55, 50, 57, 54] := by decide
    rw [e1, dec_of_natB (by decide)]
    rfl
  have hB4 : Below w.heap.size w V4 := (hB3.alloc (by omega) _).trans (hb4.mono (by simp; omega))
  have hs4 := hB4.size
  clear hs hb4
  go_wp2_with fail
  refine (rat4_any (limbQ (neg := true) (rows2 V4 3 4).1 (rows2 V4 3 4).2 (by omega) (by omega)) (by omega)).mono ?_
  rintro e V5 ⟨s5, rfl, hs, -, hb5⟩
  have hq5 : (s5.toList == [45, 51, 47, 52]) = true := by
    rw [ByteArray.toList_eq, hs, ratS_parts (ratOf true 3 4) true false (by decide +kernel) (by decide +kernel), show (ratOf true 3 4).num.natAbs = 3 by decide +kernel, show (ratOf true 3 4).den = 4 by decide +kernel, dec_small (n := 3) (by omega), dec_small (n := 4) (by omega)]
    rfl
  have hB5 : Below w.heap.size w V5 := ((hB4.alloc (by omega) _).alloc (by simp; omega) _).trans (hb5.mono (by simp; omega))
  have hs5 := hB5.size
  clear hs hb5
  go_wp2_with fail
  refine (rat4_any (limbQ (neg := false) (rows2 V5 7 1).1 (rows2 V5 7 1).2 (by omega) (by omega)) (by omega)).mono ?_
  rintro e V6 ⟨s6, rfl, hs, -, hb6⟩
  have hq6 : (s6.toList == [55]) = true := by
    rw [ByteArray.toList_eq, hs, ratS_parts (ratOf false 7 1) false true (by decide +kernel) (by decide +kernel), show (ratOf false 7 1).num.natAbs = 7 by decide +kernel, show (ratOf false 7 1).den = 1 by decide +kernel, dec_small (n := 7) (by omega), dec_small (n := 1) (by omega)]
    rfl
  have hB6 : Below w.heap.size w V6 := ((hB5.alloc (by omega) _).alloc (by simp; omega) _).trans (hb6.mono (by simp; omega))
  have hs6 := hB6.size
  clear hs hb6
  go_wp2_with fail
  refine (falls_any (l := [50, 47, 52]) rfl code0 (by decide) _ (by decide)).mono ?_
  rintro e V7 ⟨rfl, hb7⟩
  have hB7 : Below w.heap.size w V7 := hB6.trans (hb7.mono (by omega))
  have hs7 := hB7.size
  clear hb7
  go_wp2_with fail
  refine (falls_any (l := [51, 47, 49]) rfl code1 (by decide) _ (by decide)).mono ?_
  rintro e V8 ⟨rfl, hb8⟩
  have hB8 : Below w.heap.size w V8 := hB7.trans (hb8.mono (by omega))
  have hs8 := hB8.size
  clear hb8
  go_wp2_with fail
  refine (falls_any (l := [45, 48]) rfl code2 (by decide) _ (by decide)).mono ?_
  rintro e V9 ⟨rfl, hb9⟩
  have hB9 : Below w.heap.size w V9 := hB8.trans (hb9.mono (by omega))
  have hs9 := hB9.size
  clear hb9
  go_wp2_with fail
  refine (falls_any (l := [48, 47, 51]) rfl code3 (by decide) _ (by decide)).mono ?_
  rintro e V10 ⟨rfl, hb10⟩
  have hB10 : Below w.heap.size w V10 := hB9.trans (hb10.mono (by omega))
  have hs10 := hB10.size
  clear hb10
  go_wp2_with fail
  refine (falls_any (l := [49, 47, 48]) rfl code4 (by decide) _ (by decide)).mono ?_
  rintro e V11 ⟨rfl, hb11⟩
  have hB11 : Below w.heap.size w V11 := hB10.trans (hb11.mono (by omega))
  have hs11 := hB11.size
  clear hb11
  go_wp2_with fail
  refine (falls_any (l := [48, 49, 47, 50]) rfl code5 (by decide) _ (by decide)).mono ?_
  rintro e V12 ⟨rfl, hb12⟩
  have hB12 : Below w.heap.size w V12 := hB11.trans (hb12.mono (by omega))
  have hs12 := hB12.size
  clear hb12
  go_wp2_with fail
  refine (falls_any (l := [49, 47]) rfl code6 (by decide) _ (by decide)).mono ?_
  rintro e V13 ⟨rfl, hb13⟩
  have hB13 : Below w.heap.size w V13 := hB12.trans (hb13.mono (by omega))
  have hs13 := hB13.size
  clear hb13
  go_wp2_with fail
  refine (falls_any (l := [45, 47, 50]) rfl code7 (by decide) _ (by decide)).mono ?_
  rintro e V14 ⟨rfl, hb14⟩
  have hB14 : Below w.heap.size w V14 := hB13.trans (hb14.mono (by omega))
  have hs14 := hB14.size
  clear hb14
  go_wp2_with fail
  refine (falls_any (l := [49, 47, 45, 50]) rfl code8 (by decide) _ (by decide)).mono ?_
  rintro e V15 ⟨rfl, hb15⟩
  have hB15 : Below w.heap.size w V15 := hB14.trans (hb15.mono (by omega))
  have hs15 := hB15.size
  clear hb15
  go_wp2_with fail
  refine (falls_any (l := [43, 49]) rfl code9 (by decide) _ (by decide)).mono ?_
  rintro e V16 ⟨rfl, hb16⟩
  have hB16 : Below w.heap.size w V16 := hB15.trans (hb16.mono (by omega))
  have hs16 := hB16.size
  clear hb16
  go_wp2_with fail
  go_ret
  exact ⟨rfl, hB16⟩
end Go.Proofs.Ytokinmmnoiacdaa
