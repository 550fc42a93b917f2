/-
  The reference of layer 4: Rat.
-/
import Derived.Test.YtokinmmnoiacdaaDRefC
namespace Go.Proofs.Ytokinmmnoiacdaa
open Go.RowKit
set_option linter.unusedVariables false
set_option linter.unusedSimpArgs false

theorem ratS_parts (x : Rat) (m o : Bool) (hm : decide (x.num < 0) = m) (ho : decide (x.den = 1) = o) :
    ratS x = (if m = true then [45] else []) ++ dec x.num.natAbs ++ (if o = true then [] else 47 :: dec x.den) := by
  subst hm; subst ho; unfold ratS; simp

set_option maxRecDepth 100000 in
set_option maxHeartbeats 4000000 in
theorem ratD_any {n : Nat} {w : World} {v : Value} {X : Rat} (h : ArgR w v X n) (hn : n ≤ 1048576) :
    Calls Try.prog 21 #[v] w fun e w' => ∃ s : ByteArray, e = .returned (.string s) ∧ s.data.toList = ratS X ∧ Below w.heap.size w w' := by
  obtain ⟨zs, ys, a1, a2, c1, c2, rfl, A, B, hA, hB, hx, hy⟩ := h
  obtain ⟨nb, hnb⟩ : ∃ nb, decide (X.num < 0) = nb := ⟨_, rfl⟩
  obtain ⟨ob, hob⟩ : ∃ ob, decide (X.den = 1) = ob := ⟨_, rfl⟩
  have HP := Lib.hid (ratS_parts X nb ob hnb hob)
  rw [hnb]
  obtain ⟨W, hW⟩ : ∃ W, (w.alloc (.cells #[.bool nb, .slice a1 zs.length c1, .slice a2 ys.length c2] 44)) = W := ⟨_, rfl⟩
  have R0 : Row W (w.heap.size) 44 #[.bool nb, .slice a1 zs.length c1, .slice a2 ys.length c2] := by rw [← hW]; exact (Row.new _ _ _)
  have hBW : Below w.heap.size w W := by rw [← hW]; exact ((Below.refl _ _).alloc (by (try simp) <;> omega) _)
  have hsW : w.heap.size + 1 ≤ W.heap.size := by rw [← hW]; simp
  have AW := A.later hBW
  have BW := B.later hBW
  have HN := Lib.hid (show dec (valD zs).toNat = dec X.num.natAbs by rw [hA]; rfl)
  have HD := Lib.hid (show dec (valD ys).toNat = dec X.den by rw [hB]; rfl)
  have HDO := Lib.hid hob
  clear hA hB hnb hob A B
  obtain ⟨t0, t1, t2, _, _, _⟩ := R0.three
  go_enter Try.func21, Try.ntmps21
  cases nb <;> cases ob
  case false.false =>
    have HW : Hid (ratS X = dec X.num.natAbs ++ [47] ++ dec X.den) := by show ratS X = dec X.num.natAbs ++ [47] ++ dec X.den; rw [HP.out]; simp
    clear HP
    have HO := Lib.hid (show (dec X.den == [49]) = false from by rw [← dec_one]; simp only [beq_eq_false_iff_ne, ne_eq]; intro e; exact of_decide_eq_false HDO.out (dec_inj e))
    go_wp2_with fail
    refine (natD_any AW (by omega)).mono ?_
    rintro e w1 ⟨s1, rfl, hs1, hz1, hb1⟩
    have hl1 := hb1.size
    have R1 := R0.later hb1
    have BW1 := BW.later hb1
    have HS1 := Lib.hid hs1
    clear t0 t1 t2 hs1
    obtain ⟨t0, t1, t2, _, _, _⟩ := R1.three
    go_wp2_with fail
    refine (natD_any BW1 (by omega)).mono ?_
    rintro e w2 ⟨s2, rfl, hs2, hz2, hb2⟩
    have hl2 := hb2.size
    have R2 := R1.later hb2
    have BW2 := BW1.later hb2
    have HS2 := Lib.hid hs2
    have ht : (s2.toList == [49]) = false := by
      rw [ByteArray.toList_eq, hs2, HD.out]
      exact HO.out
    clear t0 t1 t2 hs2
    obtain ⟨t0, t1, t2, _, _, _⟩ := R2.three
    go_wp2_with fail
    refine (natD_any BW2 (by omega)).mono ?_
    rintro e w3 ⟨s3, rfl, hs3, hz3, hb3⟩
    have hl3 := hb3.size
    have HS3 := Lib.hid hs3
    clear t0 t1 t2 hs3
    go_wp2
    go_ret
    exact ⟨_, rfl, by rw [HW.out]; exact bytes_app (bytes_app (by rw [HS1.out, HN.out]) rfl) (by rw [HS3.out, HD.out]), hBW.trans (((hb1.trans (hb2.mono hl1)).trans (hb3.mono (by omega))).mono (by omega))⟩
  case false.true =>
    have HW : Hid (ratS X = dec X.num.natAbs) := by show ratS X = dec X.num.natAbs; rw [HP.out]; simp
    clear HP
    have HO := Lib.hid (of_decide_eq_true HDO.out)
    go_wp2_with fail
    refine (natD_any AW (by omega)).mono ?_
    rintro e w1 ⟨s1, rfl, hs1, hz1, hb1⟩
    have hl1 := hb1.size
    have R1 := R0.later hb1
    have BW1 := BW.later hb1
    have HS1 := Lib.hid hs1
    clear t0 t1 t2 hs1
    obtain ⟨t0, t1, t2, _, _, _⟩ := R1.three
    go_wp2_with fail
    refine (natD_any BW1 (by omega)).mono ?_
    rintro e w2 ⟨s2, rfl, hs2, hz2, hb2⟩
    have hl2 := hb2.size
    have R2 := R1.later hb2
    have BW2 := BW1.later hb2
    have HS2 := Lib.hid hs2
    have ht : (s2.toList == [49]) = true := by
      rw [ByteArray.toList_eq, hs2, HD.out]
      rw [HO.out, dec_one]; rfl
    clear t0 t1 t2 hs2
    go_wp2
    go_ret
    exact ⟨_, rfl, by rw [HW.out]; rw [HS1.out, HN.out], hBW.trans ((hb1.trans (hb2.mono hl1)).mono (by omega))⟩
  case true.false =>
    have HW : Hid (ratS X = [45] ++ dec X.num.natAbs ++ [47] ++ dec X.den) := by show ratS X = [45] ++ dec X.num.natAbs ++ [47] ++ dec X.den; rw [HP.out]; simp
    clear HP
    have HO := Lib.hid (show (dec X.den == [49]) = false from by rw [← dec_one]; simp only [beq_eq_false_iff_ne, ne_eq]; intro e; exact of_decide_eq_false HDO.out (dec_inj e))
    go_wp2_with fail
    refine (natD_any AW (by omega)).mono ?_
    rintro e w1 ⟨s1, rfl, hs1, hz1, hb1⟩
    have hl1 := hb1.size
    have R1 := R0.later hb1
    have BW1 := BW.later hb1
    have HS1 := Lib.hid hs1
    clear t0 t1 t2 hs1
    obtain ⟨t0, t1, t2, _, _, _⟩ := R1.three
    go_wp2_with fail
    refine (natD_any BW1 (by omega)).mono ?_
    rintro e w2 ⟨s2, rfl, hs2, hz2, hb2⟩
    have hl2 := hb2.size
    have R2 := R1.later hb2
    have BW2 := BW1.later hb2
    have HS2 := Lib.hid hs2
    have ht : (s2.toList == [49]) = false := by
      rw [ByteArray.toList_eq, hs2, HD.out]
      exact HO.out
    clear t0 t1 t2 hs2
    obtain ⟨t0, t1, t2, _, _, _⟩ := R2.three
    go_wp2_with fail
    refine (natD_any BW2 (by omega)).mono ?_
    rintro e w3 ⟨s3, rfl, hs3, hz3, hb3⟩
    have hl3 := hb3.size
    have HS3 := Lib.hid hs3
    clear t0 t1 t2 hs3
    go_wp2
    go_ret
    exact ⟨_, rfl, by rw [HW.out]; exact bytes_app (bytes_app (bytes_app rfl (by rw [HS1.out, HN.out])) rfl) (by rw [HS3.out, HD.out]), hBW.trans (((hb1.trans (hb2.mono hl1)).trans (hb3.mono (by omega))).mono (by omega))⟩
  case true.true =>
    have HW : Hid (ratS X = [45] ++ dec X.num.natAbs) := by show ratS X = [45] ++ dec X.num.natAbs; rw [HP.out]; simp
    clear HP
    have HO := Lib.hid (of_decide_eq_true HDO.out)
    go_wp2_with fail
    refine (natD_any AW (by omega)).mono ?_
    rintro e w1 ⟨s1, rfl, hs1, hz1, hb1⟩
    have hl1 := hb1.size
    have R1 := R0.later hb1
    have BW1 := BW.later hb1
    have HS1 := Lib.hid hs1
    clear t0 t1 t2 hs1
    obtain ⟨t0, t1, t2, _, _, _⟩ := R1.three
    go_wp2_with fail
    refine (natD_any BW1 (by omega)).mono ?_
    rintro e w2 ⟨s2, rfl, hs2, hz2, hb2⟩
    have hl2 := hb2.size
    have R2 := R1.later hb2
    have BW2 := BW1.later hb2
    have HS2 := Lib.hid hs2
    have ht : (s2.toList == [49]) = true := by
      rw [ByteArray.toList_eq, hs2, HD.out]
      rw [HO.out, dec_one]; rfl
    clear t0 t1 t2 hs2
    go_wp2
    go_ret
    exact ⟨_, rfl, by rw [HW.out]; exact bytes_app rfl (by rw [HS1.out, HN.out]), hBW.trans ((hb1.trans (hb2.mono hl1)).mono (by omega))⟩
end Go.Proofs.Ytokinmmnoiacdaa
