/-
  Layer 4's contracts (package digits): Rat, ParseRat; the others are imported.
-/
import Derived.Test.YtokinmmnoiacdaaDRefE
import Derived.Test.YtokinmmnoiacdaaDCut
import Derived.Test.YtokinmmnoiacdaaB5
namespace Go.Proofs.Ytokinmmnoiacdaa
open Go.RowKit
set_option linter.unusedVariables false
set_option linter.unusedSimpArgs false

set_option maxRecDepth 100000 in
set_option maxHeartbeats 4000000 in
theorem rat4_any {n : Nat} {w : World} {v : Value} {X : Rat} (h : ArgQ w v X n) (hn : n ≤ 1048576) :
    Calls Try.prog 20 #[v] w fun e w' => ∃ s : ByteArray, e = .returned (.string s) ∧ s.data.toList = ratS X ∧ s.size ≤ 33554432 ∧ Below w.heap.size w w' := by
  obtain ⟨neg0, xs0, ys0, e1, e2, k1, k2, rfl⟩ := h.box
  obtain ⟨W, hW⟩ : ∃ W, (w.alloc (.cells #[.bool neg0, .slice e1 xs0.length k1, .slice e2 ys0.length k2] 40)) = W := ⟨_, rfl⟩
  have R0 : Row W (w.heap.size) 40 #[.bool neg0, .slice e1 xs0.length k1, .slice e2 ys0.length k2] := by rw [← hW]; exact (Row.new _ _ _)
  have hBW : Below w.heap.size w W := by rw [← hW]; exact ((Below.refl _ _).alloc (by (try simp) <;> omega) _)
  have hsW : w.heap.size + 1 ≤ W.heap.size := by rw [← hW]; simp
  have h' := h.later hBW
  obtain ⟨nb, hnb⟩ : ∃ nb, decide (X.num < 0) = nb := ⟨_, rfl⟩
  obtain ⟨ob, hob⟩ : ∃ ob, decide (X.den = 1) = ob := ⟨_, rfl⟩
  have HP := Lib.hid (ratS_parts X nb ob hnb hob)
  have HOB := Lib.hid hob
  have HNB := Lib.hid hnb
  obtain ⟨t0, t1, t2, f0, f1, f2⟩ := R0.three
  clear h hob hnb
  go_enter Try.func20, Try.ntmps20
  go_wp2_with fail
  refine (norm_any h' (by omega)).mono ?_
  rintro e w1 ⟨r1, rfl, hp, hb1⟩
  have hs1 := hb1.size
  replace R0 := R0.later hb1
  clear t0 t1 t2 f0 f1 f2 hW h'
  obtain ⟨zs, ys, a1, a2, c1, c2, rfl, qA, qB, lx, ly⟩ := hp
  rw [HNB.out]
  have A := (qA.at_).2
  have B := (qB.at_).2
  have vA := qA.eq
  have vB := qB.eq
  obtain ⟨t0, t1, t2, f0, f1, f2⟩ := R0.three
  obtain ⟨V, hV⟩ : ∃ V, ((w1.setCell ⟨w.heap.size, 0, none⟩ (.bool nb)).setCell ⟨w.heap.size, 1, none⟩ (.slice a1 zs.length c1)).setCell ⟨w.heap.size, 2, none⟩ (.slice a2 ys.length c2) = V := ⟨_, rfl⟩
  have hBV : Below w.heap.size w V := by rw [← hV]; exact below_set3 (hBW.trans (hb1.mono (by omega))) (by omega) _ _ _
  have hsV : w.heap.size + 1 ≤ V.heap.size := by rw [← hV]; simp; omega
  have AV : Arg V (.slice a1 zs.length c1) zs a1 c1 := by rw [← hV]; exact A.far R0 (noInts3 _ _ _ _ _ _ _) (kept3 _ _ _)
  have BV : Arg V (.slice a2 ys.length c2) ys a2 c2 := by rw [← hV]; exact B.far R0 (noInts3 _ _ _ _ _ _ _) (kept3 _ _ _)
  have Q0 : Row V (w.heap.size) 40 #[.bool nb, .slice a1 zs.length c1, .slice a2 ys.length c2] := by rw [← hV]; exact R0.set3 _ _ _
  obtain ⟨p0, p1, p2, _, _, _⟩ := Q0.three
  have HA := Lib.hid (show dec (val zs).toNat = dec X.num.natAbs by rw [vA]; rfl)
  have HD := Lib.hid (show dec (val ys).toNat = dec X.den by rw [vB]; rfl)
  have hone : decide (val ys = 1) = ob := by
    rw [vB, ← HOB.out]
    exact decide_eq_decide.2 (by omega)
  clear R0 A B hb1 hs1 qA qB vA vB
  go_wp2_with fail
  refine (nat4_big AV (by omega)).mono ?_
  rintro e w2 ⟨s1, rfl, hs1, hz1, hb2⟩
  have hs2 := hb2.size
  have HS1 := Lib.hid hs1
  have Q1 := Q0.later hb2
  have BV1 := BV.later hb2
  have hB2 : Below w.heap.size w w2 := hBV.trans (hb2.mono (by omega))
  clear hs1 t0 t1 t2 f0 f1 f2 p0 p1 p2 hV
  obtain ⟨p0, p1, p2, _, _, _⟩ := Q1.three
  have hb45 : (ByteArray.mk #[45] ++ s1).size = 1 + s1.size := by rw [ByteArray.size_append]; rfl
  have hsz1 : s1.size ≤ 10485781 := by omega
  cases nb
  case false =>
    have HW := Lib.hid (show ratS X = dec X.num.natAbs ++ (if ob = true then [] else 47 :: dec X.den) by rw [HP.out]; simp)
    have hiso := isOne_any BV1 (by omega)
    rw [hone] at hiso
    clear hone HP HNB HOB
    go_wp2_with fail
    refine hiso.mono ?_
    rintro e w3 ⟨rfl, hb3⟩
    have hs3 := hb3.size
    have hB3 : Below w.heap.size w w3 := hB2.trans (hb3.mono (by omega))
    have Q2 := Q1.later hb3
    have BV2 := BV1.later hb3
    clear hiso p0 p1 p2
    obtain ⟨p0, p1, p2, _, _, _⟩ := Q2.three
    cases ob
    · go_wp2_with fail
      refine (nat4_big BV2 (by omega)).mono ?_
      rintro e w4 ⟨s2, rfl, hs2, hz2, hb4⟩
      have HS2 := Lib.hid hs2
      have hB4 : Below w.heap.size w w4 := hB3.trans (hb4.mono (by omega))
      have hsz2 : s2.size ≤ 10485781 := by omega
      clear hs2
      go_wp2
      go_ret
      refine ⟨_, rfl, ?_, ?_, hB4⟩
      · rw [HW.out, bytes_app (bytes_app HS1.out rfl) HS2.out, HA.out, HD.out]; simp
      · rw [ByteArray.size_append, ByteArray.size_append]; show s1.size + 1 + s2.size ≤ _; omega
    · go_wp2
      go_ret
      exact ⟨_, rfl, by rw [HW.out, HS1.out, HA.out]; simp, by omega, hB3⟩
  case true =>
    have HW := Lib.hid (show ratS X = [45] ++ dec X.num.natAbs ++ (if ob = true then [] else 47 :: dec X.den) by rw [HP.out]; simp)
    have hiso := isOne_any BV1 (by omega)
    rw [hone] at hiso
    clear hone HP HNB HOB
    go_wp2_with fail
    refine hiso.mono ?_
    rintro e w3 ⟨rfl, hb3⟩
    have hs3 := hb3.size
    have hB3 : Below w.heap.size w w3 := hB2.trans (hb3.mono (by omega))
    have Q2 := Q1.later hb3
    have BV2 := BV1.later hb3
    clear hiso p0 p1 p2
    obtain ⟨p0, p1, p2, _, _, _⟩ := Q2.three
    cases ob
    · go_wp2_with fail
      refine (nat4_big BV2 (by omega)).mono ?_
      rintro e w4 ⟨s2, rfl, hs2, hz2, hb4⟩
      have HS2 := Lib.hid hs2
      have hB4 : Below w.heap.size w w4 := hB3.trans (hb4.mono (by omega))
      have hsz2 : s2.size ≤ 10485781 := by omega
      clear hs2
      go_wp2
      go_ret
      refine ⟨_, rfl, ?_, ?_, hB4⟩
      · rw [HW.out, bytes_app (bytes_app (bytes_app rfl HS1.out) rfl) HS2.out, HA.out, HD.out]; simp
      · rw [ByteArray.size_append, ByteArray.size_append, ByteArray.size_append]; show 1 + s1.size + 1 + s2.size ≤ _; omega
    · go_wp2
      go_ret
      exact ⟨_, rfl, by rw [HW.out, bytes_app rfl HS1.out, HA.out]; simp, by rw [ByteArray.size_append]; show 1 + s1.size ≤ _; omega, hB3⟩

/-! texts of rational numbers, taken apart and put together -/
theorem bare_app (l : List UInt8) : (if sgnL l = true then [45] else []) ++ bare l = l := by
  unfold sgnL bare
  rcases l with _ | ⟨c, r⟩
  · rfl
  · by_cases h : c = 45
    · subst h; simp
    · simp [h]
theorem stroke_app (m : List UInt8) : ahead m ++ (if hasStroke m = true then 47 :: behind m else []) = m := by
  unfold ahead hasStroke behind
  induction m with
  | nil => rfl
  | cons c r ih =>
    by_cases hc : c = 47
    · subst hc; simp
    · have hb : (c == 47) = false := by simpa using hc
      have hb2 : (c != 47) = true := by simpa using hc
      simp only [List.any_cons, hb, Bool.false_or, List.takeWhile_cons, List.dropWhile_cons, hb2, if_true, List.cons_append]
      rw [ih]
theorem ratS_reads {l : List UInt8} (hA : natB (partA l) = true) (hB : natB (partB l) = true) (x : Rat) :
    ratS x = l ↔ ¬ (hasStroke (bare l) = true ∧ numL (partB l) = 1) ∧ x.num.natAbs = numL (partA l) ∧ x.den = numL (partB l) ∧ decide (x.num < 0) = sgnL l := by
  refine ⟨fun h => ?_, fun ⟨h1, h2, h3, h4⟩ => ?_⟩
  · obtain ⟨a1, a2, a3⟩ := parts_ratS x
    have hb := bare_ratS x
    rw [h] at a1 a2 a3 hb
    refine ⟨fun ⟨k1, k2⟩ => ?_, by rw [a1, dec_num], by rw [a2, dec_num], a3.symm⟩
    rw [a2, dec_num] at k2
    rw [hb, k2, if_pos rfl, List.append_nil, (ahead_none (dec_no (by decide))).2.2] at k1
    cases k1
  · have e1 : dec x.num.natAbs = ahead (bare l) := by rw [h2]; exact dec_of_natB hA
    have e2 : dec x.den = partB l := by rw [h3]; exact dec_of_natB hB
    have hs := stroke_app (bare l)
    have hl := bare_app l
    rw [ratS_parts x (sgnL l) (decide (x.den = 1)) h4 rfl, e1, List.append_assoc]
    rcases hq : hasStroke (bare l) with _ | _
    · have hp : partB l = [49] := by unfold partB; rw [hq]; rfl
      have hd : x.den = 1 := by rw [h3, hp]; rfl
      rw [hq] at hs
      simp only [Bool.false_eq_true, if_false, List.append_nil] at hs
      simp only [hd, decide_true, if_true, List.append_nil]
      rw [hs, hl]
    · have hp : partB l = behind (bare l) := by unfold partB; rw [hq]; rfl
      have hd : ¬ x.den = 1 := fun e => h1 ⟨hq, by rw [← h3, e]⟩
      rw [hq] at hs
      simp only [if_true] at hs
      simp only [hd, decide_false, Bool.false_eq_true, if_false]
      rw [e2, hp, hs, hl]

def ParsedQ (base : Nat) (w : World) (r : Value) (l : List UInt8) : Prop :=
  if codeR l = 0 then ResQ base w r (valR l) 34 else r = .agg #[.bool false, .slice none 0 0, .slice none 0 0]

theorem isB_full {base : Nat} {w : World} {u : Value} {zs : List Int} {a b : Nat} (h : Res base w u zs (a : Int)) : isB zs (b : Int) = decide (b = a) := by
  unfold isB
  have e := h.eq
  refine decide_eq_decide.2 ⟨fun k => ?_, fun k => ⟨h.full, ?_⟩⟩
  · have := k.2; omega
  · rw [e, k]
theorem ParsedN.any {base : Nat} {w : World} {r : Value} {l : List UInt8} (h : ParsedN base w r l) :
    ∃ zs ad cap, r = .slice ad zs.length cap ∧ Res base w (.slice ad zs.length cap) zs (if codeN l = 0 then (numL l : Int) else 0) ∧ zs.length ≤ 32 := by
  obtain ⟨zs, q, hz⟩ := h
  obtain ⟨ad, cap, e, q', _⟩ := q.slice
  exact ⟨zs, ad, cap, e, q', hz⟩

set_option maxRecDepth 100000 in
set_option maxHeartbeats 8000000 in
theorem parseQ_any {s : ByteArray} {l : List UInt8} (hs : s.data.toList = l) (w : World) (hm : s.size ≤ 9223372036854775807) :
    Calls Try.prog 23 #[.string s] w fun e w' => ∃ r, e = .returned (.tuple #[r, .int .i64 (codeR l)]) ∧ ParsedQ w.heap.size w' r l ∧ Below w.heap.size w w' := by
  have hcp := cutPrefix_any hs
  have hzl := size_of hs
  have hll : l.length ≤ 9223372036854775807 := by omega
  obtain ⟨cd, hcd⟩ : ∃ cd, codeR l = cd := ⟨_, rfl⟩
  have HCD := Lib.hid hcd
  have HLL := Lib.hid hll
  rw [hcd]
  clear hcd hzl hll
  obtain ⟨W, hW⟩ : ∃ W, (w.alloc (.cells #[.bool false, .slice none 0 0, .slice none 0 0] 40)) = W := ⟨_, rfl⟩
  have R0 : Row W (w.heap.size) 40 #[.bool false, .slice none 0 0, .slice none 0 0] := by rw [← hW]; exact (Row.new _ _ _)
  have hBW : Below w.heap.size w W := by rw [← hW]; exact ((Below.refl _ _).alloc (by (try simp) <;> omega) _)
  have hsW : w.heap.size + 1 ≤ W.heap.size := by rw [← hW]; simp
  go_enter Try.func23, Try.ntmps23
  go_wp2_with fail
  refine (hcp _ hm).mono ?_
  rintro e U1 ⟨t, rfl, ht, hb1⟩
  have hs1 := hb1.size
  have htl := size_of ht
  have htm : t.size ≤ 9223372036854775807 := by have := bare_length l; have := HLL.out; omega
  have hcut := fun w => cut_parts ht w htm
  have HT := Lib.hid ht
  clear hcp ht htl hW
  go_wp2_with fail
  refine (hcut _).mono ?_
  rintro e U2 ⟨ta, tb0, rfl, hta, htb0, hb3⟩
  have hs3 := hb3.size
  have hB3 : Below W.heap.size W U2 := hb1.trans (hb3.mono hs1)
  have htam := size_of hta
  have htbm := size_of htb0
  have hta4 : ta.size ≤ 9223372036854775807 := by have := ahead_length (bare l); have := bare_length l; have := HLL.out; omega
  have htb4 : tb0.size ≤ 9223372036854775807 := by have := behind_length (bare l); have := bare_length l; have := HLL.out; omega
  have HTA := Lib.hid (show ta.data.toList = partA l from hta)
  have HTB := Lib.hid htb0
  clear hcut hta htb0 htam htbm hb1 hb3 htm
  go_upto_if 26 with fail
  go_cut [7, 8] (fun s7 s8 wx => ∃ tb : ByteArray, s7 = .string tb ∧ s8 = .bool (hasStroke (bare l)) ∧ tb.data.toList = partB l ∧ tb.size ≤ 9223372036854775807 ∧ Below U2.heap.size U2 wx)
  case first =>
    rcases hb : hasStroke (bare l) with _ | _
    · have HG := Lib.hid hb
      have HX := Lib.hid (show partB l = [49] by unfold partB; rw [hb]; rfl)
      clear hb
      go_wp2_with fail
      go_meet
      exact ⟨_, rfl, by rw [HG.out], by rw [HX.out], by decide, Below.refl _ _⟩
    · have HG := Lib.hid hb
      have HX := Lib.hid (show partB l = behind (bare l) by unfold partB; rw [hb]; rfl)
      clear hb
      go_wp2_with fail
      go_meet
      exact ⟨_, rfl, by rw [HG.out], by rw [HX.out]; exact HTB.out, htb4, Below.refl _ _⟩
  case rest =>
    obtain ⟨tb, rfl, rfl, htb, htb5, hb4⟩ := hcut
    have hB4 : Below W.heap.size W wc := hB3.trans (hb4.mono (by omega))
    have hs4 := hB4.size
    have R4 := R0.later hB4
    have hB5 : Below w.heap.size w wc := hBW.trans (hB4.mono (by omega))
    have hnA := isNumber_any HTA.out wc hta4
    have hnB := fun w => isNumber_any htb w htb5
    have HTB5 := Lib.hid htb
    clear htb hb4 hB3 hB4 HTB
    obtain ⟨nA, hA⟩ : ∃ b, natB (partA l) = b := ⟨_, rfl⟩
    obtain ⟨nB, hB⟩ : ∃ b, natB (partB l) = b := ⟨_, rfl⟩
    rw [hA] at hnA
    rw [hB] at hnB
    have HA := Lib.hid hA
    have HB := Lib.hid hB
    clear hA hB
    go_wp2_with fail
    refine hnA.mono ?_
    rintro e w1 ⟨rfl, hv1⟩
    have hz1 := hv1.size
    replace R4 := R4.later hv1
    have hB6 : Below w.heap.size w w1 := hB5.trans (hv1.mono (by have := hB5.size; omega))
    clear hnA
    cases nA
    case false =>
      have hc := (HCD.out).symm.trans (codeR_bad (.inl HA.out))
      subst hc
      have HPZ : Hid (∀ w', ParsedQ w.heap.size w' (.agg #[.bool false, .slice none 0 0, .slice none 0 0]) l) := fun w' => by unfold ParsedQ; rw [HCD.out]; rfl
      clear hnB
      obtain ⟨u0, u1, u2, g0, g1, g2⟩ := R4.three
      go_wp2_with fail
      refine bodyPost_ret (v := .tuple #[.agg #[.bool false, .slice none 0 0, .slice none 0 0], .int .i64 19]) (by simp [results, Try.results23, go_sem, u0, u1, u2]) rfl ⟨_, rfl, HPZ.out _, ?_⟩
      first | exact below_set3 hB6 (by omega) _ _ _ | exact hB6
    case true =>
      go_wp2_with fail
      refine (hnB _).mono ?_
      rintro e w2 ⟨rfl, hv2⟩
      have hz2 := hv2.size
      replace R4 := R4.later hv2
      have hB7 : Below w.heap.size w w2 := hB6.trans (hv2.mono (by have := hB6.size; omega))
      clear hnB
      cases nB
      case false =>
        have hc := (HCD.out).symm.trans (codeR_bad (.inr HB.out))
        subst hc
        have HPZ : Hid (∀ w', ParsedQ w.heap.size w' (.agg #[.bool false, .slice none 0 0, .slice none 0 0]) l) := fun w' => by unfold ParsedQ; rw [HCD.out]; rfl
        obtain ⟨u0, u1, u2, g0, g1, g2⟩ := R4.three
        go_wp2_with fail
        refine bodyPost_ret (v := .tuple #[.agg #[.bool false, .slice none 0 0, .slice none 0 0], .int .i64 19]) (by simp [results, Try.results23, go_sem, u0, u1, u2]) rfl ⟨_, rfl, HPZ.out _, ?_⟩
        first | exact below_set3 hB7 (by omega) _ _ _ | exact hB7
      case true =>
        obtain ⟨cA, hcA⟩ : ∃ c, codeN (partA l) = c := ⟨_, rfl⟩
        obtain ⟨cB, hcB⟩ : ∃ c, codeN (partB l) = c := ⟨_, rfl⟩
        have hpA := fun w => value_any HTA.out HA.out w hta4
        have hpB := fun w => value_any HTB5.out HB.out w htb5
        rw [hcA] at hpA
        rw [hcB] at hpB
        have HCA := Lib.hid hcA
        have HCB := Lib.hid hcB
        clear hcA hcB
        go_wp2_with fail
        refine (hpA _).mono ?_
        rintro e V1 ⟨rA, rfl, pA, hx1⟩
        have hy1 := hx1.size
        obtain ⟨zA, a1, c1, rfl, qA, lA⟩ := pA.any
        clear pA hpA
        go_wp2_with fail
        refine (hpB _).mono ?_
        rintro e V2 ⟨rB, rfl, pB, hx2⟩
        have hy2 := hx2.size
        obtain ⟨zB, a2, c2, rfl, qB, lB⟩ := pB.any
        clear pB hpB
        have hB8 : Below w.heap.size w V2 := hB7.trans ((hx1.trans (hx2.mono hy1)).mono hB7.size)
        have R5 := (R4.later hx1).later hx2
        have hz3 := hB8.size
        by_cases h0 : cA = 0 ∧ cB = 0
        · obtain ⟨rfl, rfl⟩ := h0
          rw [if_pos HCA.out] at qA
          rw [if_pos HCB.out] at qB
          replace qA := qA.later hx2
          have h00 : ((0 : Int) != 0) = false := by decide
          obtain ⟨sg, hsg⟩ : ∃ sg, sgnL l = sg := ⟨_, rfl⟩
          have HSG := Lib.hid hsg
          rw [hsg]
          clear hsg
          obtain ⟨na, hna⟩ : ∃ na, numL (partA l) = na := ⟨_, rfl⟩
          obtain ⟨nb, hnb⟩ : ∃ nb, numL (partB l) = nb := ⟨_, rfl⟩
          have hX : ratOf sg (val zA) (val zB) = valR l := by rw [qA.eq, qB.eq, ← HSG.out]; rfl
          have hrd := ratS_reads HA.out HB.out (valR l)
          rw [hna, hnb, HSG.out] at hrd
          rw [hna] at qA
          rw [hnb] at qB
          obtain ⟨vb, hvb⟩ : ∃ vb, validB sg zA zB (valR l) = vb := ⟨_, rfl⟩
          have hvt : vb = true ↔ ((valR l).num.natAbs = na ∧ (valR l).den = nb ∧ decide ((valR l).num < 0) = sg) := by
            rw [← hvb]
            unfold validB
            rw [isB_full qA, isB_full qB, Bool.and_eq_true, Bool.and_eq_true, decide_eq_true_iff, decide_eq_true_iff, beq_iff_eq]
            exact ⟨fun ⟨x, y, z⟩ => ⟨y, z, x.symm⟩, fun ⟨y, z, x⟩ => ⟨x.symm, y, z⟩⟩
          have HVB := Lib.hid hvt
          obtain ⟨hq, hhq⟩ : ∃ hq, hasStroke (bare l) = hq := ⟨_, rfl⟩
          rw [hhq] at hrd ⊢
          have HRD := Lib.hid hrd
          have hone : (val zB = 1) ↔ nb = 1 := by rw [qB.eq]; omega
          clear hhq hrd hvt hna hnb
          obtain ⟨U, hU⟩ : ∃ U, V2.alloc (.cells #[.bool sg, .slice a1 zA.length c1, .slice a2 zB.length c2] 40) = U := ⟨_, rfl⟩
          have hbU : Below V2.heap.size V2 U := by rw [← hU]; exact (Below.refl _ _).alloc (Nat.le_refl _) _
          have RR : Row U V2.heap.size 40 #[.bool sg, .slice a1 zA.length c1, .slice a2 zB.length c2] := by rw [← hU]; exact Row.new _ _ _
          have hzU := hbU.size
          have R6 := R5.later hbU
          have hB9 : Below w.heap.size w U := hB8.trans (hbU.mono hz3)
          have hz9 := hB9.size
          have hlt0 : w.heap.size < V2.heap.size := by have := R5.lt; omega
          replace qA := qA.later hbU
          replace qB := qB.later hbU
          have AA := qA.at_.2
          have BB := qB.at_.2
          clear R5 hx1 hx2
          cases hq
          case false =>
            have hmay := mayQ_any (n := 32) (m1 := sg) AA BB lA lB (by omega)
            rw [hX, hvb] at hmay
            cases vb
            · have hmc : mayCode false = 6 := rfl
              rw [hmc] at hmay
              have hne : ¬ ratS (valR l) = l := fun h => by
                have h1 := HRD.out.1 h
                exact absurd (HVB.out.2 h1.2) (by simp)
              have hc := (HCD.out).symm.trans (codeR_other HA.out HB.out HCA.out HCB.out hne)
              subst hc
              obtain ⟨t0, t1, t2, _, _, _⟩ := RR.three
              clear hmc hne hvb
              go_wp2_with fail
              refine hmay.mono ?_
              rintro e V4 ⟨rfl, hx4⟩
              have hy4 := hx4.size
              replace R6 := R6.later hx4
              replace hB9 : Below w.heap.size w V4 := hB9.trans (hx4.mono (by omega))
              clear hmay t0 t1 t2
              have HPZ : Hid (∀ w', ParsedQ w.heap.size w' (.agg #[.bool false, .slice none 0 0, .slice none 0 0]) l) := fun w' => by unfold ParsedQ; rw [HCD.out]; rfl
              obtain ⟨u0, u1, u2, g0, g1, g2⟩ := R6.three
              go_wp2_with fail
              refine bodyPost_ret (v := .tuple #[.agg #[.bool false, .slice none 0 0, .slice none 0 0], .int .i64 6]) (by simp [results, Try.results23, go_sem, u0, u1, u2]) rfl ⟨_, rfl, HPZ.out _, ?_⟩
              first | exact below_set3 hB9 (by omega) _ _ _ | exact hB9
            · have hmc : mayCode true = 0 := rfl
              rw [hmc] at hmay
              obtain ⟨g1, g2, g3⟩ := HVB.out.1 rfl
              have heq : ratS (valR l) = l := HRD.out.2 ⟨fun k => (by cases k.1), g1, g2, g3⟩
              have hc := (HCD.out).symm.trans (codeR_ok HA.out HB.out HCA.out HCB.out heq)
              subst hc
              have HPR : Hid (∀ (w' : World) (r : Value), ResQ w.heap.size w' r (valR l) 34 → ParsedQ w.heap.size w' r l) := fun w' r h => by unfold ParsedQ; rw [if_pos HCD.out]; exact h
              obtain ⟨t0, t1, t2, _, _, _⟩ := RR.three
              have G1 := Lib.hid g1
              have G2 := Lib.hid g2
              have G3 := Lib.hid g3
              clear hmc heq hvb g1 g2 g3
              go_wp2_with fail
              refine hmay.mono ?_
              rintro e V4 ⟨rfl, hx4⟩
              have hy4 := hx4.size
              replace R6 := R6.later hx4
              replace RR := RR.later hx4
              replace hB9 : Below w.heap.size w V4 := hB9.trans (hx4.mono (by omega))
              replace qA := qA.later hx4
              replace qB := qB.later hx4
              clear hmay t0 t1 t2
              obtain ⟨t0, t1, t2, _, _, _⟩ := RR.three
              obtain ⟨u0, u1, u2, f0, f1, f2⟩ := R6.three
              have hsne : w.heap.size < V2.heap.size := by omega
              go_wp2_with fail
              refine bodyPost_ret (v := .tuple #[.agg #[.bool sg, .slice a1 zA.length c1, .slice a2 zB.length c2], .int .i64 0]) (by simp [results, Try.results23, go_sem, u0, u1, u2]) rfl ⟨_, rfl, HPR.out _ _ ⟨zA, zB, a1, a2, c1, c2, by rw [G3.out], ?_, ?_, by omega, by omega⟩, below_set3 hB9 (by omega) _ _ _⟩
              · rw [G1.out]
                exact (qA.mono (by omega)).far R6 (by decide) (kept3 _ _ _)
              · rw [G2.out]
                exact (qB.mono (by omega)).far R6 (by decide) (kept3 _ _ _)
          case true =>
            have hiso := isOne_any BB (by omega)
            by_cases ho : val zB = 1
            · rw [decide_eq_true ho] at hiso
              have hne : ¬ ratS (valR l) = l := fun h => (HRD.out.1 h).1 ⟨rfl, hone.1 ho⟩
              have hc := (HCD.out).symm.trans (codeR_other HA.out HB.out HCA.out HCB.out hne)
              subst hc
              clear hne ho hvb hone
              go_wp2_with fail
              refine hiso.mono ?_
              rintro e V3 ⟨rfl, hx3⟩
              have hy3 := hx3.size
              replace R6 := R6.later hx3
              replace hB9 : Below w.heap.size w V3 := hB9.trans (hx3.mono (by omega))
              clear hiso
              have HPZ : Hid (∀ w', ParsedQ w.heap.size w' (.agg #[.bool false, .slice none 0 0, .slice none 0 0]) l) := fun w' => by unfold ParsedQ; rw [HCD.out]; rfl
              obtain ⟨u0, u1, u2, g0, g1, g2⟩ := R6.three
              go_wp2_with fail
              refine bodyPost_ret (v := .tuple #[.agg #[.bool false, .slice none 0 0, .slice none 0 0], .int .i64 6]) (by simp [results, Try.results23, go_sem, u0, u1, u2]) rfl ⟨_, rfl, HPZ.out _, ?_⟩
              first | exact below_set3 hB9 (by omega) _ _ _ | exact hB9
            · rw [decide_eq_false ho] at hiso
              have hno : ¬ nb = 1 := fun e => ho (hone.2 e)
              have HNO := Lib.hid hno
              clear ho hone hno
              go_wp2_with fail
              refine hiso.mono ?_
              rintro e V3 ⟨rfl, hx3⟩
              have hy3 := hx3.size
              replace R6 := R6.later hx3
              replace RR := RR.later hx3
              replace hB9 : Below w.heap.size w V3 := hB9.trans (hx3.mono (by omega))
              replace qA := qA.later hx3
              replace qB := qB.later hx3
              replace AA := qA.at_.2
              replace BB := qB.at_.2
              clear hiso hU
              have hmay := mayQ_any (n := 32) (m1 := sg) AA BB lA lB (by omega)
              rw [hX, hvb] at hmay
              cases vb
              · have hmc : mayCode false = 6 := rfl
                rw [hmc] at hmay
                have hne : ¬ ratS (valR l) = l := fun h => by
                  have h1 := HRD.out.1 h
                  exact absurd (HVB.out.2 h1.2) (by simp)
                have hc := (HCD.out).symm.trans (codeR_other HA.out HB.out HCA.out HCB.out hne)
                subst hc
                obtain ⟨t0, t1, t2, _, _, _⟩ := RR.three
                clear hmc hne hvb
                go_wp2_with fail
                refine hmay.mono ?_
                rintro e V4 ⟨rfl, hx4⟩
                have hy4 := hx4.size
                replace R6 := R6.later hx4
                replace hB9 : Below w.heap.size w V4 := hB9.trans (hx4.mono (by omega))
                clear hmay t0 t1 t2
                have HPZ : Hid (∀ w', ParsedQ w.heap.size w' (.agg #[.bool false, .slice none 0 0, .slice none 0 0]) l) := fun w' => by unfold ParsedQ; rw [HCD.out]; rfl
                obtain ⟨u0, u1, u2, g0, g1, g2⟩ := R6.three
                go_wp2_with fail
                refine bodyPost_ret (v := .tuple #[.agg #[.bool false, .slice none 0 0, .slice none 0 0], .int .i64 6]) (by simp [results, Try.results23, go_sem, u0, u1, u2]) rfl ⟨_, rfl, HPZ.out _, ?_⟩
                first | exact below_set3 hB9 (by omega) _ _ _ | exact hB9
              · have hmc : mayCode true = 0 := rfl
                rw [hmc] at hmay
                obtain ⟨g1, g2, g3⟩ := HVB.out.1 rfl
                have heq : ratS (valR l) = l := HRD.out.2 ⟨fun k => HNO.out k.2, g1, g2, g3⟩
                have hc := (HCD.out).symm.trans (codeR_ok HA.out HB.out HCA.out HCB.out heq)
                subst hc
                have HPR : Hid (∀ (w' : World) (r : Value), ResQ w.heap.size w' r (valR l) 34 → ParsedQ w.heap.size w' r l) := fun w' r h => by unfold ParsedQ; rw [if_pos HCD.out]; exact h
                obtain ⟨t0, t1, t2, _, _, _⟩ := RR.three
                have G1 := Lib.hid g1
                have G2 := Lib.hid g2
                have G3 := Lib.hid g3
                clear hmc heq hvb g1 g2 g3
                go_wp2_with fail
                refine hmay.mono ?_
                rintro e V4 ⟨rfl, hx4⟩
                have hy4 := hx4.size
                replace R6 := R6.later hx4
                replace RR := RR.later hx4
                replace hB9 : Below w.heap.size w V4 := hB9.trans (hx4.mono (by omega))
                replace qA := qA.later hx4
                replace qB := qB.later hx4
                clear hmay t0 t1 t2
                obtain ⟨t0, t1, t2, _, _, _⟩ := RR.three
                obtain ⟨u0, u1, u2, f0, f1, f2⟩ := R6.three
                have hsne : w.heap.size < V2.heap.size := by omega
                go_wp2_with fail
                refine bodyPost_ret (v := .tuple #[.agg #[.bool sg, .slice a1 zA.length c1, .slice a2 zB.length c2], .int .i64 0]) (by simp [results, Try.results23, go_sem, u0, u1, u2]) rfl ⟨_, rfl, HPR.out _ _ ⟨zA, zB, a1, a2, c1, c2, by rw [G3.out], ?_, ?_, by omega, by omega⟩, below_set3 hB9 (by omega) _ _ _⟩
                · rw [G1.out]
                  exact (qA.mono (by omega)).far R6 (by decide) (kept3 _ _ _)
                · rw [G2.out]
                  exact (qB.mono (by omega)).far R6 (by decide) (kept3 _ _ _)
        · have hc := (HCD.out).symm.trans (codeR_long HA.out HB.out (by rw [HCA.out, HCB.out]; omega))
          subst hc
          have HPZ : Hid (∀ w', ParsedQ w.heap.size w' (.agg #[.bool false, .slice none 0 0, .slice none 0 0]) l) := fun w' => by unfold ParsedQ; rw [HCD.out]; rfl
          by_cases h1 : cA = 0
          · have h2 : ¬ cB = 0 := fun h => h0 ⟨h1, h⟩
            subst h1
            have h2b : (cB != 0) = true := by simpa using h2
            have h2c : ((0 : Int) != 0) = false := by decide
            clear h0 h2 hx1 hx2
            obtain ⟨u0, u1, u2, g0, g1, g2⟩ := R5.three
            go_wp2_with fail
            refine bodyPost_ret (v := .tuple #[.agg #[.bool false, .slice none 0 0, .slice none 0 0], .int .i64 14]) (by simp [results, Try.results23, go_sem, u0, u1, u2]) rfl ⟨_, rfl, HPZ.out _, ?_⟩
            first | exact below_set3 hB8 (by omega) _ _ _ | exact hB8
          · have h1b : (cA != 0) = true := by simpa using h1
            clear h0 h1 hx1 hx2
            obtain ⟨u0, u1, u2, g0, g1, g2⟩ := R5.three
            go_wp2_with fail
            refine bodyPost_ret (v := .tuple #[.agg #[.bool false, .slice none 0 0, .slice none 0 0], .int .i64 14]) (by simp [results, Try.results23, go_sem, u0, u1, u2]) rfl ⟨_, rfl, HPZ.out _, ?_⟩
            first | exact below_set3 hB8 (by omega) _ _ _ | exact hB8
end Go.Proofs.Ytokinmmnoiacdaa
