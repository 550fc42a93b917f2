/-
  The reference of layer 5: Get.
-/
import Derived.Test.YtgjoiacgdgbcjaaWRef
import Derived.Deep.DeepCutAuto
namespace Go.Proofs.Ytgjoiacgdgbcjaa
open Go.RowKit
set_option linter.unusedVariables false
set_option linter.unusedSimpArgs false

theorem getC_ten {l : List Int} (h : 10 ≤ lead l) : getC l = 4 := by unfold getC; rw [if_pos h]
theorem getC_short {l : List Int} (h : lead l < 10) (h2 : l.length ≤ lead l) : getC l = 3 := by unfold getC; rw [if_neg (by omega), if_pos h2]
theorem getC_longer {l : List Int} (h : lead l < 10) (h2 : lead l < l.length) (h3 : (l.getD (lead l) 0 = 0 ∧ 0 < lead l) ∨ (lead l = 9 ∧ 1 < l.getD (lead l) 0)) : getC l = 4 := by
  unfold getC; rw [if_neg (by omega), if_neg (by omega), if_pos h3]
theorem getC_ok {l : List Int} (h : lead l < 10) (h2 : lead l < l.length) (h3 : ¬ ((l.getD (lead l) 0 = 0 ∧ 0 < lead l) ∨ (lead l = 9 ∧ 1 < l.getD (lead l) 0))) : getC l = 0 := by
  unfold getC; rw [if_neg (by omega), if_neg (by omega), if_neg h3]

/-- what Get answers of bytes from a place on -/
def getA (l : List Int) (p : Nat) : Value := .tuple #[.int .u64 (if getC l = 0 then getV l else 0), .int .i64 (if getC l = 0 then (p : Int) + lead l + 1 else p), .int .i64 (getC l)]
theorem getA_bad {l : List Int} {p : Nat} {c : Int} (h : getC l = c) (hc : c ≠ 0) : getA l p = .tuple #[.int .u64 0, .int .i64 p, .int .i64 c] := by
  unfold getA; rw [h, if_neg hc, if_neg hc]
theorem getA_ok {l : List Int} {p : Nat} (h : getC l = 0) : getA l p = .tuple #[.int .u64 (getV l), .int .i64 ((p : Int) + lead l + 1), .int .i64 0] := by
  unfold getA; rw [h, if_pos rfl, if_pos rfl]
theorem valB_drop (l : List Int) (j : Nat) : valB (l.drop j) ≤ valB l := by
  induction l generalizing j with
  | nil => simp
  | cons x xs ih =>
    cases j with
    | zero => simp
    | succ j =>
      have h1 := ih j
      have h2 := valB_nonneg xs
      simp only [List.drop_succ_cons, valB]
      omega
theorem valB_step {t : List Int} {j : Nat} {z : Int} (h : t[j]? = some z) : valB (t.drop j) = z % 128 + 128 * valB (t.drop (j + 1)) := by
  have hlt : j < t.length := by
    rcases Nat.lt_or_ge j t.length with g | g
    · exact g
    · rw [List.getElem?_eq_none g] at h; cases h
  rw [List.drop_eq_getElem_cons hlt]
  rw [List.getElem?_eq_getElem hlt] at h
  rw [Option.some.inj h]
  rfl
theorem drop_getD (xs : List Int) (p i : Nat) : (xs.drop p).getD i 0 = xs.getD (p + i) 0 := by
  simp [List.getD_eq_getElem?_getD, List.getElem?_drop]

set_option maxRecDepth 100000 in
set_option maxHeartbeats 4000000 in
theorem getB_any {u : Value} {xs : List Int} {a : Option Addr} {cap p : Nat} {w : World} (h1 : ArgB w u xs a cap) (hp : p ≤ xs.length) (hx : xs.length ≤ 140737488355328) :
    Calls Try.prog 27 #[u, .int .i64 (p : Int)] w fun e w' => e = .returned (getA (xs.drop p) p) ∧ w = w' := by
  obtain ⟨rfl, lx, hle, wx⟩ := h1
  obtain ⟨L, hL⟩ : ∃ L, xs.length = L := ⟨_, rfl⟩
  obtain ⟨l, hl⟩ : ∃ l, xs.drop p = l := ⟨_, rfl⟩
  obtain ⟨K, hK⟩ : ∃ K, lead l = K := ⟨_, rfl⟩
  have hll : l.length = L - p := by rw [← hl, List.length_drop, hL]
  have hKl : K ≤ L - p := by rw [← hK, ← hll]; exact lead_le l
  obtain ⟨A, hA⟩ : ∃ A, getA (xs.drop p) p = A := ⟨_, rfl⟩
  -- the byte at p + i
  have hbyte : ∀ i, i < L - p → ∃ b off z, a = some ⟨b, off, none⟩ ∧ l[i]? = some z ∧ 0 ≤ z ∧ z < 256 ∧ xs.getD (p + i) 0 = z ∧ w.cell? ⟨b, off + (p + i), none⟩ = some (.int .u8 z) := by
    intro i hi
    rcases lx with e | ⟨b, off, rfl, hc⟩
    · subst e; simp at hL; omega
    · have hlt : p + i < xs.length := by omega
      have hz := wx.getD (p + i)
      refine ⟨b, off, xs.getD (p + i) 0, rfl, ?_, hz.1, hz.2, rfl, hc (p + i) hlt⟩
      rw [← hl, List.getElem?_drop, List.getD_eq_getElem?_getD, List.getElem?_eq_getElem hlt]; rfl
  have HB := Lib.hid hbyte
  have HW := Lib.hid wx
  have HA := Lib.hid hA
  have HK := Lib.hid hK
  have HLL := Lib.hid hll
  have HXL := Lib.hid hl
  have HL := Lib.hid hL
  rw [hA]
  rw [hL] at hp hx hle ⊢
  have hpL : (p : Int) ≤ (L : Int) := by omega
  have hLI : (L : Int) ≤ 140737488355328 := by omega
  clear hbyte hA hK hll hl hL lx wx
  go_enter Try.func27, Try.ntmps27
  go_wp2
  go_loop [7] (fun s => ∃ k : Nat, s = .int .i64 k ∧ k ≤ K ∧ k ≤ 10) (fun s => 10 - (intOf s).toNat)
  case atStart => exact ⟨0, rfl, Nat.zero_le _, by omega⟩
  case round =>
    obtain ⟨k, rfl, hk1, hk2⟩ := hrel
    have hkI : (k : Int) ≤ 10 := by omega
    by_cases h10 : k = 10
    · subst h10
      have hA := HA.out
      rw [HXL.out, getA_bad (getC_ten (by rw [HK.out]; exact hk1)) (by decide)] at hA
      subst hA
      go_wp2
      exact bodyPost_ret (v := .tuple #[.int .u64 0, .int .i64 (p : Int), .int .i64 4]) (by simp [results, Try.results27, go_sem]) rfl ⟨rfl, rfl⟩
    · have hklt : (k : Int) < 10 := by omega
      by_cases hkK : k < K
      · obtain ⟨b, off, z, rfl, hz, z0, z1, _, hc⟩ := HB.out k (by omega)
        obtain ⟨y, hy, hy2⟩ := lead_at (l := l) (i := k) (by rw [HK.out]; exact hkK)
        have hyz : y = z := by rw [hz] at hy; exact (Option.some.inj hy).symm
        have hz128 : 128 ≤ z := by omega
        have hin : (p : Int) + (k : Int) < (L : Int) := by omega
        clear hz hy hyz hy2
        go_wp2
        go_round
        case rel => exact ⟨k + 1, by go_num, by omega, by omega⟩
        case measure => simp [intOf]; omega
      · obtain rfl : k = K := by omega
        by_cases hsh : L - p ≤ k
        · have hA := HA.out
          rw [HXL.out, getA_bad (getC_short (by rw [HK.out]; omega) (by rw [HK.out, HLL.out]; exact hsh)) (by decide)] at hA
          subst hA
          have hin : ¬ (p : Int) + (k : Int) < (L : Int) := by omega
          have hge : (L : Int) ≤ (p : Int) + (k : Int) := by omega
          go_wp2
          exact bodyPost_ret (v := .tuple #[.int .u64 0, .int .i64 (p : Int), .int .i64 3]) (by simp [results, Try.results27, go_sem]) rfl ⟨rfl, rfl⟩
        · obtain ⟨b, off, z, rfl, hz, z0, z1, hzx, hc⟩ := HB.out k (by omega)
          have hz128 : z < 128 := lead_stop (l := l) (by rw [HK.out]; exact hz)
          have hgd : l.getD (lead l) 0 = z := by rw [HK.out, List.getD_eq_getElem?_getD, hz]; rfl
          have hin : (p : Int) + (k : Int) < (L : Int) := by omega
          have hin2 : ¬ (L : Int) ≤ (p : Int) + (k : Int) := by omega
          by_cases hbad : (z = 0 ∧ 0 < k) ∨ (k = 9 ∧ 1 < z)
          · have hA := HA.out
            rw [HXL.out, getA_bad (getC_longer (by rw [HK.out]; omega) (by rw [HK.out, HLL.out]; omega) (by rw [hgd, HK.out]; exact hbad)) (by decide)] at hA
            subst hA
            clear hz hzx hgd
            rcases hbad with ⟨rfl, hpos⟩ | ⟨rfl, hz1⟩
            · have hposI : (0 : Int) < (k : Int) := by omega
              have hkn : ((k : Int) == 10) = false := by simp; omega
              go_wp2
              exact bodyPost_ret (v := .tuple #[.int .u64 0, .int .i64 (p : Int), .int .i64 4]) (by simp [results, Try.results27, go_sem]) rfl ⟨rfl, rfl⟩
            · by_cases hz0 : z = 0
              · omega
              · have hzn : (z == 0) = false := by simpa using hz0
                go_wp2
                exact bodyPost_ret (v := .tuple #[.int .u64 0, .int .i64 (p : Int), .int .i64 4]) (by simp [results, Try.results27, go_sem]) rfl ⟨rfl, rfl⟩
          · have hA := HA.out
            have hok := getC_ok (l := l) (by rw [HK.out]; omega) (by rw [HK.out, HLL.out]; omega) (by rw [hgd, HK.out]; exact hbad)
            rw [HXL.out, getA_ok hok, HK.out] at hA
            have hbl : ∀ y ∈ l, 0 ≤ y ∧ y < 256 := by rw [← HXL.out]; exact HW.out.drop p
            obtain ⟨_, hv0, hv1, _, _⟩ := enc_get hbl hok
            unfold getV at hv0 hv1 hA
            rw [HK.out] at hv0 hv1 hA
            obtain ⟨t, ht⟩ : ∃ t, l.take (k + 1) = t := ⟨_, rfl⟩
            rw [ht] at hv0 hv1 hA
            obtain ⟨V, hV⟩ : ∃ V, valB t = V := ⟨_, rfl⟩
            rw [hV] at hv0 hv1 hA
            subst hA
            have htl : t.length = k + 1 := by rw [← ht, List.length_take, HLL.out]; omega
            have HT := Lib.hid ht
            have HV := Lib.hid hV
            have HTL := Lib.hid htl
            have hkn : ((k : Int) == 10) = false := by simp; omega
            clear ht hV htl hok hgd hbl
            go_upto_region 8 with fail
            go_cut [64] (fun s64 wx => s64 = .bool false ∧ w = wx)
            case first =>
              by_cases hz0 : z = 0
              · subst hz0
                have hk0 : k = 0 := by
                  rcases Nat.eq_zero_or_pos k with g | g
                  · exact g
                  · exact absurd (.inl ⟨rfl, g⟩) hbad
                subst hk0
                rw [Nat.add_zero] at hc
                clear hz hzx hbad
                go_wp2
                go_meet
                exact ⟨rfl, rfl⟩
              · have hzn : (z == 0) = false := by simpa using hz0
                by_cases hk9 : k = 9
                · subst hk9
                  have hz1 : ¬ 1 < z := fun g => hbad (.inr ⟨rfl, g⟩)
                  clear hz hzx hbad
                  go_wp2
                  go_meet
                  exact ⟨rfl, rfl⟩
                · have hk9n : ((k : Int) == 9) = false := by simp; omega
                  clear hz hzx hbad
                  go_wp2
                  go_meet
                  exact ⟨rfl, rfl⟩
            case rest =>
              obtain ⟨rfl, rfl⟩ := hcut
              clear hz hzx hbad hc
              go_wp2
              go_loop [8, 9] (fun n i => ∃ j : Nat, j ≤ k + 1 ∧ i = .int .i64 ((j : Int) - 1) ∧ n = .int .u64 (valB (t.drop j))) (fun _ i => (intOf i + 1).toNat)
              case atStart => exact ⟨k + 1, Nat.le_refl _, by go_num, by rw [List.drop_of_length_le (by rw [HTL.out]; exact Nat.le_refl _)]; rfl⟩
              case round =>
                obtain ⟨j, hj, rfl, rfl⟩ := hrel
                obtain ⟨v, hv⟩ : ∃ v, valB (t.drop j) = v := ⟨_, rfl⟩
                have hv2 : 0 ≤ v := by rw [← hv]; exact valB_nonneg _
                have hv3 : v ≤ V := by rw [← hv, ← HV.out]; exact valB_drop t j
                rw [hv]
                by_cases hgo : 0 < j
                · obtain ⟨m, rfl⟩ : ∃ m, j = m + 1 := ⟨j - 1, by omega⟩
                  have hji : (((m + 1 : Nat) : Int) - 1) = (m : Int) := by omega
                  rw [hji]
                  obtain ⟨b2, off2, y, hb2, hy, y0, y1, _, hcy⟩ := HB.out m (by omega)
                  cases hb2
                  have hty : t[m]? = some y := by rw [← HT.out, List.getElem?_take, if_pos (by omega)]; exact hy
                  have hst := valB_step hty
                  rw [hv] at hst
                  have hsum : y % 128 + 128 * v ≤ V := by rw [← hst, ← HV.out]; exact valB_drop t m
                  have HST := Lib.hid hst
                  have hmI : (0 : Int) ≤ (m : Int) := by omega
                  have hin3 : (p : Int) + (m : Int) < (L : Int) := by omega
                  clear hv hy hty hst
                  go_wp2
                  go_round
                  case rel => exact ⟨m, by omega, by go_num, by rw [HST.out]; go_num⟩
                  case measure => simp [intOf]
                · obtain rfl : j = 0 := by omega
                  rw [List.drop_zero, HV.out] at hv
                  subst hv
                  have hji : (((0 : Nat) : Int) - 1) = -1 := by omega
                  rw [hji]
                  go_wp2
                  exact bodyPost_ret (v := .tuple #[.int .u64 V, .int .i64 ((p : Int) + k + 1), .int .i64 0]) (by simp [results, Try.results27, go_sem]) rfl ⟨rfl, rfl⟩
end Go.Proofs.Ytgjoiacgdgbcjaa
