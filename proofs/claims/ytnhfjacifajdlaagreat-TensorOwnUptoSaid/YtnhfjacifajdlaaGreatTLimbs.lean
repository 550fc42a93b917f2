/-
  The reference's numbers as the program has them: Limbs; Back.
-/
import Derived.Test.YtnhfjacifajdlaaGreatTRat
namespace Go.Proofs.YtnhfjacifajdlaaGreat
open Go.RowKit
set_option linter.unusedVariables false
set_option linter.unusedSimpArgs false

theorem pow_limit {k L : Nat} {N : Int} (h : (4294967296 : Int) ^ k ≤ N) (h2 : N < (10000 : Int) ^ L) : k < L := by
  rcases Nat.lt_or_ge k L with g | g
  · exact g
  · exfalso
    have e1 : (10000 : Nat) ^ L ≤ 4294967296 ^ L := Nat.pow_le_pow_left (by omega) L
    have e2 : (4294967296 : Nat) ^ L ≤ 4294967296 ^ k := Nat.pow_le_pow_right (by omega) g
    have e3 : ((10000 ^ L : Nat) : Int) = (10000 : Int) ^ L := by rw [Int.natCast_pow]; rfl
    have e4 : ((4294967296 ^ k : Nat) : Int) = (4294967296 : Int) ^ k := by rw [Int.natCast_pow]; rfl
    omega

set_option maxRecDepth 100000 in
set_option maxHeartbeats 4000000 in
theorem limbsR_any {u : Value} {ds : List Int} {a : Option Addr} {ca : Nat} {w : World} (A : ArgD w u ds a ca) (hx : ds.length ≤ 1099511627776) :
    Calls Tryz.prog 143 #[u] w fun e w' => ∃ r, e = .returned r ∧ ∃ zs, Res w.heap.size w' r zs (valD ds) ∧ zs.length ≤ ds.length ∧ Below w.heap.size w w' := by
  obtain ⟨i0, hi, hz0, hz1, hz2⟩ := info_parts infoLimb
  have hlt := val_ltD A.wf
  have h0N := val_nonnegD A.wf
  obtain ⟨N, hN⟩ : ∃ N, valD ds = N := ⟨_, rfl⟩
  rw [hN] at hlt h0N ⊢
  have HN := Lib.hid hN
  have HLT := Lib.hid hlt
  have HA := Lib.hid A
  obtain ⟨L, hL⟩ : ∃ L, ds.length = L := ⟨_, rfl⟩
  have HL := Lib.hid hL
  rw [hL] at hx ⊢
  clear hN hlt A hL
  go_enter Tryz.func143, Tryz.ntmps143
  go_wp2
  go_loopw [0, 3, 4, 5, 6, 7] (fun n s _ _ _ _ wr => ∃ (es zs : List Int) (b : Option Addr) (cb : Nat) (M : Int), ArgD wr n es b cb ∧ valD es = M ∧ 0 ≤ M ∧ es.length ≤ L ∧ Num w.heap.size wr s zs ∧ Wf zs ∧ val zs + 4294967296 ^ zs.length * M = N ∧ (M = 0 → trimN zs zs.length = zs.length) ∧ zs.length ≤ L ∧ Below w.heap.size w wr) (fun n _ _ _ _ _ wr => leftD wr n)
  case atStart => exact ⟨ds, [], a, ca, N, HA.out, HN.out, h0N, by rw [HL.out]; exact Nat.le_refl _, ⟨rfl, .inl ⟨rfl, rfl⟩⟩, Wf.nil, by simp [val], fun _ => rfl, Nat.zero_le _, Below.refl _ _⟩
  case round =>
    obtain ⟨es, zs, b, cb, M, E, hM, hM0, hel, hnum, hwf, hval, hfull, hzl, hb⟩ := hrel
    have hsz := hb.size
    have HE := Lib.hid E
    have HM := Lib.hid hM
    have HV := Lib.hid hval
    have HF := Lib.hid hfull
    have HO := Lib.hid hnum
    have HWF := Lib.hid hwf
    have hrow : wr.ownsRow w.heap.size 112 1 _ zs.length (zs.map (Value.int .u32)) := hnum
    have eE := E.is
    subst eE
    obtain ⟨m, hm⟩ : ∃ m, es.length = m := ⟨_, rfl⟩
    have HML := Lib.hid hm
    rw [hm] at hel
    rw [hm]
    by_cases hp : 0 < M
    · have hml : 0 < m := by
        rcases Nat.eq_zero_or_pos m with g | g
        · exfalso
          have := List.eq_nil_of_length_eq_zero (hm.trans g)
          rw [this] at hM
          simp [valD] at hM
          omega
        · exact g
      have hmI : (0 : Int) < (m : Int) := by omega
      have hs1 := short_any 65536 E (by omega) (by omega)
      rw [hM, hm] at hs1
      have hzL : zs.length < L := by
        refine pow_limit (N := N) ?_ (by rw [← HL.out]; exact HLT.out)
        have h1 := val_nonneg hwf
        have h2 := Int.mul_le_mul_of_nonneg_left (show (1 : Int) ≤ M by omega) (show (0 : Int) ≤ 4294967296 ^ zs.length from Int.pow_nonneg (by omega))
        omega
      obtain ⟨lo, hlo⟩ : ∃ lo, M % 65536 = lo := ⟨_, rfl⟩
      obtain ⟨hi2, hhi⟩ : ∃ h, M / 65536 = h := ⟨_, rfl⟩
      obtain ⟨up, hup⟩ : ∃ u, hi2 % 65536 = u := ⟨_, rfl⟩
      obtain ⟨rs, hrs⟩ : ∃ u, hi2 / 65536 = u := ⟨_, rfl⟩
      have hd : up * 65536 + lo + 4294967296 * rs = M := by omega
      have b0 : 0 ≤ lo ∧ lo < 65536 := by omega
      have b1 : 0 ≤ up ∧ up < 65536 := by omega
      have b2 : 0 ≤ rs := by omega
      obtain ⟨lo0, lo1⟩ := b0
      obtain ⟨up0, up1⟩ := b1
      rw [hlo, hhi] at hs1
      have HD := Lib.hid hd
      have HUP := Lib.hid hup
      have HRS := Lib.hid hrs
      clear hM hval hfull hnum hm hlo hhi hup hrs hd E
      go_wp2_with fail
      refine hs1.mono ?_
      rintro e w1 ⟨r1, rfl, z1, q1, l1, hb1⟩
      obtain ⟨ad1, cp1, rfl, q1, A1⟩ := q1.slice
      have v1 := q1.eq
      have hs2 := short_any 65536 A1 (by omega) (by omega)
      rw [v1, HUP.out, HRS.out] at hs2
      have hbw1 := hb.trans (hb1.mono hsz)
      have hrow1 : w1.ownsRow w.heap.size 112 1 _ zs.length (zs.map (Value.int .u32)) := Num.later HO.out hb1
      clear q1 v1 hs1 hrow
      go_wp2_with fail
      refine hs2.mono ?_
      rintro e w2 ⟨r2, rfl, z2, q2, l2, hb2⟩
      obtain ⟨ad2, cp2, rfl, q2, A2⟩ := q2.slice
      have hbw2 := hbw1.trans (hb2.mono hbw1.size)
      have hsz2 := hbw2.size
      have hrow2 : w2.ownsRow w.heap.size 112 1 _ zs.length (zs.map (Value.int .u32)) := Num.later (w := w1) hrow1 hb2
      have e1 : up % 4294967296 = up := by omega
      have e2 : lo % 4294967296 = lo := by omega
      have e3 : up * 65536 % 4294967296 = up * 65536 := by omega
      have e4 : (up * 65536 + lo) % 4294967296 = up * 65536 + lo := by omega
      have v2 := q2.eq
      have V2 := Lib.hid v2
      have Q2 := Lib.hid q2
      have HA2 := Lib.hid A2
      have HB2 := Lib.hid hbw2
      have HO2 : Hid (Num w.heap.size w2 _ zs) := Lib.hid hrow2
      clear hs2 hrow1 q2 v2 hbw1
      go_wp2_with (at_builtin; refine wpList_append_own _ rfl _ _ 42 rfl w.heap.size 112 i0 (.int .u32 0) 1 4 Tryz.underlying42 hi hz0 hz1 hz2 rfl (by decide) _ _ _ rfl (hrow2.alloc _) ⟨w2.heap.size, 0, none⟩ 1 1 [.int .u32 (up * 65536 + lo)] rfl rfl (cell_one_new _ _ _) (by simp [Value.oneCell']) (by unfold maxLen; omega) (by omega) (by simp; omega) ?_; intro v' w3 hown' hgrow _)
      have hnum3 : Num w.heap.size w3 v' (zs ++ [up * 65536 + lo]) := by
        unfold Num
        rw [List.length_append, List.map_append]
        exact hown'
      have hb3 : Below w.heap.size w w3 := (HB2.out.alloc hsz2 _).grown hgrow (by simp; omega) (fun k hk => (HO2.out.lt k hk).1)
      have Q3 : ResD w1.heap.size w3 (.slice ad2 z2.length cp2) z2 rs := ⟨apartV HO2.out hgrow (by decide) Q2.out.num, Q2.out.wf, Q2.out.full, Q2.out.eq⟩
      have A3 := Q3.at_.2
      go_roundw
      case rel => exact ⟨z2, _, ad2, cp2, rs, A3, V2.out, b2, by omega, hnum3, HWF.out.append (Wf.cons (by omega) Wf.nil), (by
        rw [val_append, List.length_append, List.length_singleton, Int.pow_succ]
        have h1 := HV.out
        have h2 := HD.out
        have h3 : val [up * 65536 + lo] = up * 65536 + lo := by simp [val]
        rw [h3, Int.mul_assoc, Int.add_assoc, ← Int.mul_add, h2]
        exact h1), fun h0 => full_snoc _ (by have := HD.out; omega), (by rw [List.length_append]; simp only [List.length_cons, List.length_nil]; omega), hb3⟩
      case measure =>
        have h1 := HE.out.left
        rw [HML.out, HM.out] at h1
        have h2 := HD.out
        rw [A3.left, V2.out, h1]
        omega
    · have h0 : M = 0 := by omega
      subst h0
      have hz := valD_zero E.wf E.full hM
      have hm0 : m = 0 := by rw [← hm, hz]
      subst hm0
      have hwfx := Lib.hid hwf
      clear hm hM hval hfull hnum E hz
      go_wp2
      go_ret
      refine ⟨_, rfl, zs, ⟨HO.out, hwf, (by have h := HF.out; simpa using h), ?_⟩, hzl, hb⟩
      have := HV.out
      rw [Int.mul_zero, Int.add_zero] at this
      exact this

set_option maxRecDepth 100000 in
set_option maxHeartbeats 4000000 in
theorem backR_any {n : Nat} {w : World} {v : Value} {X : Rat} (h : ArgR w v X n) (hn : n ≤ 1000000000) :
    Calls Tryz.prog 115 #[v] w fun e w' => ∃ r, e = .returned r ∧ ResQ w.heap.size w' r X n ∧ Below w.heap.size w w' := by
  obtain ⟨xs, ds, a1, a2, c1, c2, rfl, A, B, hX1, hX2, hx, hd⟩ := h
  obtain ⟨m1, hm1⟩ : ∃ m, decide (X.num < 0) = m := ⟨_, rfl⟩
  rw [hm1]
  have HM := Lib.hid hm1
  have HX1 := Lib.hid hX1
  have HX2 := Lib.hid hX2
  clear hm1 hX1 hX2
  obtain ⟨W, hW⟩ : ∃ W, ((w.alloc (.cells #[.bool m1, .slice a1 xs.length c1, .slice a2 ds.length c2] 50)).alloc (.cells #[.bool false, .slice none 0 0, .slice none 0 0] 44)) = W := ⟨_, rfl⟩
  have R0 : Row W (w.heap.size) 50 #[.bool m1, .slice a1 xs.length c1, .slice a2 ds.length c2] := by rw [← hW]; exact ((Row.new _ _ _).alloc _)
  have R1 : Row W (w.heap.size + 1) 44 #[.bool false, .slice none 0 0, .slice none 0 0] := by rw [← hW]; have h := (Row.new (w.alloc (.cells #[.bool m1, .slice a1 xs.length c1, .slice a2 ds.length c2] 50)) 44 #[.bool false, .slice none 0 0, .slice none 0 0]); simp only [World.size_alloc] at h; exact h
  have hBW : Below w.heap.size w W := by rw [← hW]; exact (((Below.refl _ _).alloc (by (try simp) <;> omega) _).alloc (by (try simp) <;> omega) _)
  have hsW : w.heap.size + 1 + 1 ≤ W.heap.size := by rw [← hW]; simp
  have mkS : ∀ X, Kept (w.heap.size + 1) W X → X.cell? ⟨w.heap.size, 0, none⟩ = some (.bool m1) ∧ X.cell? ⟨w.heap.size, 1, none⟩ = some (.slice a1 xs.length c1) ∧ X.cell? ⟨w.heap.size, 2, none⟩ = some (.slice a2 ds.length c2) ∧ Kept (w.heap.size + 1) W X := fun X h => ⟨(R0.kept h (by omega)).cell 0, (R0.kept h (by omega)).cell 1, (R0.kept h (by omega)).cell 2, h⟩
  go_enter Tryz.func115, Tryz.ntmps115
  go_wp2_with fail
  clear hW
  go_region_held3 (fun X => X.cell? ⟨w.heap.size, 0, none⟩ = some (.bool m1) ∧ X.cell? ⟨w.heap.size, 1, none⟩ = some (.slice a1 xs.length c1) ∧ X.cell? ⟨w.heap.size, 2, none⟩ = some (.slice a2 ds.length c2) ∧ Kept (w.heap.size + 1) W X)
    (((refine mkS _ ?_; (repeat' (first | exact Kept.refl _ _ | refine Kept.drew ?_ | refine Kept.alloc ?_ _ | refine Kept.set ?_ _ _ | refine Kept.below ?_ (by assumption))))))
    ((first
      | (go_at_call 143; (with_reducible refine (limbsR_any (B.later (Kept.under (show Kept (w.heap.size + 1) W _ by (repeat' (first | exact Kept.refl _ _ | refine Kept.drew ?_ | refine Kept.alloc ?_ _ | refine Kept.set ?_ _ _ | refine Kept.below ?_ (by assumption)))) hBW (by omega) (by omega))) (by omega)).mono ?_); rintro e w4 ⟨r4, rfl, z4, q4, l4, hb4⟩; obtain ⟨ad4, cp4, rfl, q4, A4⟩ := q4.slice; have P4 := R1.kept (show Kept (w.heap.size + 1 + 1 + 1) W w4 by (repeat' (first | exact Kept.refl _ _ | refine Kept.drew ?_ | refine Kept.alloc ?_ _ | refine Kept.set ?_ _ _ | refine Kept.below ?_ (by assumption)))) (by omega); have Q4 := Lib.hid q4; clear q4; obtain ⟨u0, u1, u2, g0, g1, g2⟩ := P4.three)
      | (go_at_call 143; (with_reducible refine (limbsR_any (A.later (Kept.under (show Kept (w.heap.size + 1) W _ by (repeat' (first | exact Kept.refl _ _ | refine Kept.drew ?_ | refine Kept.alloc ?_ _ | refine Kept.set ?_ _ _ | refine Kept.below ?_ (by assumption)))) hBW (by omega) (by omega))) (by omega)).mono ?_); rintro e w3 ⟨r3, rfl, z3, q3, l3, hb3⟩; obtain ⟨ad3, cp3, rfl, q3, A3⟩ := q3.slice; have Q3 := Lib.hid q3; clear q3)))
  have Q3' := Q3.out.later hb4
  have hk4 := (show Kept (w.heap.size + 1 + 1 + 1) W w4 by (repeat' (first | exact Kept.refl _ _ | refine Kept.drew ?_ | refine Kept.alloc ?_ _ | refine Kept.set ?_ _ _ | refine Kept.below ?_ (by assumption)))).size
  have hk3 := (show Kept (w.heap.size + 1 + 1 + 1) W w3 by (repeat' (first | exact Kept.refl _ _ | refine Kept.drew ?_ | refine Kept.alloc ?_ _ | refine Kept.set ?_ _ _ | refine Kept.below ?_ (by assumption)))).size
  have hK4 := (Kept.under (show Kept (w.heap.size + 1 + 1 + 1) W w4 by (repeat' (first | exact Kept.refl _ _ | refine Kept.drew ?_ | refine Kept.alloc ?_ _ | refine Kept.set ?_ _ _ | refine Kept.below ?_ (by assumption)))) hBW (by omega) (by omega))
  have HQ := Lib.hid Q3'
  clear Q3'
  go_wp2_with fail
  refine bodyPost_ret (v := .agg #[.bool m1, .slice ad3 z3.length cp3, .slice ad4 z4.length cp4]) (by simp [results, Tryz.results115, go_sem, u0, u1, u2]) rfl ⟨_, rfl, ⟨z3, z4, ad3, ad4, cp3, cp4, by rw [HM.out], ?_, ?_, by omega, by omega⟩, below_set3 hK4 (by omega) _ _ _⟩
  · rw [← HX1.out]; exact (HQ.out.mono (by show w.heap.size ≤ W.heap.size; omega)).far P4 (by decide) (kept3 _ _ _)
  · rw [← HX2.out]; exact (Q4.out.mono (by omega)).far P4 (by decide) (kept3 _ _ _)
end Go.Proofs.YtnhfjacifajdlaaGreat
