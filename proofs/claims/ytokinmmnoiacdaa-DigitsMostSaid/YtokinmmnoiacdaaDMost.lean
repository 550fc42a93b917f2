/-
  DigitsMost: the law answers true: the greatest natural that is read, and that the next one is not, alone and in a rational. No condition (a closed sentence).
-/
import Derived.Test.YtokinmmnoiacdaaDLaw0
import Derived.Test.YtokinmmnoiacdaaDBackM
namespace Go.Proofs.Ytokinmmnoiacdaa
open Go.RowKit Go.ChangeShapes Go.WideShapes Go.ChangeAt
set_option linter.unusedVariables false
set_option linter.unusedSimpArgs false
set_option maxRecDepth 100000

theorem isN_eq {base base' : Nat} {w : World} {u v : Value} {zs ys : List Int} {N M : Int} (h1 : ResD base w u zs N) (h2 : Res base' w v ys M) (h : N = M) (hx : zs.length ≤ 68719476736) (hy : ys.length ≤ 134217728) :
    Calls Try.prog 19 #[u, v] w fun e w' => e = .returned (.bool true) ∧ Below w.heap.size w w' := isN_true h1 (h ▸ h2) hx hy
theorem dec_length_eq {x k : Nat} (h1 : p10 k ≤ x) (h2 : x < p10 (k + 1)) : (dec x).length = k + 1 := by
  unfold p10 at h1 h2
  have a := dec_lt x
  have h0 : x ≠ 0 := by have := Nat.pow_pos (n := k) (show 0 < 10 by decide); omega
  have b := dec_ge x h0
  rcases Nat.lt_trichotomy (dec x).length (k + 1) with g | g | g
  · have : 10 ^ (dec x).length ≤ 10 ^ k := Nat.pow_le_pow_right (by decide) (by omega)
    omega
  · exact g
  · have : 10 ^ (k + 1) ≤ 10 ^ ((dec x).length - 1) := Nat.pow_le_pow_right (by decide) (by omega)
    omega
theorem dec_length_le' {x k : Nat} (h : x < p10 k) : (dec x).length ≤ k + 1 := dec_length_le h
def mostN : Nat := lim1024 - 1
theorem most_val : (val (List.replicate 32 4294967295)).toNat = mostN := by decide +kernel
theorem most_next : (val (List.replicate 32 4294967295) + 1).toNat = lim1024 := by decide +kernel
theorem most_low : p10 308 ≤ mostN := by decide +kernel
theorem most_high : mostN < p10 309 := by decide +kernel
theorem most_length : (dec mostN).length = 309 := dec_length_eq (k := 308) most_low most_high
theorem next_high : lim1024 < p10 309 := by decide +kernel
theorem next_length : (dec lim1024).length ≤ 310 := dec_length_le' next_high
theorem most_less : mostN < lim1024 := by decide +kernel
theorem most_one : 1 < mostN := by decide +kernel
theorem code_most : codeN (dec mostN) = 0 := by rw [codeN_dec, if_pos most_less]
theorem code_next : codeN (dec lim1024) = 14 := by rw [codeN_dec, if_neg (Nat.lt_irrefl _)]
def leastQ : Rat := ratOf true 1 (mostN : Int)
theorem least_parts : leastQ.num = -1 ∧ leastQ.den = mostN := by
  have hp : (0 : Int) < (mostN : Int) := by have := most_one; generalize mostN = q at *; omega
  have e1 := ratOf_abs (n := true) (A := 1) (by decide) hp
  have e2 := ratOf_den (n := true) (A := 1) hp
  have hg : (Int.gcd 1 (mostN : Int) : Int) = 1 := by simp [Int.gcd]
  have e3 := ratOf_neg (n := true) (A := 1) (B := (mostN : Int)) (by decide) hp (by decide)
  rw [hg] at e1 e2
  have h : ((leastQ.num.natAbs : Nat) : Int) = 1 / 1 := e1
  rw [Int.ediv_one] at h
  have e4 : leastQ.num.natAbs = 1 := by omega
  have e5 : ((leastQ.den : Nat) : Int) = (mostN : Int) / 1 := e2
  have e6 : decide (leastQ.num < 0) = true := e3
  have e7 := of_decide_eq_true e6
  rw [Int.ediv_one] at e5
  exact ⟨by omega, Int.ofNat.inj e5⟩
theorem text_least : [45, 49, 47] ++ dec mostN = ratS leastQ := by
  have h := ratS_parts leastQ true false (by rw [least_parts.1]; decide) (by rw [least_parts.2]; exact decide_eq_false (by have := most_one; omega))
  rw [h, least_parts.1, least_parts.2, show (-1 : Int).natAbs = 1 from rfl, dec_one]
  simp
theorem code_least : codeR (ratS leastQ) = 0 ∧ valR (ratS leastQ) = leastQ :=
  codeR_ratS (by rw [least_parts.1]; exact Nat.lt_trans most_one most_less) (by rw [least_parts.2]; exact most_less)
theorem stroke_parts {a b : List UInt8} (ha : natB a = true) : partA (a ++ 47 :: b) = a ∧ partB (a ++ 47 :: b) = b := by
  have hd := (natB_iff a).1 ha
  have h47 : 47 ∉ a := fun hm => by have := List.all_eq_true.1 hd.1 47 hm; cases this
  have hb : bare (a ++ 47 :: b) = a ++ 47 :: b := by
    apply bare_neg
    unfold sgnL
    rcases hl : a with _ | ⟨c, r⟩
    · exact absurd hl hd.2.1
    · have hc : isDig c = true := List.all_eq_true.1 hd.1 c (by rw [hl]; simp)
      have : c ≠ 45 := by rintro rfl; cases hc
      simp [this]
  unfold partA partB
  rw [hb]
  obtain ⟨h1, h2, h3⟩ := ahead_app (b := b) h47
  exact ⟨h1, by rw [if_pos h3, h2]⟩
theorem code_over : codeR ([49, 47] ++ dec lim1024) = 14 := by
  obtain ⟨h1, h2⟩ := stroke_parts (a := [49]) (b := dec lim1024) (by decide)
  exact codeR_long (l := [49] ++ 47 :: dec lim1024) (by rw [h1]; decide) (by rw [h2]; exact natB_dec _) (.inr (by rw [h2, code_next]; decide))
theorem code_under : codeR (dec lim1024 ++ [47, 48]) = 14 := by
  obtain ⟨h1, h2⟩ := stroke_parts (a := dec lim1024) (b := [48]) (natB_dec _)
  exact codeR_long (l := dec lim1024 ++ 47 :: [48]) (by rw [h1]; exact natB_dec _) (by rw [h2]; decide) (.inl (by rw [h1, code_next]; decide))

set_option maxRecDepth 100000 in
set_option maxHeartbeats 8000000 in
theorem digitsMost_walk  (w : World)  :
    Calls Try.prog 11 #[] w fun e w' => e = .returned (.bool true) ∧ Below w.heap.size w w' := by
  have hmk : ∀ w : World, (Instr.makeSlice 23 (.int .i64 32) (.int .i64 32)).run Try.prog w = .ok (.slice (some ⟨w.heap.size, 0, none⟩) 32 32) (w.alloc (.cells (madeCells #[.int .u32 0] 32) 63)) := fun w => make_runN 32 32 (by decide) (by decide) w
  go_enter Try.func11, Try.ntmps11
  go_wp2
  go_loopw [2] (fun i wr => ∃ k : Nat, k ≤ 32 ∧ i = .int .i64 k ∧ Blk wr w.heap.size (List.replicate k 4294967295 ++ List.replicate (32 - k) 0) ∧ Below w.heap.size w wr) (fun i _ => 32 - (intOf i).toNat)
  case atStart => exact ⟨0, Nat.zero_le _, rfl, by simpa using Blk.made w 32, (Below.refl _ w).alloc (Nat.le_refl _) _⟩
  case round =>
    obtain ⟨k, hk, rfl, hblk, hb⟩ := hrel
    have hsz := hb.size
    by_cases hlt : k < 32
    · have hki : (k : Int) < 32 := by omega
      have hlen : (List.replicate k (4294967295 : Int) ++ List.replicate (32 - k) 0).length = 32 := by simp; omega
      have hce := hblk.cell k (by rw [hlen]; exact hlt)
      have hfe := hblk.free k
      have hset := hblk.set k 4294967295
      rw [set_mid _ 32 k _ (by simp) hlt, ← List.replicate_succ'] at hset
      have HS := Lib.hid hset
      have hbs := Lib.hid (hb.setCell (p := ⟨w.heap.size, k, none⟩) (Nat.le_refl _) (.int .u32 4294967295))
      clear hset hlen hblk
      go_wp2
      go_roundw
      case rel => exact ⟨k + 1, by omega, by go_num, HS.out, hbs.out⟩
      case measure => simp [intOf]; omega
    · obtain rfl : k = 32 := by omega
      rw [show List.replicate (32 - 32) (0 : Int) = [] from rfl, List.append_nil] at hblk
      obtain ⟨zs, hzs⟩ : ∃ zs, List.replicate 32 (4294967295 : Int) = zs := ⟨_, rfl⟩
      have hl32 : zs.length = 32 := by rw [← hzs]; simp
      have hv1 : (val zs).toNat = mostN := by rw [← hzs]; exact most_val
      have hv2 : (val zs + 1).toNat = lim1024 := by rw [← hzs]; exact most_next
      have hwf : Wf zs := fun y hy => by rw [← hzs] at hy; rw [List.eq_of_mem_replicate hy]; decide
      rw [hzs] at hblk
      have A : Arg wr (.slice (some ⟨w.heap.size, 0, none⟩) 32 32) zs (some ⟨w.heap.size, 0, none⟩) 32 :=
        ⟨by rw [hl32], .inr ⟨w.heap.size, 0, rfl, fun i hi => by rw [Nat.zero_add]; exact hblk.cell i hi⟩, by omega, hwf⟩
      have n0 := val_nonneg hwf
      have H1 := Lib.hid hv1
      have H2 := Lib.hid hv2
      have H32 := Lib.hid hl32
      clear hblk hzs hv1 hv2 hwf hl32
      go_wp2_with fail
      refine (nat4_any A (by rw [H32.out]; decide)).mono ?_
      rintro e V1 ⟨s1, rfl, hs1, hm1, hb1⟩
      rw [H1.out] at hs1
      have hz1 := hb1.size
      have A1 := A.later hb1
      have HS1 := Lib.hid hs1
      have hsz1 : s1.size = 309 := by rw [size_of hs1, most_length]
      clear A hs1
      go_wp2_with fail
      refine (ofN_any 1 _ (by omega) (by omega)).mono ?_
      rintro e V2 ⟨r2, z2, rfl, q2, n2, hb2⟩
      have hz2 := hb2.size
      obtain ⟨ad2, cp2, T2⟩ := q2.arg
      have A2 := A1.later hb2
      have hv2 := q2.eq
      go_wp2_with fail
      refine (add_res A2 T2 (by rw [H32.out]; omega) (by omega)).mono ?_
      rintro e V3 ⟨r3, z3, rfl, q3, n3, hb3⟩
      have hz3 := hb3.size
      obtain ⟨ad3, cp3, T3⟩ := q3.arg
      have hv3 : (val z3).toNat = lim1024 := by rw [q3.eq, hv2]; exact H2.out
      have A3 := A2.later hb3
      go_wp2_with fail
      refine (nat4_any T3 (by rw [H32.out] at n3; omega)).mono ?_
      rintro e V4 ⟨s2, rfl, hs2, hm2, hb4⟩
      rw [hv3] at hs2
      have hz4 := hb4.size
      have A4 := A3.later hb4
      have hB4 : Below w.heap.size w V4 := hb.trans (((hb1.trans (hb2.mono hz1)).trans ((hb3.trans (hb4.mono hz3)).mono (by omega))).mono (by omega))
      have HS2 := Lib.hid hs2
      have hp1 := fun w => parse4_any HS1.out w (by omega)
      have hp2 := fun w => parse4_any HS2.out w (by omega)
      have hp3 := fun w => parseQ_any (bytes_app (s := ByteArray.mk #[45, 49, 47]) (l := [45, 49, 47]) rfl HS1.out) w (by rw [ByteArray.size_append, hsz1, show (ByteArray.mk #[45, 49, 47]).size = 3 from rfl]; decide)
      have hp4 := fun w => parseQ_any (bytes_app (s := ByteArray.mk #[49, 47]) (l := [49, 47]) rfl HS2.out) w (by rw [ByteArray.size_append, show (ByteArray.mk #[49, 47]).size = 2 from rfl]; omega)
      have hp5 := fun w => parseQ_any (bytes_app (t := ByteArray.mk #[47, 48]) (k := [47, 48]) HS2.out rfl) w (by rw [ByteArray.size_append, show (ByteArray.mk #[47, 48]).size = 2 from rfl]; omega)
      rw [code_most] at hp1
      rw [code_next] at hp2
      rw [text_least, code_least.1] at hp3
      rw [code_over] at hp4
      rw [code_under] at hp5
      clear q2 T2 A2 q3 T3 A3 hv2 hv3 hs2 hb1 hb2 hb3 hb4 A1 hb n2 n3
      go_wp2_with fail
      refine (hp1 _).mono ?_
      rintro e V5 ⟨r5, rfl, pq5, hb5⟩
      have hz5 := hb5.size
      obtain ⟨zs5, q5, l5⟩ := pq5
      rw [if_pos code_most, dec_num] at q5
      obtain ⟨ad5, cp5, rfl, _, _⟩ := q5.slice
      have A5 := A4.later hb5
      clear hp1 A4
      go_wp2_with fail
      refine (hp2 _).mono ?_
      rintro e V6 ⟨r6, rfl, -, hb6⟩
      have hz6 := hb6.size
      have A6 := A5.later hb6
      have q6 := q5.later hb6
      clear hp2 A5 q5
      go_wp2_with fail
      refine (hp3 _).mono ?_
      rintro e V7 ⟨r7, rfl, q7, hb7⟩
      have hz7 := hb7.size
      unfold ParsedQ at q7
      rw [if_pos code_least.1, code_least.2] at q7
      obtain ⟨zs7, ys7, f7, g7, j7, k7, rfl, Q71, Q72, l71, l72⟩ := q7
      rw [show decide (leastQ.num < 0) = true by rw [least_parts.1]; rfl]
      have e72 := Q72.eq
      rw [least_parts.2] at e72
      obtain ⟨U7, hU7⟩ : ∃ U, V7.alloc (.cells #[.bool true, .slice f7 zs7.length j7, .slice g7 ys7.length k7] 40) = U := ⟨_, rfl⟩
      have hbU7 : Below V7.heap.size V7 U7 := by rw [← hU7]; exact (Below.refl _ _).alloc (Nat.le_refl _) _
      have R7 : Row U7 V7.heap.size 40 #[.bool true, .slice f7 zs7.length j7, .slice g7 ys7.length k7] := by rw [← hU7]; exact Row.new _ _ _
      have hzU7 := hbU7.size
      have A8 := (A6.later hb7).later hbU7
      have q8 := (q6.later hb7).later hbU7
      have d8 := Q72.later hbU7
      clear hp3 A6 q6 Q71 Q72
      go_wp2_with fail
      (try rw [hU7])
      refine (hp4 _).mono ?_
      rintro e V9 ⟨r9, rfl, q9, hb9⟩
      have hz9 := hb9.size
      unfold ParsedQ at q9
      have c9 : codeR ([49, 47] ++ dec lim1024) ≠ 0 := by rw [code_over]; decide
      rw [if_neg c9] at q9
      subst q9
      obtain ⟨U9, hU9⟩ : ∃ U, V9.alloc (.cells #[.bool false, .slice none 0 0, .slice none 0 0] 40) = U := ⟨_, rfl⟩
      have hbU9 : Below V9.heap.size V9 U9 := by rw [← hU9]; exact (Below.refl _ _).alloc (Nat.le_refl _) _
      have R9 : Row U9 V9.heap.size 40 #[.bool false, .slice none 0 0, .slice none 0 0] := by rw [← hU9]; exact Row.new _ _ _
      have hzU9 := hbU9.size
      have HU9 := Lib.hid hU9
      clear hU9
      clear hp4 c9
      go_wp2_with fail
      (try rw [HU9.out])
      refine (hp5 _).mono ?_
      rintro e V10 ⟨r10, rfl, q10, hb10⟩
      have hz10 := hb10.size
      unfold ParsedQ at q10
      have c10 : codeR (dec lim1024 ++ [47, 48]) ≠ 0 := by rw [code_under]; decide
      rw [if_neg c10] at q10
      subst q10
      obtain ⟨U10, hU10⟩ : ∃ U, V10.alloc (.cells #[.bool false, .slice none 0 0, .slice none 0 0] 40) = U := ⟨_, rfl⟩
      have hbU10 : Below V10.heap.size V10 U10 := by rw [← hU10]; exact (Below.refl _ _).alloc (Nat.le_refl _) _
      have R10 : Row U10 V10.heap.size 40 #[.bool false, .slice none 0 0, .slice none 0 0] := by rw [← hU10]; exact Row.new _ _ _
      have hzU10 := hbU10.size
      have HU10 := Lib.hid hU10
      clear hU10
      clear hp5 c10
      have A11 := (((A8.later hb9).later hbU9).later hb10).later hbU10
      have q11 := (((q8.later hb9).later hbU9).later hb10).later hbU10
      have d11 := (((d8.later hb9).later hbU9).later hb10).later hbU10
      have R11 := (((R7.later hb9).later hbU9).later hb10).later hbU10
      have hB11 : Below w.heap.size w U10 := hB4.trans (((hb5.trans (hb6.mono hz5)).trans (((hb7.trans (hbU7.mono hz7)).trans (((hb9.trans (hbU9.mono hz9)).trans ((hb10.trans (hbU10.mono hz10)).mono (by omega))).mono (by omega))).mono (by omega))).mono hB4.size)
      have hz11 := hB11.size
      have HE2 := Lib.hid (show (mostN : Int) = (leastQ.den : Int) by rw [least_parts.2])
      have HA := Lib.hid A11
      have hvz : val zs = (mostN : Int) := by have := H1.out; omega
      have HVZ := Lib.hid hvz
      clear A8 q8 d8 R7 R9 R10 hb5 hb6 hb7 hb9 hb10 hbU7 hbU9 hbU10 e72 hvz A11
      go_wp2_with fail
      (try rw [HU10.out])
      have lt_R11 := R11.lt
      have mkS : ∀ X, Kept (U10.heap.size) U10 X → X.cell? ⟨V7.heap.size, 0, none⟩ = some (.bool true) ∧ X.cell? ⟨V7.heap.size, 1, none⟩ = some (.slice f7 zs7.length j7) ∧ X.cell? ⟨V7.heap.size, 2, none⟩ = some (.slice g7 ys7.length k7) ∧ Kept (U10.heap.size) U10 X := fun X h => ⟨(R11.kept h (by omega)).cell 0, (R11.kept h (by omega)).cell 1, (R11.kept h (by omega)).cell 2, h⟩
      go_region_held3 (fun X => X.cell? ⟨V7.heap.size, 0, none⟩ = some (.bool true) ∧ X.cell? ⟨V7.heap.size, 1, none⟩ = some (.slice f7 zs7.length j7) ∧ X.cell? ⟨V7.heap.size, 2, none⟩ = some (.slice g7 ys7.length k7) ∧ Kept (U10.heap.size) U10 X)
        (((refine mkS _ ?_; (repeat' (first | exact Kept.refl _ _ | refine Kept.drew ?_ | refine Kept.alloc ?_ _ | refine Kept.set ?_ _ _ | refine Kept.below ?_ (by assumption))))))
        ((first
          | (go_at_call 12; have hprev := hby4; clear hprev; (with_reducible refine (known4_any _).mono ?_); rintro e y5 ⟨rfl, hby5⟩; have hsy5 := hby5.size; (try simp at hsy5); skip)
          | (go_at_call 19; have hprev := hby3; clear hprev; (with_reducible refine (isN_eq qy3 (d11.later (show Below U10.heap.size U10 _ by (repeat' (first | exact Below.refl _ _ | refine Below.drew ?_ | refine Below.alloc ?_ (by (try simp) <;> omega) _ | refine below_set3 ?_ (by (try simp) <;> omega) _ _ _ | refine below_set2 ?_ (by (try simp) <;> omega) _ _ | refine Below.setCell ?_ (by (try simp) <;> omega) _ | refine Below.trans ?_ (Below.mono (by assumption) (by (try simp) <;> omega)))))) (HVZ.out.trans HE2.out) (by rw [H32.out] at ly3; omega) (by omega)).mono ?_); rintro e y4 ⟨rfl, hby4⟩; have hsy4 := hby4.size; (try simp at hsy4); skip)
          | (go_at_call 14; have hprev := hby2; clear hprev; (with_reducible refine (of_any (HA.out.later (show Below U10.heap.size U10 _ by (repeat' (first | exact Below.refl _ _ | refine Below.drew ?_ | refine Below.alloc ?_ (by (try simp) <;> omega) _ | refine below_set3 ?_ (by (try simp) <;> omega) _ _ _ | refine below_set2 ?_ (by (try simp) <;> omega) _ _ | refine Below.setCell ?_ (by (try simp) <;> omega) _ | refine Below.trans ?_ (Below.mono (by assumption) (by (try simp) <;> omega)))))) (by rw [H32.out]; decide)).mono ?_); rintro e y3 ⟨r3, rfl, zy3, qy3, ly3, hby3⟩; have hsy3 := hby3.size; (try simp at hsy3); skip)
          | (go_at_call 19; have hprev := hby1; clear hprev; (with_reducible refine (isN_eq qy1 (q11.later (show Below U10.heap.size U10 _ by (repeat' (first | exact Below.refl _ _ | refine Below.drew ?_ | refine Below.alloc ?_ (by (try simp) <;> omega) _ | refine below_set3 ?_ (by (try simp) <;> omega) _ _ _ | refine below_set2 ?_ (by (try simp) <;> omega) _ _ | refine Below.setCell ?_ (by (try simp) <;> omega) _ | refine Below.trans ?_ (Below.mono (by assumption) (by (try simp) <;> omega)))))) HVZ.out (by rw [H32.out] at ly1; omega) (by omega)).mono ?_); rintro e y2 ⟨rfl, hby2⟩; have hsy2 := hby2.size; (try simp at hsy2); skip)
          | (go_at_call 14; (with_reducible refine (of_any (HA.out.later (show Below U10.heap.size U10 _ by (repeat' (first | exact Below.refl _ _ | refine Below.drew ?_ | refine Below.alloc ?_ (by (try simp) <;> omega) _ | refine below_set3 ?_ (by (try simp) <;> omega) _ _ _ | refine below_set2 ?_ (by (try simp) <;> omega) _ _ | refine Below.setCell ?_ (by (try simp) <;> omega) _ | refine Below.trans ?_ (Below.mono (by assumption) (by (try simp) <;> omega)))))) (by rw [H32.out]; decide)).mono ?_); rintro e y1 ⟨r1, rfl, zy1, qy1, ly1, hby1⟩; have hsy1 := hby1.size; (try simp at hsy1); skip)))
      go_wp2_with fail
      go_ret
      exact ⟨rfl, hB11.trans ((show Below U10.heap.size U10 _ by (repeat' (first | exact Below.refl _ _ | refine Below.drew ?_ | refine Below.alloc ?_ (by (try simp) <;> omega) _ | refine below_set3 ?_ (by (try simp) <;> omega) _ _ _ | refine below_set2 ?_ (by (try simp) <;> omega) _ _ | refine Below.setCell ?_ (by (try simp) <;> omega) _ | refine Below.trans ?_ (Below.mono (by assumption) (by (try simp) <;> omega))))).mono (by omega))⟩

namespace digitsMost
theorem contract (H : Type) (enc : TypeId × Value → H) (W : World) (base : Nat) (args : Array Value) (ds gs : List (DataW H)) (before : List MemPlace)
    (hval : ∀ (j : Nat) t v, Try.f11.params[j]? = some t → args[j]? = some v → Value.okWide Try.prog W .any base t v)
    (hW : DataW.Whole enc Try.prog Try.f11.params.toList Rows.digitsMostSpec.vars false W args.toList ds gs before) :
    Calls Try.prog 11 args W fun e W' => ∃ v, e = .returned v ∧ Rows.digitsMostSpec.post enc Try.prog Try.f11 false true false false W args v W' := by
  have hW' := hW
  have hlt := fun p hp => hW'.lt p hp
  obtain ⟨p, q, hA0, hV, rfl, hfz, hnd⟩ := hW
  have hA : DataW.TrodAll enc Try.prog W 0 (fun _ => true) true Try.f11.params.toList args.toList ds p := hA0
  rw [Try.params11] at hA hval
  obtain ⟨ha, rfl, rfl⟩ := trodAll_nil hA
  obtain rfl : args = #[] := by cases args; simp_all
  obtain ⟨rfl, rfl⟩ := trodVars_none hV
  clear hA hA0 hV
  simp only [List.append_nil] at hW' hlt
  refine (digitsMost_walk  W ).mono fun e W' ⟨he, hb⟩ => ?_
  subst he
  exact ⟨_, rfl, [], [], [], [], [], [], hW', trodAll_cons_mk (shut_bool Try.underlying4 _) trodAll_mk0,
    trodAll_mk0, rfl, hb.frame _, fun h => by cases h⟩

set_option maxRecDepth 100000 in
theorem lifted (os : Os) (started : os.Started) (H : Type) (enc : TypeId × Value → H) :
    ReturnsInHanded {} Try.checked os 11 .any (Rows.digitsMostSpec.pre6 enc Try.prog Try.f11 Rows.digitsMostRow.domain false) (Rows.digitsMostSpec.post enc Try.prog Try.f11 false true false false) := by
  refine returnsInHanded_of_change (C := Try.checked) own started (by kernel_rfl) Try.func11
    (ChangeSpec.witness6 (enc := enc) (C := Try.checked) false ⟨#[], #[], []⟩ 8 (by kernel_rfl) (by kernel_rfl) (by kernel_rfl) (by kernel_rfl)) ?_
  intro W base args ds gs before hval hW _ _
  exact contract H enc W base args ds gs before hval hW

theorem proved : Rows.DigitsMostSaid :=
  OpenClaim.holds_of_wide 11 Try.f11 rfl rfl rfl rfl rfl rfl rfl ⟨rfl, rfl, rfl, rfl, rfl⟩ rfl rfl rfl rfl rfl (by kernel_rfl) Try.func11 (by kernel_rfl)
    (of_decide_eq_true (by kernel_rfl)) (by unfold Func.isWrapper; first | (rw [if_pos (by decide +kernel)]; kernel_rfl) | (rw [if_neg (by decide +kernel)]; exact ⟨rfl, rfl⟩))
    (fun os started H enc _ => lifted os started H enc)
end digitsMost
end Go.Proofs.Ytokinmmnoiacdaa
