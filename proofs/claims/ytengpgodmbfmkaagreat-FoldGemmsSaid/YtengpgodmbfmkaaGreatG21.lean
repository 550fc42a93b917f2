/-
  Part 21 of 39: contracts and what they rest on (TLimbs, TFit, TBits, TOpen, MTens, FPool).
-/
import Derived.Test.YtengpgodmbfmkaaGreatG17
namespace Go.Proofs.YtengpgodmbfmkaaGreat
set_option linter.unusedVariables false
set_option linter.unusedSimpArgs false
set_option maxRecDepth 100000
set_option maxHeartbeats 40000000
section
open Go.RowKit
theorem pow_limit {k L : Nat} {N : Int} (h : (4294967296 : Int) ^ k ≤ N) (h2 : N < (10000 : Int) ^ L) : k < L := by
 rcases Nat.lt_or_ge k L with g | g
 · exact g
 · exfalso
   have e1 : (10000 : Nat) ^ L ≤ 4294967296 ^ L := Nat.pow_le_pow_left (by omega) L
   have e2 : (4294967296 : Nat) ^ L ≤ 4294967296 ^ k := Nat.pow_le_pow_right (by omega) g
   have e3 : ((10000 ^ L : Nat) : Int) = (10000 : Int) ^ L := by rw [Int.natCast_pow]; rfl
   have e4 : ((4294967296 ^ k : Nat) : Int) = (4294967296 : Int) ^ k := by rw [Int.natCast_pow]; rfl
   omega
theorem limbsR_any {u : Value} {ds : List Int} {a : Option Addr} {ca : Nat} {w : World} (A : ArgD w u ds a ca) (hx : ds.length ≤ 1099511627776) :
 Calls Tryz.prog 70 #[u] w fun e w' => ∃ r, e = .returned r ∧ ∃ zs, Res w.heap.size w' r zs (valD ds) ∧ zs.length ≤ ds.length ∧ Below w.heap.size w w' := by
 obtain ⟨i0, hi, hz0, hz1, hz2⟩ := info_parts infoLimb
 have hlt := val_ltD A.wf
 have h0N := val_nonnegD A.wf
 obtain ⟨N, hN⟩ : ∃ N, valD ds = N := ⟨_, rfl⟩
 rw [hN] at hlt h0N ⊢
 have HN := Lib.hid hN
 have HLT := Lib.hid hlt
 have HA := Lib.hid A
 obtain ⟨L, hL⟩ : ∃ L, ds.length = L := ⟨_, rfl⟩
 have HL := Lib.hid hL
 rw [hL] at hx ⊢
 clear hN hlt A hL
 go_enter Tryz.func70, Tryz.ntmps70
 go_wp2
 go_loopw [0, 3, 4, 5, 6, 7] (fun n s _ _ _ _ wr => ∃ (es zs : List Int) (b : Option Addr) (cb : Nat) (M : Int), ArgD wr n es b cb ∧ valD es = M ∧ 0 ≤ M ∧ es.length ≤ L ∧ Num w.heap.size wr s zs ∧ Wf zs ∧ val zs + 4294967296 ^ zs.length * M = N ∧ (M = 0 → trimN zs zs.length = zs.length) ∧ zs.length ≤ L ∧ Below w.heap.size w wr) (fun n _ _ _ _ _ wr => leftD wr n)
 case atStart => exact ⟨ds, [], a, ca, N, HA.out, HN.out, h0N, by rw [HL.out]; exact Nat.le_refl _, ⟨rfl, .inl ⟨rfl, rfl⟩⟩, Wf.nil, by simp [val], fun _ => rfl, Nat.zero_le _, Below.refl _ _⟩
 case round =>
  obtain ⟨es, zs, b, cb, M, E, hM, hM0, hel, hnum, hwf, hval, hfull, hzl, hb⟩ := hrel
  have hsz := hb.size
  have HE := Lib.hid E
  have HM := Lib.hid hM
  have HV := Lib.hid hval
  have HF := Lib.hid hfull
  have HO := Lib.hid hnum
  have HWF := Lib.hid hwf
  have hrow : wr.ownsRow w.heap.size 144 1 _ zs.length (zs.map (Value.int .u32)) := hnum
  have eE := E.is
  subst eE
  obtain ⟨m, hm⟩ : ∃ m, es.length = m := ⟨_, rfl⟩
  have HML := Lib.hid hm
  rw [hm] at hel
  rw [hm]
  by_cases hp : 0 < M
  · have hml : 0 < m := by
     rcases Nat.eq_zero_or_pos m with g | g
     · exfalso
       have := List.eq_nil_of_length_eq_zero (hm.trans g)
       rw [this] at hM
       simp [valD] at hM
       omega
     · exact g
    have hmI : (0 : Int) < (m : Int) := by omega
    have hs1 := short_any 65536 E (by omega) (by omega)
    rw [hM, hm] at hs1
    have hzL : zs.length < L := by
     refine pow_limit (N := N) ?_ (by rw [← HL.out]; exact HLT.out)
     have h1 := val_nonneg hwf
     have h2 := Int.mul_le_mul_of_nonneg_left (show (1 : Int) ≤ M by omega) (show (0 : Int) ≤ 4294967296 ^ zs.length from Int.pow_nonneg (by omega))
     omega
    obtain ⟨lo, hlo⟩ : ∃ lo, M % 65536 = lo := ⟨_, rfl⟩
    obtain ⟨hi2, hhi⟩ : ∃ h, M / 65536 = h := ⟨_, rfl⟩
    obtain ⟨up, hup⟩ : ∃ u, hi2 % 65536 = u := ⟨_, rfl⟩
    obtain ⟨rs, hrs⟩ : ∃ u, hi2 / 65536 = u := ⟨_, rfl⟩
    have hd : up * 65536 + lo + 4294967296 * rs = M := by omega
    have b0 : 0 ≤ lo ∧ lo < 65536 := by omega
    have b1 : 0 ≤ up ∧ up < 65536 := by omega
    have b2 : 0 ≤ rs := by omega
    obtain ⟨lo0, lo1⟩ := b0
    obtain ⟨up0, up1⟩ := b1
    rw [hlo, hhi] at hs1
    have HD := Lib.hid hd
    have HUP := Lib.hid hup
    have HRS := Lib.hid hrs
    clear hM hval hfull hnum hm hlo hhi hup hrs hd E
    go_wp2_with fail
    refine hs1.mono ?_
    rintro e w1 ⟨r1, rfl, z1, q1, l1, hb1⟩
    obtain ⟨ad1, cp1, rfl, q1, A1⟩ := q1.slice
    have v1 := q1.eq
    have hs2 := short_any 65536 A1 (by omega) (by omega)
    rw [v1, HUP.out, HRS.out] at hs2
    have hbw1 := hb.trans (hb1.mono hsz)
    have hrow1 : w1.ownsRow w.heap.size 144 1 _ zs.length (zs.map (Value.int .u32)) := Num.later HO.out hb1
    clear q1 v1 hs1 hrow
    go_wp2_with fail
    refine hs2.mono ?_
    rintro e w2 ⟨r2, rfl, z2, q2, l2, hb2⟩
    obtain ⟨ad2, cp2, rfl, q2, A2⟩ := q2.slice
    have hbw2 := hbw1.trans (hb2.mono hbw1.size)
    have hsz2 := hbw2.size
    have hrow2 : w2.ownsRow w.heap.size 144 1 _ zs.length (zs.map (Value.int .u32)) := Num.later (w := w1) hrow1 hb2
    have e1 : up % 4294967296 = up := by omega
    have e2 : lo % 4294967296 = lo := by omega
    have e3 : up * 65536 % 4294967296 = up * 65536 := by omega
    have e4 : (up * 65536 + lo) % 4294967296 = up * 65536 + lo := by omega
    have v2 := q2.eq
    have V2 := Lib.hid v2
    have Q2 := Lib.hid q2
    have HA2 := Lib.hid A2
    have HB2 := Lib.hid hbw2
    have HO2 : Hid (Num w.heap.size w2 _ zs) := Lib.hid hrow2
    clear hs2 hrow1 q2 v2 hbw1
    go_wp2_with (at_builtin; refine wpList_append_own _ rfl _ _ 52 rfl w.heap.size 144 i0 (.int .u32 0) 1 4 Tryz.underlying52 hi hz0 hz1 hz2 rfl (by decide) _ _ _ rfl (hrow2.alloc _) ⟨w2.heap.size, 0, none⟩ 1 1 [.int .u32 (up * 65536 + lo)] rfl rfl (cell_one_new _ _ _) (by simp [Value.oneCell']) (by unfold maxLen; omega) (by omega) (by simp; omega) ?_; intro v' w3 hown' hgrow _)
    have hnum3 : Num w.heap.size w3 v' (zs ++ [up * 65536 + lo]) := by
     unfold Num
     rw [List.length_append, List.map_append]
     exact hown'
    have hb3 : Below w.heap.size w w3 := (HB2.out.alloc hsz2 _).grown hgrow (by simp; omega) (fun k hk => (HO2.out.lt k hk).1)
    have Q3 : ResD w1.heap.size w3 (.slice ad2 z2.length cp2) z2 rs := ⟨apartV HO2.out hgrow (by decide) Q2.out.num, Q2.out.wf, Q2.out.full, Q2.out.eq⟩
    have A3 := Q3.at_.2
    go_roundw
    case rel => exact ⟨z2, _, ad2, cp2, rs, A3, V2.out, b2, by omega, hnum3, HWF.out.append (Wf.cons (by omega) Wf.nil), (by
     rw [val_append, List.length_append, List.length_singleton, Int.pow_succ]
     have h1 := HV.out
     have h2 := HD.out
     have h3 : val [up * 65536 + lo] = up * 65536 + lo := by simp [val]
     rw [h3, Int.mul_assoc, Int.add_assoc, ← Int.mul_add, h2]
     exact h1), fun h0 => full_snoc _ (by have := HD.out; omega), (by rw [List.length_append]; simp only [List.length_cons, List.length_nil]; omega), hb3⟩
    case measure =>
     have h1 := HE.out.left
     rw [HML.out, HM.out] at h1
     have h2 := HD.out
     rw [A3.left, V2.out, h1]
     omega
  · have h0 : M = 0 := by omega
    subst h0
    have hz := valD_zero E.wf E.full hM
    have hm0 : m = 0 := by rw [← hm, hz]
    subst hm0
    have hwfx := Lib.hid hwf
    clear hm hM hval hfull hnum E hz
    go_wp2
    go_ret
    refine ⟨_, rfl, zs, ⟨HO.out, hwf, (by have h := HF.out; simpa using h), ?_⟩, hzl, hb⟩
    have := HV.out
    rw [Int.mul_zero, Int.add_zero] at this
    exact this
theorem backR_any {n : Nat} {w : World} {v : Value} {X : Rat} (h : ArgR w v X n) (hn : n ≤ 1000000000) :
 Calls Tryz.prog 28 #[v] w fun e w' => ∃ r, e = .returned r ∧ ResQ w.heap.size w' r X n ∧ Below w.heap.size w w' := by
 obtain ⟨xs, ds, a1, a2, c1, c2, rfl, A, B, hX1, hX2, hx, hd⟩ := h
 obtain ⟨m1, hm1⟩ : ∃ m, decide (X.num < 0) = m := ⟨_, rfl⟩
 rw [hm1]
 have HM := Lib.hid hm1
 have HX1 := Lib.hid hX1
 have HX2 := Lib.hid hX2
 clear hm1 hX1 hX2
 obtain ⟨W, hW⟩ : ∃ W, ((w.alloc (.cells #[.bool m1, .slice a1 xs.length c1, .slice a2 ds.length c2] 58)).alloc (.cells #[.bool false, .slice none 0 0, .slice none 0 0] 54)) = W := ⟨_, rfl⟩
 have R0 : Row W (w.heap.size) 58 #[.bool m1, .slice a1 xs.length c1, .slice a2 ds.length c2] := by rw [← hW]; exact ((Row.new _ _ _).alloc _)
 have R1 : Row W (w.heap.size + 1) 54 #[.bool false, .slice none 0 0, .slice none 0 0] := by rw [← hW]; have h := (Row.new (w.alloc (.cells #[.bool m1, .slice a1 xs.length c1, .slice a2 ds.length c2] 58)) 54 #[.bool false, .slice none 0 0, .slice none 0 0]); simp only [World.size_alloc] at h; exact h
 have hBW : Below w.heap.size w W := by rw [← hW]; exact (((Below.refl _ _).alloc (by (try simp) <;> omega) _).alloc (by (try simp) <;> omega) _)
 have hsW : w.heap.size + 1 + 1 ≤ W.heap.size := by rw [← hW]; simp
 have mkS : ∀ X, Kept (w.heap.size + 1) W X → X.cell? ⟨w.heap.size, 0, none⟩ = some (.bool m1) ∧ X.cell? ⟨w.heap.size, 1, none⟩ = some (.slice a1 xs.length c1) ∧ X.cell? ⟨w.heap.size, 2, none⟩ = some (.slice a2 ds.length c2) ∧ Kept (w.heap.size + 1) W X := fun X h => ⟨(R0.kept h (by omega)).cell 0, (R0.kept h (by omega)).cell 1, (R0.kept h (by omega)).cell 2, h⟩
 go_enter Tryz.func28, Tryz.ntmps28
 go_wp2_with fail
 clear hW
 go_region_held3 (fun X => X.cell? ⟨w.heap.size, 0, none⟩ = some (.bool m1) ∧ X.cell? ⟨w.heap.size, 1, none⟩ = some (.slice a1 xs.length c1) ∧ X.cell? ⟨w.heap.size, 2, none⟩ = some (.slice a2 ds.length c2) ∧ Kept (w.heap.size + 1) W X)
  (((refine mkS _ ?_; (repeat' (first | exact Kept.refl _ _ | refine Kept.drew ?_ | refine Kept.alloc ?_ _ | refine Kept.set ?_ _ _ | refine Kept.below ?_ (by assumption))))))
  ((first
    | (go_at_call 70; (with_reducible refine (limbsR_any (B.later (Kept.under (show Kept (w.heap.size + 1) W _ by (repeat' (first | exact Kept.refl _ _ | refine Kept.drew ?_ | refine Kept.alloc ?_ _ | refine Kept.set ?_ _ _ | refine Kept.below ?_ (by assumption)))) hBW (by omega) (by omega))) (by omega)).mono ?_); rintro e w4 ⟨r4, rfl, z4, q4, l4, hb4⟩; obtain ⟨ad4, cp4, rfl, q4, A4⟩ := q4.slice; have P4 := R1.kept (show Kept (w.heap.size + 1 + 1 + 1) W w4 by (repeat' (first | exact Kept.refl _ _ | refine Kept.drew ?_ | refine Kept.alloc ?_ _ | refine Kept.set ?_ _ _ | refine Kept.below ?_ (by assumption)))) (by omega); have Q4 := Lib.hid q4; clear q4; obtain ⟨u0, u1, u2, g0, g1, g2⟩ := P4.three)
    | (go_at_call 70; (with_reducible refine (limbsR_any (A.later (Kept.under (show Kept (w.heap.size + 1) W _ by (repeat' (first | exact Kept.refl _ _ | refine Kept.drew ?_ | refine Kept.alloc ?_ _ | refine Kept.set ?_ _ _ | refine Kept.below ?_ (by assumption)))) hBW (by omega) (by omega))) (by omega)).mono ?_); rintro e w3 ⟨r3, rfl, z3, q3, l3, hb3⟩; obtain ⟨ad3, cp3, rfl, q3, A3⟩ := q3.slice; have Q3 := Lib.hid q3; clear q3)))
 have Q3' := Q3.out.later hb4
 have hk4 := (show Kept (w.heap.size + 1 + 1 + 1) W w4 by (repeat' (first | exact Kept.refl _ _ | refine Kept.drew ?_ | refine Kept.alloc ?_ _ | refine Kept.set ?_ _ _ | refine Kept.below ?_ (by assumption)))).size
 have hk3 := (show Kept (w.heap.size + 1 + 1 + 1) W w3 by (repeat' (first | exact Kept.refl _ _ | refine Kept.drew ?_ | refine Kept.alloc ?_ _ | refine Kept.set ?_ _ _ | refine Kept.below ?_ (by assumption)))).size
 have hK4 := (Kept.under (show Kept (w.heap.size + 1 + 1 + 1) W w4 by (repeat' (first | exact Kept.refl _ _ | refine Kept.drew ?_ | refine Kept.alloc ?_ _ | refine Kept.set ?_ _ _ | refine Kept.below ?_ (by assumption)))) hBW (by omega) (by omega))
 have HQ := Lib.hid Q3'
 clear Q3'
 go_wp2_with fail
 refine bodyPost_ret (v := .agg #[.bool m1, .slice ad3 z3.length cp3, .slice ad4 z4.length cp4]) (by simp [results, Tryz.results28, go_sem, u0, u1, u2]) rfl ⟨_, rfl, ⟨z3, z4, ad3, ad4, cp3, cp4, by rw [HM.out], ?_, ?_, by omega, by omega⟩, below_set3 hK4 (by omega) _ _ _⟩
 · rw [← HX1.out]; exact (HQ.out.mono (by show w.heap.size ≤ W.heap.size; omega)).far P4 (by decide) (kept3 _ _ _)
 · rw [← HX2.out]; exact (Q4.out.mono (by omega)).far P4 (by decide) (kept3 _ _ _)
end
section
open Go.RowKit
def FitQ (X : Rat) (b : Nat) : Prop := X.num.natAbs ≤ 2 ^ b ∧ X.den ≤ 2 ^ b
theorem FitQ.mono {X : Rat} {a b : Nat} (h : FitQ X a) (hb : a ≤ b) : FitQ X b :=
 ⟨Nat.le_trans h.1 (Nat.pow_le_pow_right (by omega) hb), Nat.le_trans h.2 (Nat.pow_le_pow_right (by omega) hb)⟩
theorem FitQ.of {n : Bool} {A B : Int} {b : Nat} (hA : 0 ≤ A) (hB : 0 ≤ B) (h1 : A ≤ ((2 ^ b : Nat) : Int)) (h2 : B ≤ ((2 ^ b : Nat) : Int)) : FitQ (ratOf n A B) b := by
 have hp : 1 ≤ 2 ^ b := Nat.one_le_two_pow
 rcases Int.lt_or_le 0 B with h | h
 · have e1 := ratOf_abs (n := n) hA h
   have e2 := ratOf_den (n := n) (A := A) h
   have hg : (0 : Int) ≤ (Int.gcd A B : Int) := Int.natCast_nonneg _
   have l1 : A / (Int.gcd A B : Int) ≤ A := Int.ediv_le_self _ hA
   have l2 : B / (Int.gcd A B : Int) ≤ B := Int.ediv_le_self _ hB
   constructor <;> omega
 · have hz : B = 0 := by omega
   subst hz
   rw [ratOf_zero_right]
   exact ⟨by show 0 ≤ _; omega, by show 1 ≤ _; omega⟩
theorem FitQ.zero (b : Nat) : FitQ 0 b := ⟨Nat.zero_le _, Nat.one_le_two_pow⟩
theorem two_pow_mul (a b : Nat) {x y : Nat} (h1 : x ≤ 2 ^ a) (h2 : y ≤ 2 ^ b) : x * y ≤ 2 ^ (a + b) := by
 rw [Nat.pow_add]; exact Nat.mul_le_mul h1 h2
theorem FitQ.mul {X Y : Rat} {a b : Nat} (h : FitQ X a) (k : FitQ Y b) : FitQ (X * Y) (a + b) := by
 rw [← rat_mul]
 have e1 := two_pow_mul a b h.1 k.1
 have e2 := two_pow_mul a b h.2 k.2
 refine FitQ.of (Int.mul_nonneg (Int.natCast_nonneg _) (Int.natCast_nonneg _)) (Int.mul_nonneg (Int.natCast_nonneg _) (Int.natCast_nonneg _)) ?_ ?_
 · rw [← Int.natCast_mul]; omega
 · rw [← Int.natCast_mul]; omega
theorem sgn_abs (t : Int) : sgn (decide (t < 0)) (t.natAbs : Int) = t := by
 unfold sgn
 by_cases h : t < 0
 · rw [decide_eq_true h]; simp; omega
 · rw [decide_eq_false h]; simp; omega
theorem sgn_natAbs (n : Bool) (A : Int) : (sgn n A).natAbs = A.natAbs := by
 unfold sgn
 cases n <;> simp
theorem FitQ.add {X Y : Rat} {a b : Nat} (h : FitQ X a) (k : FitQ Y b) : FitQ (X + Y) (a + b + 1) := by
 obtain ⟨A, hA⟩ : ∃ A, X.num.natAbs = A := ⟨_, rfl⟩
 obtain ⟨B, hB⟩ : ∃ B, X.den = B := ⟨_, rfl⟩
 obtain ⟨C, hC⟩ : ∃ C, Y.num.natAbs = C := ⟨_, rfl⟩
 obtain ⟨D, hD⟩ : ∃ D, Y.den = D := ⟨_, rfl⟩
 have eX : ratOf (decide (X.num < 0)) (A : Int) (B : Int) = X := by rw [← hA, ← hB]; exact ratOf_self X
 have eY : ratOf (decide (Y.num < 0)) (C : Int) (D : Int) = Y := by rw [← hC, ← hD]; exact ratOf_self Y
 have pB := den_pos' X
 have pD := den_pos' Y
 rw [hB] at pB
 rw [hD] at pD
 obtain ⟨t, ht⟩ : ∃ t, sgn (decide (X.num < 0)) ((A : Int) * (D : Int)) + sgn (decide (Y.num < 0)) ((C : Int) * (B : Int)) = t := ⟨_, rfl⟩
 have hs := rat_sum (m := decide (X.num < 0)) (n := decide (Y.num < 0)) (r := decide (t < 0)) (A := A) (B := B) (C := C) (D := D) (S := (t.natAbs : Int)) pB pD (by rw [sgn_abs, ht])
 rw [eX, eY] at hs
 rw [← hs]
 have f1 := h.1
 have f2 := h.2
 have f3 := k.1
 have f4 := k.2
 rw [hA] at f1
 rw [hB] at f2
 rw [hC] at f3
 rw [hD] at f4
 have g1 := two_pow_mul a b f1 f4
 have g2 := two_pow_mul b a f3 f2
 have g3 := two_pow_mul a b f2 f4
 have ht2 : t.natAbs ≤ A * D + C * B := by
  rw [← ht]
  refine Nat.le_trans (Int.natAbs_add_le _ _) ?_
  rw [sgn_natAbs, sgn_natAbs, Int.natAbs_mul, Int.natAbs_mul]
  simp
 rw [Nat.add_comm b a] at g2
 have hp2 : 2 ^ (a + b + 1) = 2 ^ (a + b) * 2 := Nat.pow_succ ..
 refine FitQ.of (Int.natCast_nonneg _) (Int.mul_nonneg (Int.natCast_nonneg _) (Int.natCast_nonneg _)) ?_ ?_
 · omega
 · rw [← Int.natCast_mul]; omega
theorem FitQ.raw {q : Q3} {m : Nat} (h1 : Wf q.num) (h2 : Wf q.den) (l1 : q.num.length ≤ m) (l2 : q.den.length ≤ m) : FitQ q.rat (32 * m) := by
 have e : ∀ {xs : List Int}, Wf xs → xs.length ≤ m → val xs ≤ ((2 ^ (32 * m) : Nat) : Int) := fun {xs} hx hl => by
  have h3 := val_lt hx
  have h4 : (4294967296 : Nat) ^ xs.length ≤ 4294967296 ^ m := Nat.pow_le_pow_right (by omega) hl
  have h5 : ((4294967296 ^ xs.length : Nat) : Int) = (4294967296 : Int) ^ xs.length := by rw [Int.natCast_pow]; rfl
  have h6 : 2 ^ (32 * m) = (4294967296 : Nat) ^ m := by rw [Nat.pow_mul]
  omega
 exact FitQ.of (val_nonneg h1) (val_nonneg h2) (e h1 l1) (e h2 l2)
theorem full_last {zs : List Int} (hf : trimN zs zs.length = zs.length) (hn : zs ≠ []) : zs.getD (zs.length - 1) 0 ≠ 0 := by
 obtain ⟨n, hl⟩ : ∃ n, zs.length = n + 1 := ⟨zs.length - 1, by have := List.length_pos_iff.2 hn; omega⟩
 rw [hl] at hf ⊢
 intro e
 rw [show n + 1 - 1 = n by omega] at e
 unfold trimN at hf
 rw [if_pos e] at hf
 have : ∀ (k : Nat), trimN zs k ≤ k := fun k => by
  induction k with
  | zero => exact Nat.le_refl _
  | succ k ih => unfold trimN; split <;> omega
 have := this n
 omega
theorem lenD_le {zs : List Int} {b : Nat} (hw : WfD zs) (hf : trimN zs zs.length = zs.length) (h : valD zs ≤ ((2 ^ b : Nat) : Int)) : zs.length ≤ b / 13 + 1 := by
 by_cases hn : zs = []
 · subst hn; simp
 · obtain ⟨n, hl⟩ : ∃ n, zs.length = n + 1 := ⟨zs.length - 1, by have := List.length_pos_iff.2 hn; omega⟩
   have hx := full_last hf hn
   have hd := hw.getD (zs.length - 1)
   have ht := val_take_succD zs n
   have h0 := val_nonnegD (hw.take n)
   rw [hl, show n + 1 - 1 = n by omega] at hx hd
   rw [List.take_of_length_le (by omega)] at ht
   obtain ⟨P, hP⟩ : ∃ P : Nat, 10000 ^ n = P := ⟨_, rfl⟩
   have hPI : (10000 : Int) ^ n = (P : Int) := by rw [← hP, Int.natCast_pow]; rfl
   rw [hPI] at ht
   have h1 : (P : Int) * 1 ≤ (P : Int) * zs.getD n 0 := Int.mul_le_mul_of_nonneg_left (by omega) (Int.natCast_nonneg _)
   have h2 : 2 ^ (13 * n) ≤ P := by rw [← hP, Nat.pow_mul]; exact Nat.pow_le_pow_left (by omega) n
   have h3 : 2 ^ (13 * n) ≤ 2 ^ b := by omega
   have h4 : 13 * n ≤ b := (Nat.pow_le_pow_iff_right (by omega)).1 h3
   omega
end
section
open Go.RowKit
theorem emptyT_any {w : World} (v : Value) (sa sb : Option Addr) (n m ca cb : Nat) (hv : v = .agg #[.slice sa n ca, .slice sb m cb]) :
 Calls Tryz.prog 49 #[v] w fun e w' => e = .returned (.bool (decide (n = 0) && decide (m = 0))) ∧ Below w.heap.size w w' := by
 subst hv
 obtain ⟨W, hW⟩ : ∃ W, (w.alloc (.cells #[.slice sa n ca, .slice sb m cb] 26)) = W := ⟨_, rfl⟩
 have R0 : Row W w.heap.size 26 #[.slice sa n ca, .slice sb m cb] := by rw [← hW]; exact Row.new _ _ _
 have hBW : Below w.heap.size w W := by rw [← hW]; exact (Below.refl _ _).alloc (by simp) _
 obtain ⟨c0, c1, _, _⟩ := R0.two
 by_cases h0 : n = 0
 · subst h0
   by_cases h1 : m = 0
   · subst h1
     go_enter Tryz.func49, Tryz.ntmps49
     go_wp2
     go_ret
     exact ⟨rfl, hBW⟩
   · have h1I : ((m : Int) == 0) = false := by simp; omega
     rw [decide_eq_false h1]
     clear h1
     go_enter Tryz.func49, Tryz.ntmps49
     go_wp2
     go_ret
     exact ⟨rfl, hBW⟩
 · have h0I : ((n : Int) == 0) = false := by simp; omega
   rw [decide_eq_false h0]
   clear h0
   go_enter Tryz.func49, Tryz.ntmps49
   go_wp2
   go_ret
   exact ⟨rfl, hBW⟩
theorem ResS.at_ {base : Nat} {w : World} {ad : Option Addr} {n cap : Nat} {xs : List Int} (h : ResS base w (.slice ad n cap) xs) : n = xs.length ∧ ArgS w (.slice ad n cap) xs ad cap ∧ (ad = none → cap = 0) := by
 obtain ⟨ad', cap', e, _, A, hn⟩ := h.slice
 simp only [Value.slice.injEq] at e
 obtain ⟨rfl, rfl, rfl⟩ := e
 exact ⟨rfl, A, hn⟩
theorem RowA.imp {α : Type} {P Q : World → Value → α → Prop} {w : World} {u : Value} {L : List α} {ad : Option Addr} {cap : Nat} (h : RowA P w u L ad cap) (hP : ∀ v x, x ∈ L → P w v x → Q w v x) : RowA Q w u L ad cap := by
 refine ⟨h.is, h.le, ?_⟩
 rcases h.els with e | ⟨b, o, es, e, c, k⟩
 · exact .inl e
 · exact .inr ⟨b, o, es, e, c, k.imp hP⟩
theorem RowO.at_ {α : Type} {base : Nat} {T : TypeId} {P : World → Value → α → Prop} {w : World} {ad : Option Addr} {n cap : Nat} {L : List α} (h : RowO base T P w (.slice ad n cap) L) : n = L.length ∧ RowA P w (.slice ad n cap) L ad cap ∧ (ad = none → cap = 0) := by
 obtain ⟨ad', cap', A, hn, _⟩ := h.arg
 have e := A.is
 simp only [Value.slice.injEq] at e
 obtain ⟨rfl, rfl, rfl⟩ := e
 exact ⟨rfl, A, hn⟩
end
section
open Go.RowKit Go.ChangeShapes Go.WideShapes Go.ChangeAt Go.Joins Go.Deep
theorem cellsInt7 : Tryz.prog.cellsOf 3 = 1 := by kernel_rfl
theorem wf_int7 {i : Int} (h : (Lit.int .i64 i).wf = true) : -9223372036854775808 ≤ i ∧ i ≤ 9223372036854775807 := by simpa [Lit.wf, IntKind.min, IntKind.max, IntKind.signed, IntKind.bits] using h
theorem open_natB {H : Type} {enc : TypeId × Value → H} {W : World} {v : Value} {y : DataW H × List MemPlace} {fuel : Nat}
 (hf : DataW.trod enc Tryz.prog W 0 (fun _ => true) true fuel 52 [v] = some y) : ∃ ad xs cap, v = .slice ad xs.length cap ∧ Arg W (.slice ad xs.length cap) xs ad cap ∧ xs.length + 1 ≤ Rows.uptoBulk y.1 ∧ (ad = none → cap = 0) := by
 rcases open_ints Tryz.underlying52 Tryz.underlying144 cellsLimb hf with ⟨hcs, hx⟩ | ⟨a, n, cap, zs, hcs, _, hl, hm, hz, hx, hcell, hwz⟩
 · simp only [List.cons.injEq, and_true] at hcs
   subst hcs
   exact ⟨none, [], 0, rfl, ⟨rfl, .inl rfl, Nat.le_refl _, Wf.nil⟩, by have := bulk_pos y.1; simpa using this, fun _ => rfl⟩
 · simp only [List.cons.injEq, and_true] at hcs
   subst hcs
   subst hx
   simp only [if_true] at hz
   have hlen : (zs.take n).length = n := by rw [List.length_take]; omega
   have hb := bulk_slice (lits .u32 (zs.take n) : List (DataW H)) (lits .u32 (zs.drop n))
   have hb2 : (zs.take n).length + 1 ≤ Rows.uptoBulk (.slice (lits .u32 (zs.take n) : List (DataW H)) (lits .u32 (zs.drop n))) := by
    have h1 := bulk_len (lits .u32 (zs.take n) : List (DataW H))
    simp only [lits, List.length_map] at h1
    simp only [Rows.uptoBulk, lits]
    omega
   refine ⟨some a, zs.take n, cap, by rw [hlen], ⟨rfl, ?_, by rw [hlen]; exact hl, fun x hx => wf_limb (hwz x (List.mem_of_mem_take hx))⟩, hb2, fun e => by cases e⟩
   by_cases h0 : n = 0
   · exact .inl (by simp [h0])
   · obtain ⟨b, off, rfl, hc⟩ := ints_at hcell (by omega)
     refine .inr ⟨b, off, rfl, fun i hi => ?_⟩
     rw [hlen] at hi
     rw [hc i (by omega)]
     simp [hi]
def sizeQ (q : Q3) : Nat := q.num.length + q.den.length + 1
def sizeQs : List Q3 → Nat
 | [] => 0
 | q :: qs => sizeQ q + sizeQs qs
theorem sizeQs_range {H : Type} (F : Nat → Q3) (D : Nat → DataW H) (n : Nat) (h : ∀ i, i < n → sizeQ (F i) ≤ Rows.uptoBulk (D i)) : sizeQs ((List.range n).map F) ≤ Rows.uptoBulkAll ((List.range n).map D) := by
 suffices hs : ∀ l : List Nat, (∀ i ∈ l, sizeQ (F i) ≤ Rows.uptoBulk (D i)) → sizeQs (l.map F) ≤ Rows.uptoBulkAll (l.map D) from hs _ (fun i hi => h i (List.mem_range.1 hi))
 intro l
 induction l with
 | nil => intro _; simp [sizeQs]
 | cons a l ih =>
   intro hl
   have h1 := hl a (List.mem_cons_self ..)
   have h2 := ih (fun i hi => hl i (List.mem_cons_of_mem _ hi))
   simp only [List.map_cons, sizeQs, Rows.uptoBulkAll]
   omega
theorem open_rats {H : Type} {enc : TypeId × Value → H} {W : World} {v : Value} {y : DataW H × List MemPlace} {fuel : Nat}
 (hf : DataW.trod enc Tryz.prog W 0 (fun _ => true) true fuel 24 [v] = some y) : ∃ (ad : Option Addr) (qs : List Q3) (cap : Nat), v = .slice ad qs.length cap ∧ RowA RawQ W (.slice ad qs.length cap) qs ad cap ∧ (ad = none → cap = 0) ∧ sizeQs qs + 1 ≤ Rows.uptoBulk y.1 := by
 rcases open_slice Tryz.underlying24 hf with ⟨hcs, hx⟩ | ⟨a, len, cap, m, n, D, Pl, hcs, hb, hl, hm, hmm, hx, hi⟩
 · simp only [List.cons.injEq, and_true] at hcs
   subst hcs
   exact ⟨none, [], 0, rfl, ⟨rfl, Nat.le_refl _, .inl rfl⟩, fun _ => rfl, by have := bulk_pos y.1; simpa [sizeQs] using this⟩
 · simp only [List.cons.injEq, and_true] at hcs
   subst hcs
   subst hx
   simp only [if_true] at hmm
   rw [cellsRat] at hi
   have hel : ∀ i, i < len → ∃ (e : E3) (q : Q3), W.cell? (a.add (i * 3)) = some e.a ∧ W.cell? ((a.add (i * 3)).add 1) = some e.b ∧ W.cell? ((a.add (i * 3)).add 2) = some e.c ∧ RawQ W e.agg q ∧ sizeQ q ≤ Rows.uptoBulk (D i) := fun i hlt => by
    obtain ⟨cs', hc, ht⟩ := hi i (by omega)
    obtain ⟨_, hcl, hat⟩ := World.cells?_some hc
    obtain ⟨xs, n', _, hy, hlen, hyl, hfd⟩ := DataW.trod_struct Tryz.underlying54 ht
    have hc3 : cs'.length = 3 := hcl
    match cs', hc3 with
    | [c0, c1, c2], _ =>
      match xs, (show xs.length = 3 from hyl) with
      | [y0, y1, y2], _ =>
        have h0 := hfd 0 _ rfl
        have h1 := hfd 1 _ rfl
        have h2 := hfd 2 _ rfl
        have g0 : DataW.trod enc Tryz.prog W 0 (fun _ => true) true n' 4 [c0] = some y0 := h0
        have g1 : DataW.trod enc Tryz.prog W 0 (fun _ => true) true n' 52 [c1] = some y1 := h1
        have g2 : DataW.trod enc Tryz.prog W 0 (fun _ => true) true n' 52 [c2] = some y2 := h2
        obtain ⟨b, hbv, _⟩ := DataW.trod_bool Tryz.underlying4 g0
        simp only [List.cons.injEq, and_true] at hbv
        subst hbv
        obtain ⟨ad, zs, ca, rfl, A, l1, n1⟩ := open_natB g1
        obtain ⟨bd, ys, cb, rfl, B, l2, n2⟩ := open_natB g2
        have p0 := hat 0 (by omega)
        have p1 := hat 1 (by omega)
        have p2 := hat 2 (by omega)
        rw [show ∀ p : Addr, p.add 0 = p from fun p => by cases p; rename_i b o path; cases path <;> simp [Addr.add]] at p0
        refine ⟨⟨.bool b, .slice ad zs.length ca, .slice bd ys.length cb⟩, ⟨b, zs, ys⟩, p0, p1, p2, ⟨ad, bd, ca, cb, rfl, A, B, n1, n2⟩, ?_⟩
        have hD : D i = .agg ([y0, y1, y2].map (·.1)) := by simpa using congrArg Prod.fst hy
        rw [hD]
        simp only [List.map_cons, List.map_nil, Rows.uptoBulk, Rows.uptoBulkAll, sizeQ]
        omega
   have hel2 : ∀ i, ∃ (e : E3) (q : Q3), i < len → W.cell? (a.add (i * 3)) = some e.a ∧ W.cell? ((a.add (i * 3)).add 1) = some e.b ∧ W.cell? ((a.add (i * 3)).add 2) = some e.c ∧ RawQ W e.agg q ∧ sizeQ q ≤ Rows.uptoBulk (D i) := fun i => by
    by_cases h : i < len
    · obtain ⟨e, q, h'⟩ := hel i h
      exact ⟨e, q, fun _ => h'⟩
    · exact ⟨⟨.bool false, .bool false, .bool false⟩, ⟨false, [], []⟩, fun h' => absurd h' h⟩
   obtain ⟨E, hE⟩ := Classical.axiomOfChoice hel2
   obtain ⟨F, hF⟩ := Classical.axiomOfChoice hE
   have hlq : ((List.range len).map F).length = len := by simp
   refine ⟨some a, (List.range len).map F, cap, by rw [hlq], ⟨rfl, by rw [hlq]; exact hl, ?_⟩, (by intro e; cases e), ?_⟩
   · by_cases h0 : len = 0
     · exact .inl (by rw [h0]; rfl)
     · have hp : ∃ b o, a = ⟨b, o, none⟩ := by
        obtain ⟨h1, _⟩ := hF 0 (by omega)
        obtain ⟨b, off, spot⟩ := a
        have hspot : spot = none := by simpa [Addr.add] using World.cell?_spot h1
        subst hspot
        exact ⟨b, off, rfl⟩
       obtain ⟨b, o, rfl⟩ := hp
       refine .inr ⟨b, o, (List.range len).map E, rfl, fun i e he => ?_, ⟨by simp, fun i e q he hq => ?_⟩⟩
       · have hlt : i < len := by
          rcases Nat.lt_or_ge i len with g | g
          · exact g
          · rw [List.getElem?_eq_none (by simpa using g)] at he; cases he
         rw [List.getElem?_map, List.getElem?_range hlt] at he
         simp only [Option.map_some, Option.some.injEq] at he
         subst he
         obtain ⟨h1, h2, h3, _⟩ := hF i hlt
         rw [add_plain] at h1 h2 h3
         rw [add_plain] at h2 h3
         exact ⟨h1, h2, h3⟩
       · have hlt : i < len := by
          rcases Nat.lt_or_ge i len with g | g
          · exact g
          · rw [List.getElem?_eq_none (by simpa using g)] at he; cases he
         rw [List.getElem?_map, List.getElem?_range hlt] at he hq
         simp only [Option.map_some, Option.some.injEq] at he hq
         subst he
         subst hq
         exact (hF i hlt).2.2.2.1
   · have h1 := sizeQs_range F D len (fun i hi => (hF i hi).2.2.2.2)
     simp only [Rows.uptoBulk]
     omega
theorem cellsTensor : Tryz.prog.cellsOf 26 = 2 := by kernel_rfl
end
section
open Go.RowKit Go.ChangeShapes Go.WideShapes Go.ChangeAt Go.Joins Go.Deep
structure X2 where
 s : List Int
 q : List Q3
end
section
open Go.RowKit
variable {P : Program} {md : Region.Mode} {ops : Array Oper} {Q : Exit → Act → World → Prop} {S : World → Prop}
structure Fl where
 op : Nat
 dst : Nat
 ty : TypeId
 cells : Array Value
 val : Nat → Value
def setF : List Fl → List Bool → Array Bool → Array Bool
 | f :: fs, b :: bs, L => setF fs bs (L.setIfInBounds f.op b)
 | _, _, L => L
def putF : List Fl → List Value → Act → Act
 | f :: fs, u :: us, a => putF fs us (a.put (some f.dst) u)
 | _, _, a => a
theorem setF_out {c : Nat} {v : Bool} : ∀ (fs : List Fl) (bs : List Bool) (L : Array Bool), c ∉ fs.map Fl.op → setF fs bs (L.setIfInBounds c v) = (setF fs bs L).setIfInBounds c v
 | [], _, _, _ => by simp [setF]
 | f :: fs, [], _, _ => by simp [setF]
 | f :: fs, b :: bs, L, h => by
   simp only [List.map_cons, List.mem_cons, not_or] at h
   simp only [setF]
   rw [Array.setIfInBounds_comm _ _ h.1, setF_out fs bs _ h.2]
theorem setF_at {v : Bool} : ∀ (fs : List Fl) (bs : List Bool) (L : Array Bool) (k : Nat) (f : Fl), fs[k]? = some f → bs.length = fs.length → (fs.map Fl.op).Nodup → (setF fs bs L).setIfInBounds f.op v = setF fs (bs.set k v) L
 | [], _, _, _, _, h, _, _ => by simp at h
 | f :: fs, [], _, _, _, _, h, _ => by simp at h
 | f :: fs, b :: bs, L, 0, g, h, hl, hn => by
   simp only [List.getElem?_cons_zero, Option.some.injEq] at h
   subst h
   simp only [List.map_cons, List.nodup_cons] at hn
   simp only [setF, List.set_cons_zero]
   rw [← setF_out fs bs _ hn.1, Array.setIfInBounds_setIfInBounds]
 | f :: fs, b :: bs, L, k + 1, g, h, hl, hn => by
   simp only [List.getElem?_cons_succ] at h
   simp only [List.map_cons, List.nodup_cons] at hn
   simp only [setF, List.set_cons_succ]
   exact setF_at fs bs _ k g h (by simpa using hl) hn.2
theorem putF_out {c : Nat} {v : Value} : ∀ (fs : List Fl) (us : List Value) (a : Act), c ∉ fs.map Fl.dst → putF fs us (a.put (some c) v) = (putF fs us a).put (some c) v
 | [], _, _, _ => by simp [putF]
 | f :: fs, [], _, _ => by simp [putF]
 | f :: fs, u :: us, a, h => by
   simp only [List.map_cons, List.mem_cons, not_or] at h
   simp only [putF]
   rw [put_comm10 a h.1, putF_out fs us _ h.2]
theorem put_put10 (a : Act) (d : Nat) (u v : Value) : (a.put (some d) u).put (some d) v = a.put (some d) v := by
 cases a
 simp only [Act.put]
 rw [Array.setIfInBounds_setIfInBounds]
theorem putF_at {v : Value} : ∀ (fs : List Fl) (us : List Value) (a : Act) (k : Nat) (f : Fl), fs[k]? = some f → us.length = fs.length → (fs.map Fl.dst).Nodup → (putF fs us a).put (some f.dst) v = putF fs (us.set k v) a
 | [], _, _, _, _, h, _, _ => by simp at h
 | f :: fs, [], _, _, _, _, h, _ => by simp at h
 | f :: fs, u :: us, a, 0, g, h, hl, hn => by
   simp only [List.getElem?_cons_zero, Option.some.injEq] at h
   subst h
   simp only [List.map_cons, List.nodup_cons] at hn
   simp only [putF, List.set_cons_zero]
   rw [← putF_out fs us _ hn.1, put_put10]
 | f :: fs, u :: us, a, k + 1, g, h, hl, hn => by
   simp only [List.getElem?_cons_succ] at h
   simp only [List.map_cons, List.nodup_cons] at hn
   simp only [putF, List.set_cons_succ]
   exact putF_at fs us _ k g h (by simpa using hl) hn.2
def allL : Nat → (List Bool → Bool) → Bool
 | 0, p => p []
 | n + 1, p => allL n (fun l => p (true :: l)) && allL n (fun l => p (false :: l))
theorem allL_spec : ∀ (n : Nat) (p : List Bool → Bool), allL n p = true → ∀ l, l.length = n → p l = true
 | 0, p, h, l, hl => by
   obtain rfl := List.eq_nil_of_length_eq_zero hl
   exact h
 | n + 1, p, h, [], hl => by simp at hl
 | n + 1, p, h, b :: l, hl => by
   simp only [allL, Bool.and_eq_true] at h
   cases b
   · exact allL_spec n _ h.2 l (by simpa using hl)
   · exact allL_spec n _ h.1 l (by simpa using hl)
theorem count_set10 : ∀ (bs : List Bool) (k : Nat), bs[k]? = some false → (bs.set k true).count false + 1 = bs.count false
 | [], k, h => by simp at h
 | b :: bs, 0, h => by
   simp only [List.getElem?_cons_zero, Option.some.injEq] at h
   subst h
   simp
 | b :: bs, k + 1, h => by
   simp only [List.getElem?_cons_succ] at h
   have := count_set10 bs k h
   simp only [List.set_cons_succ, List.count_cons]
   omega
structure OkF (n0 : Nat) (X : World) (fs : List Fl) (bs : List Bool) (us : List Value) : Prop where
 lb : bs.length = fs.length
 lu : us.length = fs.length
 row : ∀ (k : Nat) (f : Fl) (u : Value), fs[k]? = some f → bs[k]? = some true → us[k]? = some u → ∃ g, u = f.val g ∧ n0 ≤ g ∧ Row X g f.ty f.cells
 ne : ∀ (j k : Nat) (f f' : Fl) (g : Nat), j ≠ k → fs[j]? = some f → fs[k]? = some f' → bs[j]? = some true → bs[k]? = some true → us[j]? = some (f.val g) → us[k]? ≠ some (f'.val g)
def InjF (fs : List Fl) : Prop := ∀ f ∈ fs, ∀ g g', f.val g = f.val g' → g = g'
theorem OkF.later {n0 : Nat} {X Y : World} {fs : List Fl} {bs : List Bool} {us : List Value} (h : OkF n0 X fs bs us) (hb : Below X.heap.size X Y) : OkF n0 Y fs bs us :=
 ⟨h.lb, h.lu, fun k f u h1 h2 h3 => by
  obtain ⟨g, e, hg, R⟩ := h.row k f u h1 h2 h3
  exact ⟨g, e, hg, R.later hb⟩, h.ne⟩
theorem OkF.more {n0 k : Nat} {X : World} {fs : List Fl} {bs : List Bool} {us : List Value} {f : Fl} (hi : InjF fs) (h : OkF n0 X fs bs us) (hk : fs[k]? = some f) (hb : bs[k]? = some false) (h0 : n0 ≤ X.heap.size) :
 OkF n0 (X.alloc (.cells f.cells f.ty)) fs (bs.set k true) (us.set k (f.val X.heap.size)) := by
 have hlt : k < fs.length := (List.getElem?_eq_some_iff.1 hk).1
 have hlu : k < us.length := by rw [h.lu]; exact hlt
 have hbel : Below X.heap.size X (X.alloc (.cells f.cells f.ty)) := (Below.refl _ _).alloc (Nat.le_refl _) _
 have old : ∀ j u, j ≠ k → (bs.set k true)[j]? = some true → (us.set k (f.val X.heap.size))[j]? = some u → bs[j]? = some true ∧ us[j]? = some u := fun j u hj h1 h2 => by
  rw [List.getElem?_set_ne (fun e => hj e.symm)] at h1 h2
  exact ⟨h1, h2⟩
 have new : ∀ u, (us.set k (f.val X.heap.size))[k]? = some u → u = f.val X.heap.size := fun u hu => by
  rw [List.getElem?_set_self hlu] at hu
  exact (Option.some.inj hu).symm
 have far : ∀ j f' g, j ≠ k → fs[j]? = some f' → (bs.set k true)[j]? = some true → (us.set k (f.val X.heap.size))[j]? = some (f'.val g) → g < X.heap.size := fun j f' g hj hf h1 h2 => by
  obtain ⟨o1, o2⟩ := old j _ hj h1 h2
  obtain ⟨g', e', _, R⟩ := h.row j f' _ hf o1 o2
  rw [hi f' (List.mem_of_getElem? hf) _ _ e']
  exact R.lt
 refine ⟨by simp [h.lb], by simp [h.lu], fun j f' u h1 h2 h3 => ?_, fun i j fi fj g hij e1 e2 h1 h2 h3 h4 => ?_⟩
 · by_cases hj : j = k
   · subst hj
     rw [hk] at h1
     cases h1
     exact ⟨_, new u h3, h0, Row.new _ _ _⟩
   · obtain ⟨o1, o2⟩ := old j u hj h2 h3
     obtain ⟨g, e, hg, R⟩ := h.row j f' u h1 o1 o2
     exact ⟨g, e, hg, R.later hbel⟩
 · by_cases hi' : i = k
   · subst hi'
     rw [hk] at e1
     cases e1
     have := hi f (List.mem_of_getElem? hk) _ _ (new _ h3)
     have := far j fj g (Ne.symm hij) e2 h2 h4
     omega
   · by_cases hj : j = k
     · subst hj
       rw [hk] at e2
       cases e2
       have := hi f (List.mem_of_getElem? hk) _ _ (new _ h4)
       have := far i fi g hi' e1 h1 h3
       omega
     · obtain ⟨o1, o2⟩ := old i _ hi' h1 h3
       obtain ⟨o3, o4⟩ := old j _ hj h2 h4
       exact h.ne i j fi fj g hij e1 e2 o1 o3 o2 o4
def IsF (P : Program) (ops : Array Oper) (Q : Exit → Act → World → Prop) (fs : List Fl) : Prop :=
 ∀ f ∈ fs, (∀ g g', f.val g = f.val g' → g = g') ∧ ∃ o, ops[f.op]? = some o ∧ ∀ (a : Act) (X : World) (K : Act → World → Prop), K (a.put (some f.dst) (f.val X.heap.size)) (X.alloc (.cells f.cells f.ty)) → StepH P ops Q o a X K
theorem IsF.inj {fs : List Fl} (h : IsF P ops Q fs) : InjF fs := fun f hf => (h f hf).1
def okR (md : Region.Mode) (ops : Array Oper) (L : Array Bool) (fs : List Fl) (c : Nat) (need : List Nat) (bs : List Bool) : Bool :=
 !(Region.ready md ops (setF fs bs L)).isEmpty && (Region.ready md ops (setF fs bs L)).all fun j => (j == c && need.all fun k => bs.getD k false) || (List.range fs.length).any fun k => (fs.map Fl.op).getD k 0 == j && !bs.getD k true
def okE (md : Region.Mode) (ops : Array Oper) (L : Array Bool) (fs : List Fl) (bs : List Bool) : Bool :=
 bs.count false == 0 || (!(Region.ready md ops (setF fs bs L)).isEmpty && (Region.ready md ops (setF fs bs L)).all fun j => (List.range fs.length).any fun k => (fs.map Fl.op).getD k 0 == j && !bs.getD k true)
theorem len_one10 {us : List Value} (h : us.length = 1) : ∃ u, us = [u] := by
 match us, h with
 | [u], _ => exact ⟨u, rfl⟩
theorem len_three10 {us : List Value} (h : us.length = 3) : ∃ u v x, us = [u, v, x] := by
 match us, h with
 | [u, v, x], _ => exact ⟨u, v, x, rfl⟩
theorem pend_of {fs : List Fl} {bs : List Bool} {j : Nat} (hl : bs.length = fs.length) (h : ((List.range fs.length).any fun k => (fs.map Fl.op).getD k 0 == j && !bs.getD k true) = true) : ∃ (k : Nat) (f : Fl), fs[k]? = some f ∧ bs[k]? = some false ∧ f.op = j := by
 rw [List.any_eq_true] at h
 obtain ⟨k, hk, h⟩ := h
 have hk' : k < fs.length := List.mem_range.1 hk
 have hb : k < bs.length := by omega
 simp only [Bool.and_eq_true, beq_iff_eq, Bool.not_eq_true'] at h
 refine ⟨k, fs[k], List.getElem?_eq_getElem hk', ?_, ?_⟩
 · have := h.2
   rw [List.getD_eq_getElem?_getD, List.getElem?_eq_getElem hb] at this
   rw [List.getElem?_eq_getElem hb]
   simpa using this
 · have := h.1
   rw [List.getD_eq_getElem?_getD, List.getElem?_map, List.getElem?_eq_getElem hk'] at this
   simpa using this
theorem OkF.one {n0 : Nat} {X : World} {f : Fl} {us : List Value} (h : OkF n0 X [f] (List.replicate [f].length true) us) : ∃ g, us = [f.val g] ∧ n0 ≤ g ∧ Row X g f.ty f.cells := by
 obtain ⟨u, rfl⟩ := len_one10 h.lu
 obtain ⟨g, rfl, h1, h2⟩ := h.row 0 f u rfl rfl rfl
 exact ⟨g, rfl, h1, h2⟩
theorem OkF.three {n0 : Nat} {X : World} {f1 f2 f3 : Fl} {us : List Value} (h : OkF n0 X [f1, f2, f3] (List.replicate [f1, f2, f3].length true) us) : ∃ g1 g2 g3, us = [f1.val g1, f2.val g2, f3.val g3] ∧
 (n0 ≤ g1 ∧ Row X g1 f1.ty f1.cells) ∧ (n0 ≤ g2 ∧ Row X g2 f2.ty f2.cells) ∧ (n0 ≤ g3 ∧ Row X g3 f3.ty f3.cells) ∧ g1 ≠ g2 ∧ g1 ≠ g3 ∧ g2 ≠ g3 := by
 obtain ⟨u1, u2, u3, rfl⟩ := len_three10 h.lu
 obtain ⟨g1, rfl, a1, b1⟩ := h.row 0 f1 u1 rfl rfl rfl
 obtain ⟨g2, rfl, a2, b2⟩ := h.row 1 f2 u2 rfl rfl rfl
 obtain ⟨g3, rfl, a3, b3⟩ := h.row 2 f3 u3 rfl rfl rfl
 refine ⟨g1, g2, g3, rfl, ⟨a1, b1⟩, ⟨a2, b2⟩, ⟨a3, b3⟩, fun e => ?_, fun e => ?_, fun e => ?_⟩
 · subst e; exact h.ne 0 1 _ _ _ (by decide) rfl rfl rfl rfl rfl rfl
 · subst e; exact h.ne 0 2 _ _ _ (by decide) rfl rfl rfl rfl rfl rfl
 · subst e; exact h.ne 1 2 _ _ _ (by decide) rfl rfl rfl rfl rfl rfl
theorem step_wpOp {i : Nat} {o : Oper} {a : Act} {w : World} {K : Act → World → Prop} (ho : ops[i]? = some o) (h : StepH P ops Q o a w K) : wpOp P ops Q i K a w := by
 unfold wpOp
 rw [ho]
 unfold StepH at h
 dsimp only
 split
 · rename_i hw
   rw [if_pos hw] at h
   exact .inl h
 · rename_i hw
   rw [if_neg hw] at h
   exact h
def Pool (P : Program) (md : Region.Mode) (ops : Array Oper) (Q : Exit → Act → World → Prop) (S : World → Prop) (fs : List Fl) (w : World) (F : World → Prop) (n : Nat) (L : Array Bool) (a : Act) : Prop :=
 ∀ bs us X, OkF w.heap.size X fs bs us → Below w.heap.size w X → F X → wpAnyH P md ops Q S (n + bs.count false) (setF fs bs L) (putF fs us a) X
theorem pool_fl {fs : List Fl} {n : Nat} {w : World} {a : Act} {L : Array Bool} {F : World → Prop} (hfl : IsF P ops Q fs) (hops : (fs.map Fl.op).Nodup) (hdst : (fs.map Fl.dst).Nodup) (hS : ∀ X, Below w.heap.size w X → S X) (hF : ∀ X Y, Below X.heap.size X Y → F X → F Y)
 {bs : List Bool} {us : List Value} {X : World} (ok : OkF w.heap.size X fs bs us) (hb : Below w.heap.size w X) (hX : F X) {k : Nat} {f : Fl} (hk : fs[k]? = some f) (hbk : bs[k]? = some false) {N : Nat}
 (ih : ∀ bs us X, bs.count false = N → OkF w.heap.size X fs bs us → Below w.heap.size w X → F X → wpAnyH P md ops Q S (n + bs.count false) (setF fs bs L) (putF fs us a) X) (hN : bs.count false = N + 1) :
 wpOp P ops Q f.op (fun a' w' => S w' ∧ wpAnyH P md ops Q S (n + N) ((setF fs bs L).setIfInBounds f.op true) a' w') (putF fs us a) X := by
 obtain ⟨_, o, ho, hstep⟩ := hfl f (List.mem_of_getElem? hk)
 refine step_wpOp ho (hstep _ _ _ ?_)
 have hbel : Below X.heap.size X (X.alloc (.cells f.cells f.ty)) := (Below.refl _ _).alloc (Nat.le_refl _) _
 have hb2 : Below w.heap.size w (X.alloc (.cells f.cells f.ty)) := hb.trans (hbel.mono hb.size)
 have hc := count_set10 bs k hbk
 have h := ih (bs.set k true) (us.set k (f.val X.heap.size)) _ (by omega) (ok.more hfl.inj hk hbk hb.size) hb2 (hF _ _ hbel hX)
 rw [show (bs.set k true).count false = N by omega] at h
 refine ⟨hS _ hb2, ?_⟩
 rw [setF_at fs bs L k f hk ok.lb hops, putF_at fs us a k f hk ok.lu hdst]
 exact h
theorem pool_step {fs : List Fl} {n : Nat} {w : World} {a : Act} {L : Array Bool} {F : World → Prop} {α : Type} (val : α → Value) {c dc : Nat} {oc : Oper} {need : List Nat} {F' : α → World → Prop} (hc : ops[c]? = some oc) (hfl : IsF P ops Q fs) (hops : (fs.map Fl.op).Nodup) (hdst : (fs.map Fl.dst).Nodup) (hco : c ∉ fs.map Fl.op) (hcd : dc ∉ fs.map Fl.dst)
 (hr : allL fs.length (okR md ops L fs c need) = true) (hS : ∀ X, Below w.heap.size w X → S X) (hF : ∀ X Y, Below X.heap.size X Y → F X → F Y)
 (hstep : ∀ us X K, us.length = fs.length → (∀ k ∈ need, ∃ f g, fs[k]? = some f ∧ us[k]? = some (f.val g) ∧ Row X g f.ty f.cells) → Below w.heap.size w X → F X →
   (∀ v X', Below X.heap.size X X' → F' v X' → K ((putF fs us a).put (some dc) (val v)) X') → StepH P ops Q oc (putF fs us a) X K)
 (hnext : ∀ v, Pool P md ops Q S fs w (F' v) n (L.setIfInBounds c true) (a.put (some dc) (val v))) : Pool P md ops Q S fs w F (n + 1) L a := by
 have main : ∀ N bs us X, bs.count false = N → OkF w.heap.size X fs bs us → Below w.heap.size w X → F X → wpAnyH P md ops Q S (n + 1 + bs.count false) (setF fs bs L) (putF fs us a) X := by
  intro N
  induction N with
  | zero =>
    intro bs us X hN ok hb hX
    have hk := allL_spec _ _ hr bs ok.lb
    simp only [okR, Bool.and_eq_true, Bool.not_eq_true', List.isEmpty_eq_false_iff, List.all_eq_true, Bool.or_eq_true, beq_iff_eq] at hk
    rw [hN]
    refine wpAnyH_all rfl hk.1 fun j hj => ?_
    rcases hk.2 j hj with ⟨rfl, hneed⟩ | hp
    · refine step_wpOp hc (hstep us X _ ok.lu (fun k hk' => ?_) hb hX fun v X' hb' hF' => ?_)
      · have h1 := hneed k hk'
        have h2 : bs[k]? = some true := by
         rw [List.getD_eq_getElem?_getD] at h1
         cases e : bs[k]? with
         | none => rw [e] at h1; cases h1
         | some b => rw [e] at h1; simpa using h1
        have h3 : k < fs.length := by rw [← ok.lb]; exact (List.getElem?_eq_some_iff.1 h2).1
        have h4 : k < us.length := by rw [ok.lu]; exact h3
        obtain ⟨g, e, _, R⟩ := ok.row k _ _ (List.getElem?_eq_getElem h3) h2 (List.getElem?_eq_getElem h4)
        exact ⟨_, g, List.getElem?_eq_getElem h3, by rw [List.getElem?_eq_getElem h4, e], R⟩
      · have hb2 := hb.trans (hb'.mono hb.size)
        refine ⟨hS _ hb2, ?_⟩
        have h := hnext v bs us X' (ok.later hb') hb2 hF'
        rw [hN, setF_out fs bs _ hco, putF_out fs us _ hcd] at h
        exact h
    · obtain ⟨k, f, h1, h2, h3⟩ := pend_of ok.lb hp
      have := count_set10 bs k h2
      omega
  | succ N ih =>
    intro bs us X hN ok hb hX
    have hk := allL_spec _ _ hr bs ok.lb
    simp only [okR, Bool.and_eq_true, Bool.not_eq_true', List.isEmpty_eq_false_iff, List.all_eq_true, Bool.or_eq_true, beq_iff_eq] at hk
    rw [hN, show n + 1 + (N + 1) = (n + 1 + N) + 1 by omega]
    refine wpAnyH_all rfl hk.1 fun j hj => ?_
    rcases hk.2 j hj with ⟨rfl, hneed⟩ | hp
    · refine step_wpOp hc (hstep us X _ ok.lu (fun k hk' => ?_) hb hX fun v X' hb' hF' => ?_)
      · have h1 := hneed k hk'
        have h2 : bs[k]? = some true := by
         rw [List.getD_eq_getElem?_getD] at h1
         cases e : bs[k]? with
         | none => rw [e] at h1; cases h1
         | some b => rw [e] at h1; simpa using h1
        have h3 : k < fs.length := by rw [← ok.lb]; exact (List.getElem?_eq_some_iff.1 h2).1
        have h4 : k < us.length := by rw [ok.lu]; exact h3
        obtain ⟨g, e, _, R⟩ := ok.row k _ _ (List.getElem?_eq_getElem h3) h2 (List.getElem?_eq_getElem h4)
        exact ⟨_, g, List.getElem?_eq_getElem h3, by rw [List.getElem?_eq_getElem h4, e], R⟩
      · have hb2 := hb.trans (hb'.mono hb.size)
        refine ⟨hS _ hb2, ?_⟩
        have h := hnext v bs us X' (ok.later hb') hb2 hF'
        rw [hN, setF_out fs bs _ hco, putF_out fs us _ hcd, show n + (N + 1) = n + 1 + N by omega] at h
        exact h
    · obtain ⟨k, f, h1, h2, rfl⟩ := pend_of ok.lb hp
      exact pool_fl hfl hops hdst hS hF ok hb hX h1 h2 ih hN
 exact fun bs us X ok hb hX => main _ bs us X rfl ok hb hX
theorem pool_take {fs : List Fl} {n : Nat} {w : World} {a : Act} {L : Array Bool} {F : World → Prop} {i di : Nat} {oi : Oper} {v : Value} (hi : ops[i]? = some oi) (hd : oi.dst = some di) (hio : i ∉ fs.map Fl.op) (hdi : di ∉ fs.map Fl.dst)
 (hk : allL fs.length (fun bs => Region.noSelect ops && Region.free md ops (setF fs bs L) i && (Region.ready md ops (setF fs bs L)).contains i) = true) (hQ : ∀ c a w, Q (.panic c) (a.put oi.dst v) w → Q (.panic c) a w)
 (hS : ∀ X, Below w.heap.size w X → S X) (hy : ∀ us, us.length = fs.length → YieldsIf P ops S oi v (putF fs us a))
 (hnext : Pool P md ops Q S fs w F n (L.setIfInBounds i true) (a.put (some di) v)) : Pool P md ops Q S fs w F (n + 1) L a := by
 intro bs us X ok hb hX
 have h := allL_spec _ _ hk bs ok.lb
 simp only [Bool.and_eq_true] at h
 rw [show n + 1 + bs.count false = (n + bs.count false) + 1 by omega]
 refine wpAnyH_take hi h.1.1 h.1.2 h.2 hQ (hy us ok.lu) (hS _ hb) ?_
 rw [hd, ← setF_out fs bs _ hio, ← putF_out fs us _ hdi]
 exact hnext bs us X ok hb hX
theorem pool_end {fs : List Fl} {n : Nat} {w : World} {a : Act} {L : Array Bool} {F : World → Prop} (hfl : IsF P ops Q fs) (hops : (fs.map Fl.op).Nodup) (hdst : (fs.map Fl.dst).Nodup) (hr : allL fs.length (okE md ops L fs) = true) (hS : ∀ X, Below w.heap.size w X → S X) (hF : ∀ X Y, Below X.heap.size X Y → F X → F Y)
 (hnext : ∀ us X, OkF w.heap.size X fs (List.replicate fs.length true) us → Below w.heap.size w X → F X → wpAnyH P md ops Q S n (setF fs (List.replicate fs.length true) L) (putF fs us a) X) : Pool P md ops Q S fs w F n L a := by
 have main : ∀ N bs us X, bs.count false = N → OkF w.heap.size X fs bs us → Below w.heap.size w X → F X → wpAnyH P md ops Q S (n + bs.count false) (setF fs bs L) (putF fs us a) X := by
  intro N
  induction N with
  | zero =>
    intro bs us X hN ok hb hX
    obtain rfl : bs = List.replicate fs.length true := by
     rw [List.eq_replicate_iff]
     refine ⟨ok.lb, fun b hb => ?_⟩
     cases b with
     | true => rfl
     | false => exact absurd hN (Nat.ne_of_gt (List.count_pos_iff.2 hb))
    rw [hN]
    exact hnext us X ok hb hX
  | succ N ih =>
    intro bs us X hN ok hb hX
    have hk := allL_spec _ _ hr bs ok.lb
    simp only [okE, Bool.or_eq_true, beq_iff_eq, Bool.and_eq_true, Bool.not_eq_true', List.isEmpty_eq_false_iff, List.all_eq_true] at hk
    rcases hk with hk | hk
    · omega
    rw [hN, show n + (N + 1) = (n + N) + 1 by omega]
    refine wpAnyH_all rfl hk.1 fun j hj => ?_
    obtain ⟨k, f, h1, h2, rfl⟩ := pend_of ok.lb (hk.2 j hj)
    exact pool_fl hfl hops hdst hS hF ok hb hX h1 h2 ih hN
 exact fun bs us X ok hb hX => main _ bs us X rfl ok hb hX
theorem pool_start {fs : List Fl} {n : Nat} {w : World} {a : Act} {L : Array Bool} {F : World → Prop} {us : List Value} (hL : setF fs (List.replicate fs.length false) L = L) (hA : putF fs us a = a) (hu : us.length = fs.length) (hF : F w) (h : Pool P md ops Q S fs w F n L a) : wpAnyH P md ops Q S (n + fs.length) L a w := by
 have ok : OkF w.heap.size w fs (List.replicate fs.length false) us := by
  refine ⟨by simp, hu, fun k f u h1 h2 h3 => ?_, fun j k f f' g hj e1 e2 h1 h2 h3 => ?_⟩
  · rw [List.getElem?_replicate] at h2
    split at h2 <;> simp at h2
  · rw [List.getElem?_replicate] at h1
    split at h1 <;> simp at h1
 have h := h _ us w ok (Below.refl _ _) hF
 rw [hL, hA, List.count_replicate_self] at h
 exact h
end
end Go.Proofs.YtengpgodmbfmkaaGreat
