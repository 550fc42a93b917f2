/-
  Contracts of package rat: Pow (quo.Pow of rows of any length, as long as the power is not too long).
-/
import Derived.Test.YtofiebilokhccaaRTwo
import Derived.Test.YtofiebilokhccaaB6
import Derived.Test.YtofiebilokhccaaRVar
namespace Go.Proofs.Ytofiebilokhccaa
open Go.RowKit
set_option linter.unusedVariables false
set_option linter.unusedSimpArgs false

/-- not too long: few limbs, a small exponent -/
theorem notLongL_any {u : Value} {xs : List Int} {a : Option Addr} {capa : Nat} {w : World} (N : Nat) (h1 : Arg w u xs a capa) (hx : xs.length ≤ 134217728) (hL : xs.length * N ≤ 134217728) (hN : N ≤ 1000) :
    Calls Try.prog 95 #[u, .int .i64 (N : Int)] w fun e w' => e = .returned (.bool false) ∧ w = w' := by
  have hbits := bits_res h1 (by omega) (bitsN_is h1.wf)
  have hc := (bitsN_count h1.wf).2.2
  have ht := trim_le xs
  obtain ⟨nb, hnb⟩ : ∃ nb, bitsN xs = nb := ⟨_, rfl⟩
  rw [hnb] at hbits hc
  have hb : nb ≤ 32 * xs.length := by omega
  have hp : ((nb : Int) - 1) * (N : Int) ≤ 4294967296 := by
    have h1 : nb * N ≤ 32 * xs.length * N := Nat.mul_le_mul_right _ hb
    have h2 : 32 * xs.length * N ≤ 4294967296 := by rw [Nat.mul_assoc]; omega
    have h3 : ((nb * N : Nat) : Int) ≤ 4294967296 := by omega
    rw [Int.sub_mul]
    rw [Int.natCast_mul] at h3
    omega
  clear hc ht hnb
  go_enter Try.func95, Try.ntmps95
  go_wp2_with fail
  refine hbits.mono ?_
  rintro e w' ⟨rfl, rfl⟩
  clear hbits
  by_cases hg : 0 < (nb : Int) - 1
  · have hq : Int.tdiv 17179869176 ((nb : Int) - 1) = 17179869176 / ((nb : Int) - 1) := Int.tdiv_eq_ediv_of_nonneg (by omega)
    have hq2 : (N : Int) ≤ 17179869176 / ((nb : Int) - 1) := by
      rw [Int.le_ediv_iff_mul_le hg, Int.mul_comm]
      omega
    have hq3 : 17179869176 / ((nb : Int) - 1) ≤ 17179869176 := Int.ediv_le_self _ (by omega)
    generalize 17179869176 / ((nb : Int) - 1) = q at *
    have hd : decide (q < (N : Int)) = false := decide_eq_false (by omega)
    have hne : (nb : Int) - 1 ≠ 0 := by omega
    go_wp2
    go_ret
    exact ⟨rfl, rfl⟩
  · have hd : decide (0 < (nb : Int) - 1) = false := decide_eq_false hg
    go_wp2
    go_ret
    exact ⟨rfl, rfl⟩

set_option maxRecDepth 100000 in
set_option maxHeartbeats 2000000 in
theorem powL_any {u : Value} {xs : List Int} {a : Option Addr} {capa : Nat} {w : World} (n : Int) (h1 : Arg w u xs a capa) (hx : xs.length ≤ 134217728) (hL : xs.length * n.toNat ≤ 134217728) (hn : -9223372036854775808 ≤ n ∧ n ≤ 1000) :
    Calls Try.prog 76 #[u, .int .i64 n] w fun e w' => ∃ r zs, e = .returned r ∧ Res w.heap.size w' r zs (val xs ^ n.toNat) ∧ zs.length ≤ xs.length * n.toNat + 1 ∧ Below w.heap.size w w' := by
  obtain ⟨hn0, hn1⟩ := hn
  obtain ⟨N, hN⟩ : ∃ N, n.toNat = N := ⟨_, rfl⟩
  have hmax : max n 0 = (N : Int) := by omega
  have hN2 : N ≤ 1000 := by omega
  rw [hN]
  rw [hN] at hL
  clear hN
  have hlong := notLongL_any (w := w) N h1 hx hL hN2
  have hlen := lenU_any (N : Int) 
  obtain ⟨B, hB⟩ : ∃ B, Lib.bitLen N = B := ⟨_, rfl⟩
  have hB2 : N < 2 ^ B ∧ B ≤ 10 := by
    rw [← hB]
    rcases Nat.eq_zero_or_pos N with h | h
    · subst h; decide
    · obtain ⟨_, _, c⟩ := Lib.bitLenAux_bounds 64 N (by omega) (by omega)
      exact ⟨c, Lib.bitLen_le N 10 (by omega) (by omega)⟩
  rw [Int.toNat_natCast, hB] at hlen
  obtain ⟨hB3, hB4⟩ := hB2
  have hN0 : N / 2 ^ B = 0 := Nat.div_eq_of_lt hB3
  have HN0 := Lib.hid hN0
  have HN3 := Lib.hid hB3
  clear hN0 hB hB3
  go_enter Try.func76, Try.ntmps76
  go_wp2_with fail
  refine hlong.mono ?_
  rintro e w' ⟨rfl, rfl⟩
  clear hlong
  go_wp2_with fail
  refine (ofN_any 1 _ (by omega) (by omega)).mono ?_
  rintro e w1 ⟨r1, z1, rfl, q1, n1, hb1⟩
  have A1 := h1.later hb1
  have hlen1 := hlen w1 (by omega)
  go_wp2_with fail
  refine hlen1.mono ?_
  rintro e w' ⟨rfl, rfl⟩
  clear hlen hlen1
  go_wp2
  go_loopw [5, 6] (fun s i wr => ∃ (k : Nat) (q : Value) (ds : List Int), k ≤ B ∧ q = s ∧ i = .int .i64 ((k : Int) - 1) ∧ Res w.heap.size wr q ds (val xs ^ (N / 2 ^ k)) ∧ Below w.heap.size w wr) (fun _ i _ => (intOf i + 1).toNat)
  case atStart => exact ⟨B, _, z1, Nat.le_refl _, rfl, rfl, by rw [HN0.out]; simpa using q1, hb1⟩
  case round =>
    obtain ⟨k, q, ds, hk, rfl, rfl, hres, hb⟩ := hrel
    have hsz := hb.size
    have hpl := pow_len h1.wf hres.wf hres.full hres.eq
    clear q1 n1 hb1 A1
    by_cases hgo : 0 < k
    · obtain ⟨j, rfl⟩ : ∃ j, k = j + 1 := ⟨k - 1, by omega⟩
      have hji : (((j + 1 : Nat) : Int) - 1) = (j : Int) := by omega
      rw [hji]
      have hmul : xs.length * (N / 2 ^ (j + 1)) ≤ 134217728 := Nat.le_trans (Nat.mul_le_mul_left _ (Nat.div_le_self _ _)) hL
      obtain ⟨ad, cap, A⟩ := hres.arg
      have hge : (0 : Int) ≤ (j : Int) := by omega
      go_wp2_with fail
      refine (mul_res A A (by omega) (by omega)).mono ?_
      rintro e w2 ⟨r2, z2, rfl, q2, n2, hb2⟩
      have A2 := (h1.later hb).later hb2
      obtain ⟨ad2, cap2, A3⟩ := q2.arg
      have hB2 := hb.trans (hb2.mono hsz)
      have hv2 : val z2 = val xs ^ (N / 2 ^ (j + 1) + N / 2 ^ (j + 1)) := by rw [q2.eq, hres.eq, ← Int.pow_add]
      have hml : z2.length ≤ xs.length * (N / 2 ^ (j + 1) + N / 2 ^ (j + 1)) + 1 := pow_len h1.wf q2.wf q2.full hv2
      have hmul2 : xs.length * (N / 2 ^ (j + 1) + N / 2 ^ (j + 1)) ≤ 268435456 := by rw [Nat.mul_add]; omega
      rcases half_step N j with ⟨hb, he⟩ | ⟨hb, he⟩
      · have hand := and_shift N j 1 (by omega) hb
        have h11 : (((1 : Nat) : Int) == 1) = true := by decide
        have HE := Lib.hid he
        clear he hb
        go_wp2_with fail
        refine (mul_res A3 A2 (by omega) (by omega)).mono ?_
        rintro e w3 ⟨r3, z3, rfl, q3, n3, hb3⟩
        have hB3 := hB2.trans (hb3.mono (by have := hb2.size; omega))
        have hv3 : val z3 = val xs ^ (N / 2 ^ j) := by rw [q3.eq, hv2, HE.out, Int.pow_succ]
        have HV := Lib.hid hv3
        have hs2 := hb2.size
        clear hv3 hand
        go_wp2
        go_roundw
        case rel => exact ⟨j, r3, z3, by omega, rfl, rfl, ⟨q3.num.mono (by omega), q3.wf, q3.full, HV.out⟩, hB3⟩
        case measure => simp [intOf]
      · have hand := and_shift N j 0 (by omega) hb
        have h11 : (((0 : Nat) : Int) == 1) = false := by decide
        have hv3 : val z2 = val xs ^ (N / 2 ^ j) := by rw [hv2, he]
        have HV := Lib.hid hv3
        clear hv3 he hb
        go_wp2
        go_roundw
        case rel => exact ⟨j, r2, z2, by omega, rfl, rfl, ⟨q2.num.mono (by omega), q2.wf, q2.full, HV.out⟩, hB2⟩
        case measure => simp [intOf]
    · obtain rfl : k = 0 := by omega
      have hji : (((0 : Nat) : Int) - 1) = -1 := by omega
      rw [hji]
      have e : N / 2 ^ 0 = N := by simp
      rw [e] at hres hpl
      go_wp2
      go_ret
      exact ⟨_, ds, rfl, hres, hpl, hb⟩
set_option maxRecDepth 100000 in
set_option maxHeartbeats 1000000 in
theorem powSide_any {w : World} {g N : Nat} {xs : List Int} {a1 : Option Addr} {c1 : Nat} (G : w.cell? ⟨g, 0, none⟩ = some (.int .i64 (N : Int)))
    (A : Arg w (.slice a1 xs.length c1) xs a1 c1) (hx : xs.length ≤ 134217728) (hL : xs.length * N ≤ 134217728) (hN : N ≤ 1000) :
    Calls Try.prog 75 #[.slice a1 xs.length c1, .pointer (some ⟨g, 0, none⟩)] w fun e w' => ∃ r zs, e = .returned r ∧ Res w.heap.size w' r zs (val xs ^ N) ∧ zs.length ≤ xs.length * N + 1 ∧ Below w.heap.size w w' := by
  have hp := powL_any (w := w) (N : Int) A hx (by simpa using hL) (by omega)
  rw [Int.toNat_natCast] at hp
  go_enter Try.func75, Try.ntmps75
  go_wp2_with fail
  refine hp.mono ?_
  rintro e w2 ⟨r2, z2, rfl, q2, l2, hb2⟩
  clear G hp
  go_wp2_with fail
  go_ret
  exact ⟨r2, z2, rfl, q2, l2, hb2⟩

set_option maxRecDepth 100000 in
set_option maxHeartbeats 4000000 in
theorem bothPow_any {w : World} {g N : Nat} {neg : Bool} {xs ys : List Int} {a1 a2 : Option Addr} {c1 c2 : Nat} (G : w.cell? ⟨g, 0, none⟩ = some (.int .i64 (N : Int))) (hN : N ≤ 1000) (Lx : xs.length * N ≤ 134217728) (Ly : ys.length * N ≤ 134217728)
    (A : Arg w (.slice a1 xs.length c1) xs a1 c1) (B : Arg w (.slice a2 ys.length c2) ys a2 c2) (hx : xs.length ≤ 134217728) (hy : ys.length ≤ 134217728) :
    Calls Try.prog 49 #[.agg #[.bool neg, .slice a1 xs.length c1, .slice a2 ys.length c2], .func (.func 75) #[] #[.pointer (some ⟨g, 0, none⟩)]] w fun e w' => ∃ r, e = .returned r ∧ ∃ (us vs : List Int) (b1 b2 : Option Addr) (k1 k2 : Nat), r = .agg #[.bool neg, .slice b1 us.length k1, .slice b2 vs.length k2] ∧
      Res w.heap.size w' (.slice b1 us.length k1) us (val xs ^ N) ∧ Res w.heap.size w' (.slice b2 vs.length k2) vs (val ys ^ N) ∧ us.length ≤ xs.length * N + 1 ∧ vs.length ≤ ys.length * N + 1 ∧ Below w.heap.size w w' := by
  have hgl := World.block_lt_of_cell? w _ G
  obtain ⟨W, hW⟩ : ∃ W, ((w.alloc (.cells #[.bool neg, .slice a1 xs.length c1, .slice a2 ys.length c2] 25)).alloc (.cells #[.bool false, .slice none 0 0, .slice none 0 0] 25)) = W := ⟨_, rfl⟩
  have R0 : Row W (w.heap.size) 25 #[.bool neg, .slice a1 xs.length c1, .slice a2 ys.length c2] := by rw [← hW]; exact ((Row.new _ _ _).alloc _)
  have R1 : Row W (w.heap.size + 1) 25 #[.bool false, .slice none 0 0, .slice none 0 0] := by rw [← hW]; have h := (Row.new (w.alloc (.cells #[.bool neg, .slice a1 xs.length c1, .slice a2 ys.length c2] 25)) 25 #[.bool false, .slice none 0 0, .slice none 0 0]); simp only [World.size_alloc] at h; exact h
  have hBW : Below w.heap.size w W := by rw [← hW]; exact (((Below.refl _ _).alloc (by (try simp) <;> omega) _).alloc (by (try simp) <;> omega) _)
  have hsW : w.heap.size + 1 + 1 ≤ W.heap.size := by rw [← hW]; simp
  have mkS : ∀ X, Below (w.heap.size + 1) W X → X.cell? ⟨w.heap.size, 0, none⟩ = some (.bool neg) ∧ X.cell? ⟨w.heap.size, 1, none⟩ = some (.slice a1 xs.length c1) ∧ X.cell? ⟨w.heap.size, 2, none⟩ = some (.slice a2 ys.length c2) ∧ Below w.heap.size w X ∧ Below (w.heap.size + 1) W X := fun X h => ⟨(R0.below h (by omega)).cell 0, (R0.below h (by omega)).cell 1, (R0.below h (by omega)).cell 2, hBW.trans (h.mono (by omega)), h⟩
  go_enter Try.func49, Try.ntmps49
  go_wp2_with fail
  clear hW
  go_region_held3 (fun X => X.cell? ⟨w.heap.size, 0, none⟩ = some (.bool neg) ∧ X.cell? ⟨w.heap.size, 1, none⟩ = some (.slice a1 xs.length c1) ∧ X.cell? ⟨w.heap.size, 2, none⟩ = some (.slice a2 ys.length c2) ∧ Below w.heap.size w X ∧ Below (w.heap.size + 1) W X)
    (((refine mkS _ ?_; (repeat' (first | exact Below.refl _ _ | refine Below.drew ?_ | refine Below.alloc ?_ (by (try simp) <;> omega) _ | refine below_set3 ?_ (by (try simp) <;> omega) _ _ _ | refine below_set2 ?_ (by (try simp) <;> omega) _ _ | refine Below.setCell ?_ (by (try simp) <;> omega) _ | refine Below.trans ?_ (Below.mono (by assumption) (by (try simp) <;> omega)))))))
    ((first
      | (have HB : Below w.heap.size w _ := (‹_ ∧ _ ∧ _ ∧ Below w.heap.size w _ ∧ _›).2.2.2.1; go_at_call 75; first
        | ((with_reducible refine (powSide_any (((HB).cell (p := ⟨g, 0, none⟩) hgl).trans G) (A.later HB) hx Lx hN).mono ?_); rintro e w2 ⟨r2, z2, rfl, q2, l2, hb2⟩; have hs2 := hb2.size; (try simp at hs2); obtain ⟨ad2, cp2, rfl, q2, A2⟩ := q2.slice; clear HB)
        | ((with_reducible refine (powSide_any (((HB).cell (p := ⟨g, 0, none⟩) hgl).trans G) (B.later HB) hy Ly hN).mono ?_); rintro e w3 ⟨r3, z3, rfl, q3, l3, hb3⟩; clear HB; have hs3 := hb3.size; (try simp at hs3); obtain ⟨ad3, cp3, rfl, q3, A3⟩ := q3.slice; replace q2 := q2.later hb3; have R1' := R1.later (show Below W.heap.size W w3 by (repeat' (first | exact Below.refl _ _ | refine Below.drew ?_ | refine Below.alloc ?_ (by (try simp) <;> omega) _ | refine below_set3 ?_ (by (try simp) <;> omega) _ _ _ | refine below_set2 ?_ (by (try simp) <;> omega) _ _ | refine Below.setCell ?_ (by (try simp) <;> omega) _ | refine Below.trans ?_ (Below.mono (by assumption) (by (try simp) <;> omega))))); obtain ⟨u0, u1, u2, g0, g1, g2⟩ := R1'.three))))
  go_wp2_with fail
  refine bodyPost_ret (v := .agg #[.bool neg, .slice ad2 z2.length cp2, .slice ad3 z3.length cp3]) (by simp [results, Try.results49, go_sem, u0, u1, u2]) rfl ⟨_, rfl, z2, z3, ad2, ad3, cp2, cp3, rfl, ?_, ?_, l2, l3, ?_⟩
  · exact (q2.far R1' (by decide) (kept3 _ _ _)).mono (by (try simp) <;> omega)
  · exact (q3.far R1' (by decide) (kept3 _ _ _)).mono (by (try simp) <;> omega)
  · (repeat' (first | exact Below.refl _ _ | exact hBW | refine Below.drew ?_ | refine Below.alloc ?_ (by (try simp) <;> omega) _ | refine below_set3 ?_ (by (try simp) <;> omega) _ _ _ | refine below_set2 ?_ (by (try simp) <;> omega) _ _ | refine Below.setCell ?_ (by (try simp) <;> omega) _ | refine Below.trans ?_ (Below.mono (by assumption) (by (try simp) <;> omega))))

set_option maxRecDepth 100000 in
set_option maxHeartbeats 2000000 in
theorem plainR_any {base n : Nat} {w : World} {v : Value} {X : Rat} (h : ResQ base w v X n) (hb : base ≤ w.heap.size) (hn : n ≤ 2147483648) :
    Calls Try.prog 47 #[v] w fun e w' => ∃ r, e = .returned r ∧ ResQ base w' r X (n + 2) ∧ Below w.heap.size w w' := by
  have h' := h
  obtain ⟨xs, ys, a1, a2, c1, c2, rfl, A, B, hx, hy⟩ := h
  obtain ⟨neg, hneg⟩ : ∃ neg, decide (X.num < 0) = neg := ⟨_, rfl⟩
  rw [hneg]
  rw [hneg] at h'
  obtain ⟨W, hW⟩ : ∃ W, ((w.alloc (.cells #[.bool neg, .slice a1 xs.length c1, .slice a2 ys.length c2] 25)).alloc (.cells #[.bool false, .slice none 0 0, .slice none 0 0] 25)) = W := ⟨_, rfl⟩
  have R0 : Row W (w.heap.size) 25 #[.bool neg, .slice a1 xs.length c1, .slice a2 ys.length c2] := by rw [← hW]; exact ((Row.new _ _ _).alloc _)
  have R1 : Row W (w.heap.size + 1) 25 #[.bool false, .slice none 0 0, .slice none 0 0] := by rw [← hW]; have h := (Row.new (w.alloc (.cells #[.bool neg, .slice a1 xs.length c1, .slice a2 ys.length c2] 25)) 25 #[.bool false, .slice none 0 0, .slice none 0 0]); simp only [World.size_alloc] at h; exact h
  have hBW : Below w.heap.size w W := by rw [← hW]; exact (((Below.refl _ _).alloc (by (try simp) <;> omega) _).alloc (by (try simp) <;> omega) _)
  have hsW : w.heap.size + 1 + 1 ≤ W.heap.size := by rw [← hW]; simp
  have A0 := A.at_.2
  have B0 := B.at_.2
  have A' := A0.later hBW
  have B' := B0.later hBW
  have q1 := h'.later hBW
  have hnum := A.eq
  have hden := B.eq
  have hd0 := X.den_pos
  obtain ⟨e0, e1, e2, _, _, _⟩ := R0.three
  have hb1 := bits_res A' (by omega) (bitsN_is A0.wf)
  have hp1 := bits_pos A0.wf
  have hb2 := bits_res B' (by omega) (bitsN_is B0.wf)
  have hp2 := bits_pos B0.wf
  have h01 := val_nonneg A0.wf
  have h02 := val_nonneg B0.wf
  obtain ⟨m1, hm1⟩ : ∃ m, bitsN xs = m := ⟨_, rfl⟩
  obtain ⟨m2, hm2⟩ : ∃ m, bitsN ys = m := ⟨_, rfl⟩
  rw [hm1] at hb1 hp1
  rw [hm2] at hb2 hp2
  clear hm1 hm2
  by_cases z1 : val xs = 0
  · have hX0 : X = 0 := by rw [hnum] at z1; exact Rat.num_eq_zero.1 (by omega)
    have HX := Lib.hid hX0
    have d1 : ((m1 : Int) == 0) = true := by obtain rfl : m1 = 0 := by omega
                                             rfl
    clear hX0 z1 hp1 hp2 h01 h02
    go_enter Try.func47, Try.ntmps47
    go_wp2_with fail
    refine hb1.mono ?_
    rintro e w' ⟨rfl, rfl⟩
    clear hb1 hb2
    go_wp2_with fail
    refine (int_any 0 _ (by omega) (by omega)).mono ?_
    rintro e w2 ⟨r2, rfl, q2, hb2⟩
    obtain ⟨neg', us, vs, b1, b2, k1, k2, rfl⟩ := q2.arg.box
    have R1' := R1.later hb2
    clear e0 e1 e2 hW
    obtain ⟨u0, u1, u2, g0, g1, g2⟩ := R1'.three
    go_wp2_with fail
    refine bodyPost_ret (v := .agg #[.bool neg', .slice b1 us.length k1, .slice b2 vs.length k2]) (by simp [results, Try.results47, go_sem, u0, u1, u2]) rfl ⟨_, rfl, ?_, below_set3 (hBW.trans (hb2.mono (by omega))) (by omega) _ _ _⟩
    rw [HX.out]
    rw [intQ_zero] at q2
    exact ((q2.far R1' (by decide) (kept3 _ _ _)).more (by omega)).mono (by omega)
  · have d1 : ((m1 : Int) == 0) = false := by simp; omega
    have d2 : ((m2 : Int) == 0) = false := by simp; omega
    clear z1 hp1 hp2 h01 h02
    obtain ⟨u0, u1, u2, g0, g1, g2⟩ := R1.three
    go_enter Try.func47, Try.ntmps47
    go_wp2_with fail
    refine hb1.mono ?_
    rintro e w' ⟨rfl, rfl⟩
    clear hb1
    go_wp2_with fail
    refine hb2.mono ?_
    rintro e w' ⟨rfl, rfl⟩
    clear hb2 hW
    go_wp2_with fail
    refine bodyPost_ret (v := .agg #[.bool neg, .slice a1 xs.length c1, .slice a2 ys.length c2]) (by simp [results, Try.results47, go_sem, u0, u1, u2]) rfl ⟨_, rfl, ?_, below_set3 hBW (by omega) _ _ _⟩
    exact (q1.far R1 (by decide) (kept3 _ _ _)).more (by omega)
/-- rat.Pow -/
theorem neg_pow_num (x : Int) (h : x < 0) (N : Nat) : (N % 2 = 1 → x ^ N < 0) ∧ (N % 2 = 0 → 0 < x ^ N) := by
  induction N with
  | zero => simp
  | succ k ih =>
    rw [Int.pow_succ]
    refine ⟨fun hk => ?_, fun hk => ?_⟩
    · exact Int.mul_neg_of_pos_of_neg (ih.2 (by omega)) h
    · exact Int.mul_pos_of_neg_of_neg (ih.1 (by omega)) h
theorem pos_pow_num (x : Int) (h : ¬ x < 0) (N : Nat) : ¬ x ^ N < 0 := by
  have := Int.pow_nonneg (n := x) (m := N) (by omega)
  omega

set_option maxRecDepth 100000 in
set_option maxHeartbeats 4000000 in
theorem powQ_any {n N : Nat} {w : World} {v : Value} {X : Rat} (h : ArgQ w v X n) (hn : n ≤ 67108864) (hN : N ≤ 1000) (hL : (n + 2) * N ≤ 134217728) :
    Calls Try.prog 45 #[v, .int .i64 (N : Int)] w fun e w' => ∃ r, e = .returned r ∧ ResQ w.heap.size w' r (X ^ N) ((n + 2) * N + 1 + 2) ∧ Below w.heap.size w w' := by
  obtain ⟨neg0, xs0, ys0, e1, e2, k1, k2, rfl⟩ := h.box
  obtain ⟨W, hW⟩ : ∃ W, (((w.alloc (.cells #[.bool neg0, .slice e1 xs0.length k1, .slice e2 ys0.length k2] 25)).alloc (.cells #[.int .i64 (N : Int)] 3)).alloc (.cells #[.bool false, .slice none 0 0, .slice none 0 0] 25)) = W := ⟨_, rfl⟩
  have R0 : Row W (w.heap.size) 25 #[.bool neg0, .slice e1 xs0.length k1, .slice e2 ys0.length k2] := by rw [← hW]; exact (((Row.new _ _ _).alloc _).alloc _)
  have R1 : Row W (w.heap.size + 1) 3 #[.int .i64 (N : Int)] := by rw [← hW]; have h := (Row.new (w.alloc (.cells #[.bool neg0, .slice e1 xs0.length k1, .slice e2 ys0.length k2] 25)) 3 #[.int .i64 (N : Int)]); simp only [World.size_alloc] at h; exact (h.alloc _)
  have R2 : Row W (w.heap.size + 1 + 1) 25 #[.bool false, .slice none 0 0, .slice none 0 0] := by rw [← hW]; have h := (Row.new ((w.alloc (.cells #[.bool neg0, .slice e1 xs0.length k1, .slice e2 ys0.length k2] 25)).alloc (.cells #[.int .i64 (N : Int)] 3)) 25 #[.bool false, .slice none 0 0, .slice none 0 0]); simp only [World.size_alloc] at h; exact h
  have hBW : Below w.heap.size w W := by rw [← hW]; exact ((((Below.refl _ _).alloc (by (try simp) <;> omega) _).alloc (by (try simp) <;> omega) _).alloc (by (try simp) <;> omega) _)
  have hsW : w.heap.size + 1 + 1 + 1 ≤ W.heap.size := by rw [← hW]; simp
  have hmax : max (N : Int) 0 = (N : Int) := by omega
  have hmf : ∀ (fn : Fn) (first cap : Array Value) (w : World), (Instr.makeFunc fn first cap).run Try.prog w = .ok (.func fn first cap) w := fun _ _ _ _ => rfl
  have y0 := R1.cell 0
  have y1 := R1.free 0
  simp only [List.getElem?_toArray, List.getElem?_cons_zero] at y0
  obtain ⟨V, hV⟩ : ∃ V, W.setCell ⟨w.heap.size + 1, 0, none⟩ (.int .i64 (N : Int)) = V := ⟨_, rfl⟩
  have hoV : Only (w.heap.size + 1) W V := by rw [← hV]; exact Only.set _ _ _ _
  have Q0 := R0.only hoV (by omega)
  have Q1 : Row V (w.heap.size + 1) 3 #[.int .i64 (N : Int)] := by rw [← hV]; exact R1.set 0 _
  have Q2 := R2.only hoV (by omega)
  have hBV : Below w.heap.size w V := hBW.trans (hoV.below (by omega))
  have hsV : w.heap.size + 1 + 1 + 1 ≤ V.heap.size := by rw [hoV.size]; exact hsW
  have h' := h.later hBV
  obtain ⟨t0, t1, t2, _, _, _⟩ := Q0.three
  have x0 := Q1.cell 0
  simp only [List.getElem?_toArray, List.getElem?_cons_zero] at x0
  clear R0 R1 R2
  go_enter Try.func45, Try.ntmps45
  go_wp2_with fail
  refine (norm_any h' (by omega)).mono ?_
  rintro e w1 ⟨r1, rfl, q1, hb1⟩
  have hs1 := hb1.size
  replace Q1 := Q1.later hb1
  replace Q2 := Q2.later hb1
  obtain ⟨zs, es, a1, a2, c1, c2, rfl, A, B, hx, hy⟩ := q1
  obtain ⟨nb, hnb⟩ : ∃ nb, decide (X.num < 0) = nb := ⟨_, rfl⟩
  rw [hnb]
  have eA := A.eq
  have eB := B.eq
  have G := Q1.cell 0
  simp only [List.getElem?_toArray, List.getElem?_cons_zero] at G
  have Lx : zs.length * N ≤ (n + 2) * N := Nat.mul_le_mul_right _ hx
  have Ly : es.length * N ≤ (n + 2) * N := Nat.mul_le_mul_right _ hy
  clear t0 t1 t2 y0 y1 x0 hV hW
  go_wp2_with fail
  refine (bothPow_any G hN (by omega) (by omega) A.at_.2 B.at_.2 (by omega) (by omega)).mono ?_
  rintro e w2 ⟨r2, rfl, us, vs, b1, b2, j1, j2, rfl, q3, q4, l3, l4, hb2⟩
  have hs2 := hb2.size
  replace Q1 := Q1.later hb2
  replace Q2 := Q2.later hb2
  clear G
  obtain ⟨U5, hU5⟩ : ∃ U, w2.alloc (.cells #[.bool nb, .slice b1 us.length j1, .slice b2 vs.length j2] 25) = U := ⟨_, rfl⟩
  have hb5 : Below w2.heap.size w2 U5 := by rw [← hU5]; exact (Below.refl _ _).alloc (Nat.le_refl _) _
  have R5 : Row U5 w2.heap.size 25 #[.bool nb, .slice b1 us.length j1, .slice b2 vs.length j2] := by rw [← hU5]; exact Row.new _ _ _
  have S5 := Q2.later hb5
  have T5 := Q1.later hb5
  have q3' := (q3.later hb5).mono (base' := w.heap.size) (by omega)
  have q4' := (q4.later hb5).mono (base' := w.heap.size) (by omega)
  have hs5 := hb5.size
  have hs6 : w2.heap.size < U5.heap.size := R5.lt
  have hB5 : Below w.heap.size w U5 := ((hBV.trans (hb1.mono (by omega))).trans (hb2.mono (by omega))).trans (hb5.mono (by omega))
  have E2 : (((X ^ N).num.natAbs : Nat) : Int) = val zs ^ N := by rw [eA, Rat.num_pow, Int.natAbs_pow]; simp
  have E3 : (((X ^ N).den : Nat) : Int) = val es ^ N := by rw [eB, Rat.den_pow]; simp
  obtain ⟨p0, p1, p2, p3, p4, p5⟩ := R5.three
  have t0 := T5.cell 0
  have t1 := T5.free 0
  simp only [List.getElem?_toArray, List.getElem?_cons_zero] at t0
  clear eA eB A B q3 q4 hb2 hb1 Q0 Q1 Q2
  cases nb
  case false =>
    have hf := Lib.hid (show decide ((X ^ N).num < 0) = false from by rw [Rat.num_pow]; exact decide_eq_false (pos_pow_num _ (of_decide_eq_false hnb) N))
    clear hnb
    obtain ⟨U8, hU8⟩ : ∃ U, U5.setCell ⟨w2.heap.size, 0, none⟩ (.bool false) = U := ⟨_, rfl⟩
    have hk8 : ∀ k, k ≠ w2.heap.size → U8.heap[k]? = U5.heap[k]? := by rw [← hU8]; exact (Only.set _ _ _ _).block
    have q8 : ResQ w.heap.size U8 (.agg #[.bool false, .slice b1 us.length j1, .slice b2 vs.length j2]) (X ^ N) ((n + 2) * N + 1) := ⟨us, vs, b1, b2, j1, j2, by rw [hf.out], by rw [E2]; exact q3'.far R5 (by decide) hk8, by rw [E3]; exact q4'.far R5 (by decide) hk8, by omega, by omega⟩
    have R8 : Row U8 w2.heap.size 25 #[.bool false, .slice b1 us.length j1, .slice b2 vs.length j2] := by rw [← hU8]; exact R5.set 0 _
    have hb8 : Below w.heap.size w U8 := by rw [← hU8]; exact hB5.setCell (by simp <;> omega) _
    have S8 : Row U8 (w.heap.size + 1 + 1) 25 #[.bool false, .slice none 0 0, .slice none 0 0] := by rw [← hU8]; exact S5.far (by simp <;> omega) _
    have hs8 : U8.heap.size = U5.heap.size := by rw [← hU8]; simp
    obtain ⟨x0, x1, x2, _, _, _⟩ := R8.three
    go_wp2_with fail
    refine (plainR_any q8 hb8.size (by omega)).mono ?_
    rintro e w9 ⟨r9, rfl, q9, hb9⟩
    have hs9 := hb9.size
    have S9 := S8.later hb9
    obtain ⟨m, fs, gs, f1, g1, i1, i2, rfl⟩ := q9.arg.box
    obtain ⟨u0, u1, u2, v0, v1, v2⟩ := S9.three
    clear p0 p1 p2 p3 p4 p5 t0 t1 x0 x1 x2 hU8 hU5
    go_wp2_with fail
    refine bodyPost_ret (v := .agg #[.bool m, .slice f1 fs.length i1, .slice g1 gs.length i2]) (by simp [results, Try.results45, go_sem, u0, u1, u2]) rfl ⟨_, rfl, (q9.far S9 (by decide) (kept3 _ _ _)), below_set3 (hb8.trans (hb9.mono (by omega))) (by omega) _ _ _⟩
  case true =>
    have hneg := of_decide_eq_true hnb
    clear hnb
    have hmod : Int.tmod (N : Int) 2 = ((N % 2 : Nat) : Int) := by rw [Int.tmod_eq_emod_of_nonneg (by omega)]; omega
    rcases Nat.mod_two_eq_zero_or_one N with hz | hz
    · have hf := Lib.hid (show decide ((X ^ N).num < 0) = false from by rw [Rat.num_pow]; exact decide_eq_false (by have := (neg_pow_num _ hneg N).2 hz; omega))
      rw [hz] at hmod
      have h01 : (((0 : Nat) : Int) == 1) = false := by decide
      have hmod0 : Int.tmod (N : Int) 2 = 0 := hmod
      obtain ⟨U8, hU8⟩ : ∃ U, U5.setCell ⟨w2.heap.size, 0, none⟩ (.bool false) = U := ⟨_, rfl⟩
      have hk8 : ∀ k, k ≠ w2.heap.size → U8.heap[k]? = U5.heap[k]? := by rw [← hU8]; exact (Only.set _ _ _ _).block
      clear hmod hneg hz
      have q8 : ResQ w.heap.size U8 (.agg #[.bool false, .slice b1 us.length j1, .slice b2 vs.length j2]) (X ^ N) ((n + 2) * N + 1) := ⟨us, vs, b1, b2, j1, j2, by rw [hf.out], by rw [E2]; exact q3'.far R5 (by decide) hk8, by rw [E3]; exact q4'.far R5 (by decide) hk8, by omega, by omega⟩
      have R8 : Row U8 w2.heap.size 25 #[.bool false, .slice b1 us.length j1, .slice b2 vs.length j2] := by rw [← hU8]; exact R5.set 0 _
      have hb8 : Below w.heap.size w U8 := by rw [← hU8]; exact hB5.setCell (by simp <;> omega) _
      have S8 : Row U8 (w.heap.size + 1 + 1) 25 #[.bool false, .slice none 0 0, .slice none 0 0] := by rw [← hU8]; exact S5.far (by simp <;> omega) _
      have hs8 : U8.heap.size = U5.heap.size := by rw [← hU8]; simp
      obtain ⟨x0, x1, x2, _, _, _⟩ := R8.three
      go_wp2_with fail
      refine (plainR_any q8 hb8.size (by omega)).mono ?_
      rintro e w9 ⟨r9, rfl, q9, hb9⟩
      have hs9 := hb9.size
      have S9 := S8.later hb9
      obtain ⟨m, fs, gs, f1, g1, i1, i2, rfl⟩ := q9.arg.box
      obtain ⟨u0, u1, u2, v0, v1, v2⟩ := S9.three
      clear p0 p1 p2 p3 p4 p5 t0 t1 x0 x1 x2 hU8 hU5
      go_wp2_with fail
      refine bodyPost_ret (v := .agg #[.bool m, .slice f1 fs.length i1, .slice g1 gs.length i2]) (by simp [results, Try.results45, go_sem, u0, u1, u2]) rfl ⟨_, rfl, (q9.far S9 (by decide) (kept3 _ _ _)), below_set3 (hb8.trans (hb9.mono (by omega))) (by omega) _ _ _⟩
    · have hf := Lib.hid (show decide ((X ^ N).num < 0) = true from by rw [Rat.num_pow]; exact decide_eq_true ((neg_pow_num _ hneg N).1 hz))
      rw [hz] at hmod
      have h01 : (((1 : Nat) : Int) == 1) = true := by decide
      have hmod0 : Int.tmod (N : Int) 2 = 1 := hmod
      obtain ⟨U8, hU8⟩ : ∃ U, U5.setCell ⟨w2.heap.size, 0, none⟩ (.bool true) = U := ⟨_, rfl⟩
      have hk8 : ∀ k, k ≠ w2.heap.size → U8.heap[k]? = U5.heap[k]? := by rw [← hU8]; exact (Only.set _ _ _ _).block
      clear hmod hneg hz
      have q8 : ResQ w.heap.size U8 (.agg #[.bool true, .slice b1 us.length j1, .slice b2 vs.length j2]) (X ^ N) ((n + 2) * N + 1) := ⟨us, vs, b1, b2, j1, j2, by rw [hf.out], by rw [E2]; exact q3'.far R5 (by decide) hk8, by rw [E3]; exact q4'.far R5 (by decide) hk8, by omega, by omega⟩
      have R8 : Row U8 w2.heap.size 25 #[.bool true, .slice b1 us.length j1, .slice b2 vs.length j2] := by rw [← hU8]; exact R5.set 0 _
      have hb8 : Below w.heap.size w U8 := by rw [← hU8]; exact hB5.setCell (by simp <;> omega) _
      have S8 : Row U8 (w.heap.size + 1 + 1) 25 #[.bool false, .slice none 0 0, .slice none 0 0] := by rw [← hU8]; exact S5.far (by simp <;> omega) _
      have hs8 : U8.heap.size = U5.heap.size := by rw [← hU8]; simp
      obtain ⟨x0, x1, x2, _, _, _⟩ := R8.three
      go_wp2_with fail
      refine (plainR_any q8 hb8.size (by omega)).mono ?_
      rintro e w9 ⟨r9, rfl, q9, hb9⟩
      have hs9 := hb9.size
      have S9 := S8.later hb9
      obtain ⟨m, fs, gs, f1, g1, i1, i2, rfl⟩ := q9.arg.box
      obtain ⟨u0, u1, u2, v0, v1, v2⟩ := S9.three
      clear p0 p1 p2 p3 p4 p5 t0 t1 x0 x1 x2 hU8 hU5
      go_wp2_with fail
      refine bodyPost_ret (v := .agg #[.bool m, .slice f1 fs.length i1, .slice g1 gs.length i2]) (by simp [results, Try.results45, go_sem, u0, u1, u2]) rfl ⟨_, rfl, (q9.far S9 (by decide) (kept3 _ _ _)), below_set3 (hb8.trans (hb9.mono (by omega))) (by omega) _ _ _⟩
end Go.Proofs.Ytofiebilokhccaa
