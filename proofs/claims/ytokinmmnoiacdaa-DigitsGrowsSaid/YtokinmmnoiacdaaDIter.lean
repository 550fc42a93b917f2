/-
  The iterator over decimal digits, from the lowest on: its contract.
-/
import Derived.Test.YtokinmmnoiacdaaDRef
import Derived.Test.YtokinmmnoiacdaaB5
namespace Go.Proofs.Ytokinmmnoiacdaa
open Go.RowKit Go.Shelf
attribute [local go_sem] Oper.semAt_some
set_option linter.unusedVariables false
set_option linter.unusedSimpArgs false

/-! digits, from the lowest on -/
theorem dec_done (n : Nat) {k : Nat} (hk : 1 ≤ k) : n / 10 ^ k = 0 ↔ (dec n).length ≤ k := by
  have hp : 0 < 10 ^ k := Nat.pow_pos (by omega)
  have hl : 1 ≤ (dec n).length := List.length_pos_iff.2 (dec_ne n)
  rw [Nat.div_eq_zero_iff]
  refine ⟨fun h => ?_, fun h => .inr ?_⟩
  · rcases h with h | h
    · omega
    · by_cases h0 : n = 0
      · subst h0; rw [dec_zero]; exact hk
      · have h1 := dec_ge n h0
        apply Nat.le_of_not_lt
        intro h2
        have h3 : 10 ^ k ≤ 10 ^ ((dec n).length - 1) := Nat.pow_le_pow_right (by omega) (by omega)
        omega
  · exact Nat.lt_of_lt_of_le (dec_lt n) (Nat.pow_le_pow_right (by omega) h)
theorem dec_rev (n : Nat) : (List.range (dec n).length).map (fun k => dig (n / 10 ^ k % 10)) = (dec n).reverse := by
  induction n using Nat.strongRecOn with
  | _ n ih =>
    by_cases h : n < 10
    · rw [dec_small h]
      simp
      rw [Nat.mod_eq_of_lt h]
    · have hd := dec_big (n := n) (by omega)
      rw [hd, List.reverse_append, List.length_append, List.length_singleton, List.range_succ_eq_map, List.map_cons, List.map_map, ← ih (n / 10) (by omega)]
      rw [Nat.pow_zero, Nat.div_one]
      simp only [List.reverse_cons, List.reverse_nil, List.nil_append, List.cons_append]
      congr 1
      apply List.map_congr_left
      intro k _
      simp only [Function.comp]
      rw [Nat.pow_succ, Nat.mul_comm, Nat.div_div_eq_div_mul]
/-- within a block of nine -/
theorem nine_mod (m : Nat) {i : Nat} (hi : i < 9) : m % 1000000000 / 10 ^ i % 10 = m / 10 ^ i % 10 := by
  have h : i = 0 ∨ i = 1 ∨ i = 2 ∨ i = 3 ∨ i = 4 ∨ i = 5 ∨ i = 6 ∨ i = 7 ∨ i = 8 := by omega
  rcases h with rfl | rfl | rfl | rfl | rfl | rfl | rfl | rfl | rfl <;> simp only [Nat.reducePow] <;> omega
theorem nine_zero (m : Nat) {i : Nat} (hi : i < 9) : (m / 1000000000 = 0 ∧ m % 1000000000 / 10 ^ (i + 1) = 0) ↔ m / 10 ^ (i + 1) = 0 := by
  have h : i = 0 ∨ i = 1 ∨ i = 2 ∨ i = 3 ∨ i = 4 ∨ i = 5 ∨ i = 6 ∨ i = 7 ∨ i = 8 := by omega
  rcases h with rfl | rfl | rfl | rfl | rfl | rfl | rfl | rfl | rfl <;> simp only [Nat.reducePow, Nat.reduceAdd] <;> omega
theorem nine_last (m : Nat) : m % 1000000000 / 10 ^ 9 = 0 := by simp only [Nat.reducePow]; omega
theorem nine_lt (m i : Nat) : m % 1000000000 / 10 ^ i < 1000000000 := Nat.lt_of_le_of_lt (Nat.div_le_self _ _) (Nat.mod_lt _ (by omega))

/-! what a consumer writes to is none of the iterator's -/
def Good (F : World → Nat → Prop) (W : World) : Prop := ∀ k, F W k → k < W.heap.size
def Off (F : World → Nat → Prop) (W : World) (ad : Option Addr) (xs : List Int) : Prop := xs ≠ [] → ∀ a, ad = some a → ¬ F W a.block
structure Apart (F : World → Nat → Prop) (W W' : World) : Prop where
  size : W.heap.size ≤ W'.heap.size
  block : ∀ k o, W.heap[k]? = some o → o.isCells = true → ¬ F W k → W'.heap[k]? = some o
  old : ∀ k, k < W.heap.size → F W' k → F W k
  good : Good F W → Good F W'
theorem Apart.trans {F : World → Nat → Prop} {A B C : World} (h : Apart F A B) (k : Apart F B C) : Apart F A C := by
  refine ⟨Nat.le_trans h.size k.size, fun j o hj ho hF => ?_, fun j hj hF => h.old j hj (k.old j (Nat.lt_of_lt_of_le hj h.size) hF), fun hg => k.good (h.good hg)⟩
  have hlt : j < A.heap.size := lt_of_block hj
  exact k.block j o (h.block j o hj ho hF) ho (fun e => hF (h.old j hlt e))
/-- the blocks that the consumer writes to are told by what lay there -/
def Still (F : World → Nat → Prop) : Prop := ∀ A B, Below A.heap.size A B → Good F A → ∀ k, F B k → F A k
theorem Still.good {F : World → Nat → Prop} (h : Still F) {A B : World} (hb : Below A.heap.size A B) (hg : Good F A) : Good F B := fun k hk => Nat.lt_of_lt_of_le (hg k (h A B hb hg k hk)) hb.size
theorem Still.off {F : World → Nat → Prop} (h : Still F) {A B : World} (hb : Below A.heap.size A B) (hg : Good F A) {ad : Option Addr} {xs : List Int} (ho : Off F A ad xs) : Off F B ad xs := fun hx a ha hk => ho hx a ha (h A B hb hg _ hk)
theorem Still.new {F : World → Nat → Prop} (h : Still F) {A B : World} (hb : Below A.heap.size A B) (hg : Good F A) {ad : Option Addr} {zs : List Int} {n cap : Nat} {N : Int} (hr : Res A.heap.size B (.slice ad n cap) zs N) : Off F B ad zs := by
  intro hx a ha hk
  obtain ⟨ad', cap', e, _, _, _, hb'⟩ := hr.num.read
  simp only [Value.slice.injEq] at e
  obtain ⟨rfl, _, _⟩ := e
  have h1 := (hb' a ha).1
  have h2 := hg _ (h A B hb hg _ hk)
  omega
theorem cells_of_cell {w : World} {p : Addr} {v : Value} (h : w.cell? p = some v) : ∃ o, w.heap[p.block]? = some o ∧ o.isCells = true := by
  unfold World.cell? at h
  split at h
  · rename_i o ho
    refine ⟨_, ho, ?_⟩
    rfl
  · cases h
theorem Apart.arg {F : World → Nat → Prop} {W W' : World} {u : Value} {xs : List Int} {ad : Option Addr} {cap : Nat} (h : Apart F W W') (A : Arg W u xs ad cap) (ho : Off F W ad xs) : Arg W' u xs ad cap ∧ Off F W' ad xs := by
  rcases A.lim with hx | ⟨b, off, rfl, hc⟩
  · subst hx
    exact ⟨⟨A.is, .inl rfl, A.le, A.wf⟩, fun h => absurd rfl h⟩
  · by_cases hx : xs = []
    · subst hx
      exact ⟨⟨A.is, .inl rfl, A.le, A.wf⟩, fun h => absurd rfl h⟩
    · have hF := ho hx _ rfl
      obtain ⟨o, hb, hcl⟩ := cells_of_cell (hc 0 (List.length_pos_iff.2 hx))
      have hb' := h.block b o hb hcl hF
      refine ⟨⟨A.is, .inr ⟨b, off, rfl, fun i hi => ?_⟩, A.le, A.wf⟩, fun _ a ha hk => ?_⟩
      · rw [World.cell?_of_block (show W'.heap[(⟨b, off + i, none⟩ : Addr).block]? = W.heap[(⟨b, off + i, none⟩ : Addr).block]? from hb'.trans hb.symm)]
        exact hc i hi
      · cases ha
        exact hF (h.old b (lt_of_block hb) hk)

/-- what a round is handed -/
def digAt (n : Nat) {N : Nat} (x : Fin N) : Array Value := #[.int .u8 ((48 + n / 10 ^ x.val % 10 : Nat) : Int)]

set_option maxRecDepth 100000 in
set_option maxHeartbeats 4000000 in
theorem digits1_in (n l Bs m0 : Nat) (F : World → Nat → Prop) (hF : Still F) (ad : Option Addr) (xs : List Int) (cap : Nat) (hm : xs.length ≤ 35184372088832) (hv : val xs = (m0 : Int)) (J Jx : List (Fin (dec m0).length) → World → Prop)
    (hJ : ∀ pre A B, J pre A → Below A.heap.size A B → J pre B)
    (hY : ∀ pre x W, J pre W → pre.length < (dec m0).length → YieldAt Fence.wide (n - 1) Try.prog l (digAt m0 x) W fun e W' =>
      (e = .returned (.bool true) ∧ J (pre ++ [x]) W' ∧ Apart F W W') ∨ (e = .returned (.bool false) ∧ Jx (pre ++ [x]) W'))
    (W : World) (hBs : W.cell? ⟨Bs, 0, none⟩ = some (.slice ad xs.length cap)) (hA : Arg W (.slice ad xs.length cap) xs ad cap) (hO : Off F W ad xs) (hG : Good F W) (h0 : J [] W) :
    CallsIn Fence.wide n Try.prog 63 #[.func (.yield l) #[] #[], .pointer (some ⟨Bs, 0, none⟩)] W fun e W' => (∃ v, e = .returned v) ∧
      ((∃ ys, Upto ys (dec m0).length ∧ J ys W') ∨ (∃ pre, (∃ k, k ≤ (dec m0).length ∧ Upto pre k) ∧ Jx pre W')) := by
  obtain ⟨N, hN⟩ : ∃ N, (dec m0).length = N := ⟨_, rfl⟩
  have hdone := fun (k : Nat) (hk : 1 ≤ k) => dec_done m0 (k := k) hk
  have hN1 : 1 ≤ (dec m0).length := List.length_pos_iff.2 (dec_ne m0)
  revert hY h0 hJ
  revert J Jx
  rw [hN] at hN1 hdone ⊢
  intro J Jx hJ hY h0
  have HDN := Lib.hid hdone
  clear hdone
  refine callsIn_of_wp Try.func63 rfl trivial ?_ rfl
  simp only [Try.ntmps63, List.size_toArray, List.length_cons, List.length_nil, Nat.reduceAdd, Nat.reduceSub, Array.replicate_succ, Array.replicate_zero, List.push_toArray, List.append_toArray, List.nil_append, List.cons_append]
  gi_wp2_with fail
  gi_loopw [3] (fun r wr => ∃ (k : Nat) (pre : List (Fin N)) (ys : List Int) (b : Option Addr) (cb : Nat), k < N ∧ r = .slice b ys.length cb ∧ Arg wr (.slice b ys.length cb) ys b cb ∧ Off F wr b ys ∧ Good F wr ∧ ys.length ≤ 35184372088832 ∧ val ys = ((m0 / 10 ^ k : Nat) : Int) ∧ Upto pre k ∧ J pre wr)
    (fun r wr => leftN wr r)
  case atStart => exact ⟨0, [], xs, ad, cap, by omega, rfl, hA, hO, hG, hm, by rw [hv, Nat.pow_zero, Nat.div_one], Upto.nil, h0⟩
  case round =>
    obtain ⟨k, pre, ys, b, cb, hk, rfl, A1, O1, G1, hys, hvy, hup, hJ1⟩ := hrel
    obtain ⟨m, hm2⟩ : ∃ m, m0 / 10 ^ k = m := ⟨_, rfl⟩
    rw [hm2] at hvy
    have HM := Lib.hid hm2
    clear hm2
    have hleft : leftN wr (Value.slice b ys.length cb) = m := by rw [A1.left, hvy]; rfl
    have HLF := Lib.hid hleft
    clear hleft
    gi_wp2_with fail
    refine wideCall ((short1_any 1000000000 A1 hys (by omega)).mono ?_)
    rintro e w2 ⟨r2, rfl, zs, q2, nz, hb2⟩
    obtain ⟨az, cz, rfl, q2', Az⟩ := q2.slice
    have G2 := hF.good hb2 G1
    have O2 := hF.new hb2 G1 q2
    have J2 := hJ _ _ _ hJ1 hb2
    rw [hvy] at q2'
    have hzv : val zs = ((m / 1000000000 : Nat) : Int) := by rw [q2'.eq]; omega
    have hzf : zs.length = 0 ↔ m / 1000000000 = 0 := by
      have h1 := val_zero q2'.wf
      rw [q2'.full, hzv] at h1
      omega
    have hrest : val ys % 1000000000 = ((m % 1000000000 : Nat) : Int) := by rw [hvy]; omega
    rw [hrest]
    obtain ⟨L, hL⟩ : ∃ L, zs.length = L := ⟨_, rfl⟩
    rw [hL] at hzf Az ⊢
    have HL := Lib.hid hL
    have HZ := Lib.hid hzf
    have HZV := Lib.hid hzv
    clear hL hzf hzv hrest hvy A1 q2 q2' hJ1 G1 O1
    gi_wp2_with fail
    gi_loopw [5, 14] (fun bl i wi => ∃ (j : Nat) (pi : List (Fin N)), j ≤ 9 ∧ k + j < N ∧ bl = .int .u32 ((m % 1000000000 / 10 ^ j : Nat) : Int) ∧ i = .int .i64 (j : Int) ∧ Upto pi (k + j) ∧ J pi wi ∧ Arg wi (.slice az L cz) zs az cz ∧ Off F wi az zs ∧ Good F wi)
      (fun _ i _ => 9 - (intOf i).toNat)
    case atStart => exact ⟨0, pre, by omega, by omega, congrArg (Value.int .u32) (by rw [Nat.pow_zero, Nat.div_one]; omega), rfl, hup, J2, Az, O2, G2⟩
    case round =>
      obtain ⟨j, pi, hj, hkj, rfl, rfl, hui, hJi, Ai, Oi, Gi⟩ := hrel
      by_cases hlt : j < 9
      · obtain ⟨fn, tmps, assign, body, hy, hR⟩ := hY pi ⟨k + j, hkj⟩ wr hJi (by rw [hui.length]; exact hkj)
        have hdg : m0 / 10 ^ (k + j) % 10 = m % 1000000000 / 10 ^ j % 10 := by
          rw [nine_mod m hlt, ← HM.out, Nat.div_div_eq_div_mul, ← Nat.pow_add]
        have hstep : m % 1000000000 / 10 ^ j / 10 = m % 1000000000 / 10 ^ (j + 1) := by rw [Nat.div_div_eq_div_mul, ← Nat.pow_succ]
        have hend : (L = 0 ∧ m % 1000000000 / 10 ^ (j + 1) = 0) ↔ N ≤ k + (j + 1) := by
          rw [HZ.out, nine_zero m hlt, ← HM.out, Nat.div_div_eq_div_mul, ← Nat.pow_add]
          exact HDN.out _ (by omega)
        simp only [digAt] at hy
        rw [hdg] at hy
        have hblt := nine_lt m j
        have hblt2 := nine_lt m (j + 1)
        obtain ⟨c, hc⟩ : ∃ c, m % 1000000000 / 10 ^ j = c := ⟨_, rfl⟩
        obtain ⟨c2, hc2⟩ : ∃ c2, m % 1000000000 / 10 ^ (j + 1) = c2 := ⟨_, rfl⟩
        rw [hc] at hstep hy hblt ⊢
        rw [hc2] at hstep hend hblt2
        have HC2 := Lib.hid hc2
        obtain ⟨d, hd⟩ : ∃ d : Int, ((c % 10 : Nat) : Int) = d := ⟨_, rfl⟩
        have hd0 : 0 ≤ d := by omega
        have hd1 : d < 10 := by omega
        have e48 : ((48 + c % 10 : Nat) : Int) = 48 + d := by omega
        rw [e48] at hy
        have et : Int.tmod (c : Int) 10 = d := by rw [Int.tmod_eq_emod_of_nonneg (by omega)]; omega
        have eq : Int.tdiv (c : Int) 10 = (c2 : Int) := by rw [Int.tdiv_eq_ediv_of_nonneg (by omega)]; omega
        have w1 : IntKind.u32.wrap d = d := by rw [wrap_u32]; exact Int.emod_eq_of_lt hd0 (by omega)
        have w3 : IntKind.u32.wrap (c2 : Int) = (c2 : Int) := by rw [wrap_u32]; exact Int.emod_eq_of_lt (by omega) (by omega)
        have w4 : IntKind.u8.wrap d = d := by simp only [IntKind.wrap, IntKind.signed, IntKind.bits]; simp; omega
        have w5 : IntKind.u8.wrap (48 + d) = 48 + d := by simp only [IntKind.wrap, IntKind.signed, IntKind.bits]; simp; omega
        have HE := Lib.hid hend
        clear hdg hstep hend hc hc2 hd e48
        gi_wp2
        refine ⟨(fun h => by cases h), hR.mono ?_⟩
        rintro e W3 (⟨rfl, hJ3, hap⟩ | ⟨rfl, hJx3⟩)
        · obtain ⟨A3, O3⟩ := hap.arg Ai Oi
          have G3 := hap.good Gi
          have hsn := hui.snoc hkj
          by_cases hL0 : L = 0
          · by_cases hc0 : c2 = 0
            · have hN2 := HE.out.1 ⟨hL0, hc0⟩
              have hNe : k + j + 1 = N := by omega
              subst hL0
              subst hc0
              gi_wp2
              refine bodyPost_ret (results_none rfl _ _ _) rfl ?_
              exact ⟨⟨_, rfl⟩, .inl ⟨_, Eq.subst (motive := fun z => Upto (pi ++ [⟨k + j, hkj⟩]) z) hNe hsn, hJ3⟩⟩
            · have hne : ((c2 : Int) == 0) = false := by simp; omega
              have hmore : k + (j + 1) < N := by
                have := HE.out
                omega
              subst hL0
              gi_wp2
              go_roundw
              case rel => exact ⟨j + 1, _, by omega, by omega, by rw [HC2.out], by go_num, hsn, hJ3, A3, O3, G3⟩
              case measure => simp [intOf]; omega
          · have hne : ((L : Int) == 0) = false := by simp; omega
            have hmore : k + (j + 1) < N := by
              have := HE.out
              omega
            gi_wp2
            go_roundw
            case rel => exact ⟨j + 1, _, by omega, by omega, by rw [HC2.out], by go_num, hsn, hJ3, A3, O3, G3⟩
            case measure => simp [intOf]; omega
        · gi_wp2
          refine bodyPost_ret (results_none rfl _ _ _) rfl ?_
          exact ⟨⟨_, rfl⟩, .inr ⟨_, ⟨k + j + 1, by omega, hui.snoc hkj⟩, hJx3⟩⟩
      · obtain rfl : j = 9 := by omega
        have hgo : m / 1000000000 ≠ 0 := by
          intro h
          have h2 := (nine_zero m (i := 8) (by omega)).1 ⟨h, nine_last m⟩
          rw [← HM.out, Nat.div_div_eq_div_mul, ← Nat.pow_add] at h2
          have := (HDN.out _ (by omega)).1 h2
          omega
        gi_wp2
        go_roundw
        case rel => exact ⟨k + 9, pi, zs, az, cz, hkj, by rw [HL.out], by rw [HL.out]; exact Ai, Oi, Gi, by omega, by rw [HZV.out, ← HM.out, Nat.div_div_eq_div_mul, Nat.pow_add], hui, hJi⟩
        case measure =>
          rw [HLF.out, Ai.left, HZV.out]
          omega
end Go.Proofs.Ytokinmmnoiacdaa
