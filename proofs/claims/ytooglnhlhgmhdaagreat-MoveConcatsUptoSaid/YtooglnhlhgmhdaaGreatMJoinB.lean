/-
  Package move as it landed: mayJoin. (Made by wip/gen/gen_mjoin.py.)
-/
import Derived.Test.YtooglnhlhgmhdaaGreatMJoin
namespace Go.Proofs.YtooglnhlhgmhdaaGreat
open Go.RowKit
set_option linter.unusedVariables false
set_option linter.unusedSimpArgs false

/-- why tensors may not be put together: 0, or an error -/
def mayX (xs : List X2) : Int := orL (xs.map fun x => mayT x.s x.q)
def firstS (xs : List X2) : List Int := (xs.head?.map X2.s).getD []
def mjC (axis : Int) (xs : List X2) : Int :=
  if xs.length = 0 then 2 else if mayX xs ≠ 0 then mayX xs else if axis < 0 ∨ ((firstS xs).length : Int) ≤ axis then 11 else if ∃ x, x ∈ xs ∧ onesS x.s [axis] ≠ onesS (firstS xs) [axis] then 13 else mayC (joS axis.toNat xs)
theorem mayX_at {xs : List X2} {k : Nat} {x : X2} (h : ∀ y ∈ xs.take k, mayT y.s y.q = 0) (hk : xs[k]? = some x) (hx : mayT x.s x.q ≠ 0) : mayX xs = mayT x.s x.q := by
  unfold mayX
  refine orL_at (k := k) (fun j hj => ?_) (by rw [List.getElem?_map, hk]; rfl) hx
  rw [List.getD_eq_getElem?_getD, List.getElem?_map]
  cases e : xs[j]? with
  | none => rfl
  | some y =>
    refine h y (List.mem_of_getElem? (i := j) ?_)
    rw [List.getElem?_take, if_pos hj]
    exact e
theorem mayX_all {xs : List X2} (h : ∀ y ∈ xs, mayT y.s y.q = 0) : mayX xs = 0 := by
  unfold mayX
  refine orL_nil fun z hz => ?_
  obtain ⟨y, hy, rfl⟩ := List.mem_map.1 hz
  exact h y hy
theorem mayX_zero {xs : List X2} (h : mayX xs = 0) : ∀ y ∈ xs, mayT y.s y.q = 0 := fun y hy => by
  obtain ⟨k, hk, rfl⟩ := List.mem_iff_getElem.1 hy
  apply Classical.byContradiction
  intro hne
  have : ∃ j, j ≤ k ∧ (∃ x, xs[j]? = some x ∧ mayT x.s x.q ≠ 0) ∧ ∀ z ∈ xs.take j, mayT z.s z.q = 0 := by
    have key : ∀ n, n ≤ k + 1 → (∀ z ∈ xs.take n, mayT z.s z.q = 0) ∨ ∃ j, j ≤ k ∧ (∃ x, xs[j]? = some x ∧ mayT x.s x.q ≠ 0) ∧ ∀ z ∈ xs.take j, mayT z.s z.q = 0 := fun n => by
      induction n with
      | zero => intro _; exact .inl fun z hz => by simp at hz
      | succ n ih =>
        intro hn
        rcases ih (by omega) with h1 | h1
        · have hx : xs[n]? = some (xs[n]'(by omega)) := List.getElem?_eq_getElem (by omega)
          by_cases h2 : mayT (xs[n]'(by omega)).s (xs[n]'(by omega)).q = 0
          · refine .inl fun z hz => ?_
            rw [take_nextL hx] at hz
            rcases List.mem_append.1 hz with hz | hz
            · exact h1 z hz
            · rw [List.mem_singleton] at hz
              subst hz
              exact h2
          · exact .inr ⟨n, by omega, ⟨_, hx, h2⟩, h1⟩
        · exact .inr h1
    rcases key (k + 1) (Nat.le_refl _) with h1 | h1
    · exact absurd (h1 _ (List.mem_of_getElem? (i := k) (by rw [List.getElem?_take, if_pos (by omega)]; exact List.getElem?_eq_getElem hk))) hne
    · exact h1
  obtain ⟨j, _, ⟨x, hx, hm⟩, hall⟩ := this
  exact hm ((mayX_at hall hx hm).symm.trans h)
set_option maxRecDepth 100000 in
set_option maxHeartbeats 40000000 in
theorem mayJoin_any {n : Nat} {w : World} {v : Value} {xs : List X2} {ad : Option Addr} {cap : Nat} (axis : Int) (R : RowT w v xs ad cap) (hn : xs.length ≤ 1048576) (hl : ∀ x ∈ xs, x.s.length ≤ 1048576 ∧ x.q.length ≤ 1048576 ∧ lensQ x.q n) (hn2 : n ≤ 3000000) (h0 : -9223372036854775808 ≤ axis) (h1 : axis ≤ 9223372036854775807) :
    Calls Tryz.prog 68 #[.int .i64 axis, v] w fun e w' => e = .returned (.int .i64 (mjC axis xs)) ∧ Below w.heap.size w w' := by
  obtain rfl := R.is
  have HR := Lib.hid R
  have HLL := Lib.hid hl
  obtain ⟨N, hN⟩ : ∃ N, xs.length = N := ⟨_, rfl⟩
  have HN := Lib.hid hN
  obtain ⟨c, hc⟩ : ∃ c, mjC axis xs = c := ⟨_, rfl⟩
  have HC := Lib.hid hc
  rw [hc]
  rw [hN] at hn ⊢
  have hcap := R.2.1
  rw [hN] at hcap
  clear R hl hN hc
  by_cases hN0 : N = 0
  · have hnI : ((N : Int) == 0) = true := by simp [hN0]
    obtain rfl : c = 2 := by rw [← HC.out]; unfold mjC; rw [if_pos (by rw [HN.out]; exact hN0)]
    clear hN0
    go_enter Tryz.func68, Tryz.ntmps68
    go_wp2_with fail
    go_ret
    exact ⟨rfl, Below.refl _ _⟩
  · have hnI : ((N : Int) == 0) = false := by simp; omega
    go_enter Tryz.func68, Tryz.ntmps68
    go_wp2_with fail
    go_loopw [6, 7, 16] (fun _ _ i wr => ∃ (k : Nat), i = .int .i64 (k : Int) ∧ k ≤ N ∧ (∀ y ∈ xs.take k, mayT y.s y.q = 0) ∧ Below w.heap.size w wr) (fun _ _ i _ => N - (intOf i).toNat)
    case atStart => exact ⟨0, rfl, Nat.zero_le _, (fun y hy => by simp at hy), Below.refl _ _⟩
    case round =>
      obtain ⟨k, rfl, hk, hall, hb⟩ := hrel
      have hsz := hb.size
      have HAL := Lib.hid hall
      clear hall
      by_cases hlt : k < N
      · have hltI : (k : Int) < (N : Int) := by omega
        obtain ⟨x, hx⟩ : ∃ x, xs[k]? = some x := ⟨_, List.getElem?_eq_getElem (by rw [HN.out]; omega)⟩
        obtain ⟨b, o, rfl, _, ax, ex, cx, dx, c0, c1, TX⟩ := (HR.out.later hb).at hx
        have hlx := HLL.out x (List.mem_of_getElem? hx)
        obtain ⟨W2, hW2⟩ : ∃ Y, wr.alloc (.cells #[.slice ax x.s.length cx, .slice ex x.q.length dx] 26) = Y := ⟨_, rfl⟩
        have b2 : Below wr.heap.size wr W2 := by rw [← hW2]; exact (Below.refl _ _).alloc (Nat.le_refl _) _
        have RX : Row W2 wr.heap.size 26 #[.slice ax x.s.length cx, .slice ex x.q.length dx] := by rw [← hW2]; exact Row.new _ _ _
        obtain ⟨d0, d1, _, _⟩ := RX.two
        have hmay := mayT7_any (TX.later b2) hlx.1 hlx.2.1 hlx.2.2 (by omega)
        obtain ⟨m, hm⟩ : ∃ m, mayT x.s x.q = m := ⟨_, rfl⟩
        rw [hm] at hmay
        have HM := Lib.hid hm
        have HX := Lib.hid hx
        have hb2 : Below w.heap.size w W2 := hb.trans (b2.mono hsz)
        clear TX hm hx RX
        go_wp2_with fail
        (try rw [hW2])
        clear hW2 c0 c1
        refine hmay.mono ?_
        rintro e w3 ⟨rfl, hb3⟩
        have hbw3 : Below w.heap.size w w3 := hb2.trans (hb3.mono hb2.size)
        clear hmay d0 d1
        by_cases hm0 : m = 0
        · have hme : (m != 0) = false := by simp [hm0]
          have HM0 := Lib.hid hm0
          clear hm0
          go_wp2_with fail
          go_roundw
          case rel =>
            refine ⟨k + 1, by go_num, by omega, fun y hy => ?_, hbw3⟩
            rw [take_nextL HX.out] at hy
            rcases List.mem_append.1 hy with hy | hy
            · exact HAL.out y hy
            · rw [List.mem_singleton] at hy
              subst hy
              rw [HM.out]
              exact HM0.out
          case measure => simp [intOf]; omega
        · have hme : (m != 0) = true := by simp [hm0]
          obtain rfl : c = m := by
            have h := mayX_at HAL.out HX.out (by rw [HM.out]; exact hm0)
            rw [HM.out] at h
            rw [← HC.out]
            unfold mjC
            rw [if_neg (by rw [HN.out]; exact hN0), if_pos (by rw [h]; exact hm0)]
            exact h
          clear hm0
          go_wp2_with fail
          go_ret
          exact ⟨rfl, hbw3⟩
      · obtain rfl : k = N := by omega
        have hltI : ¬ (k : Int) < (k : Int) := by omega
        have hmx : ∀ y ∈ xs, mayT y.s y.q = 0 := by
          have h := HAL.out
          rw [List.take_of_length_le (by rw [HN.out]; exact Nat.le_refl _)] at h
          exact h
        have HMX := Lib.hid hmx
        obtain ⟨x0, hx0⟩ : ∃ x, xs[0]? = some x := ⟨_, List.getElem?_eq_getElem (by rw [HN.out]; omega)⟩
        have hfs : firstS xs = x0.s := by
          unfold firstS
          rw [List.head?_eq_getElem?, hx0]
          rfl
        have HFS := Lib.hid hfs
        have HX0 := Lib.hid hx0
        have hok0 := mayC_zero.1 (mayT_rank (hmx x0 (List.mem_of_getElem? hx0)))
        have hrk0 := hok0.rank
        obtain ⟨b, o, rfl, _, a0, e0, ca0, ce0, c0, c1, T0⟩ := (HR.out.later hb).at hx0
        rw [Nat.zero_mul, Nat.add_zero] at c0 c1
        have HNA0 := Lib.hid T0.nila
        obtain ⟨b9, o9, e9, _, a9, e8, ca9, ce9, c9, _, T9⟩ := HR.out.at hx0
        cases e9
        rw [Nat.zero_mul, Nat.add_zero] at c9
        have c99 := ((hb.cell (World.block_lt_of_cell? _ _ c9)).trans c9).symm.trans c0
        simp only [Option.some.injEq, Value.slice.injEq] at c99
        obtain ⟨rfl, _, rfl⟩ := c99
        have HAW := Lib.hid T9.sh
        clear c9 T9
        have HB := Lib.hid hb
        have hneI : (0 : Int) < (k : Int) := by omega
        have hcc : c = if axis < 0 ∨ (x0.s.length : Int) ≤ axis then 11 else if ∃ x, x ∈ xs ∧ onesS x.s [axis] ≠ onesS x0.s [axis] then 13 else mayC (joS axis.toNat xs) := by
          rw [← HC.out]
          unfold mjC
          rw [if_neg (by rw [HN.out]; exact hN0), if_neg (by rw [mayX_all hmx]; simp), hfs]
        have HCC := Lib.hid hcc
        clear hmx hfs hx0 T0 hcc
        by_cases hx1 : axis < 0
        · have hd : decide (axis < 0) = true := decide_eq_true hx1
          obtain rfl : c = 11 := by rw [HCC.out, if_pos (.inl hx1)]
          go_wp2_with fail
          go_ret
          exact ⟨rfl, hb⟩
        · have hd : decide (axis < 0) = false := decide_eq_false hx1
          by_cases hx2 : (x0.s.length : Int) ≤ axis
          · have hd2 : decide (axis ≥ (x0.s.length : Int)) = true := decide_eq_true hx2
            obtain rfl : c = 11 := by rw [HCC.out, if_pos (.inr hx2)]
            go_wp2_with fail
            go_ret
            exact ⟨rfl, hb⟩
          · have hd2 : decide (axis ≥ (x0.s.length : Int)) = false := decide_eq_false hx2
            obtain ⟨a, rfl⟩ : ∃ a : Nat, axis = (a : Int) := ⟨axis.toNat, by omega⟩
            have hal : a < x0.s.length := by omega
            go_wp2_with fail
            clear c0 c1
            go_loopw [10, 40] (fun _ i wr => ∃ (j : Nat), i = .int .i64 (j : Int) ∧ j ≤ k ∧ (∀ y ∈ xs.take j, onesS y.s [(a : Int)] = onesS x0.s [(a : Int)]) ∧ Below w.heap.size w wr) (fun _ i _ => k - (intOf i).toNat)
            case atStart => exact ⟨0, rfl, Nat.zero_le _, (fun y hy => by simp at hy), hb⟩
            case round =>
              rename World => w2
              obtain ⟨j, rfl, hj, hall, hbj⟩ := hrel
              have hszj := hbj.size
              have HAL2 := Lib.hid hall
              clear hall
              by_cases hltj : j < k
              · have hltjI : (j : Int) < (k : Int) := by omega
                obtain ⟨x, hx⟩ : ∃ x, xs[j]? = some x := ⟨_, List.getElem?_eq_getElem (by rw [HN.out]; omega)⟩
                obtain ⟨b', o', e', _, ax, ex, cx, dx, c0, c1, TX⟩ := (HR.out.later hbj).at hx
                cases e'
                have hxm := List.mem_of_getElem? hx
                have hokx := mayC_zero.1 (mayT_rank (HMX.out x hxm))
                have hrkx := hokx.rank
                obtain ⟨W2, hW2⟩ : ∃ Y, w2.alloc (.cells #[.slice ax x.s.length cx, .slice ex x.q.length dx] 26) = Y := ⟨_, rfl⟩
                have b2 : Below w2.heap.size w2 W2 := by rw [← hW2]; exact (Below.refl _ _).alloc (Nat.le_refl _) _
                have RX : Row W2 w2.heap.size 26 #[.slice ax x.s.length cx, .slice ex x.q.length dx] := by rw [← hW2]; exact Row.new _ _ _
                obtain ⟨d0, d1, _, _⟩ := RX.two
                have hb2 : Below w.heap.size w W2 := hbj.trans (b2.mono hszj)
                have AX := TX.sh.later b2
                have NX := Lib.hid TX.nila
                have HX := Lib.hid hx
                have A0 : ∀ X, Below W2.heap.size W2 X → ArgS X (.slice a9 x0.s.length ca9) x0.s a9 ca9 := fun X h => HAW.out.later (hb2.trans (h.mono hb2.size))
                have HA := Lib.hid A0
                have HAX := Lib.hid AX
                have HRX := Lib.hid RX
                clear TX hx AX A0 RX
                obtain ⟨V1, hV1⟩ : ∃ Y, W2.alloc (.cells #[.int .i64 (a : Int)] 3) = Y := ⟨_, rfl⟩
                have bv1 : Below W2.heap.size W2 V1 := by rw [← hV1]; exact (Below.refl _ _).alloc (Nat.le_refl _) _
                have AV1 : ArgS V1 (.slice (some ⟨W2.heap.size, 0, none⟩) 1 1) [(a : Int)] (some ⟨W2.heap.size, 0, none⟩) 1 := by
                  rw [← hV1]
                  exact Row.argS (Row.new W2 3 #[.int .i64 (a : Int)]) [(a : Int)] rfl (fun y hy => by rw [List.mem_singleton] at hy; subst hy; omega)
                have on1 := onesC_any (HAX.out.later bv1) AV1 NX.out (fun h => by cases h) (by omega) (by simp)
                go_wp2_with fail
                (try rw [hW2])
                (try rw [hV1])
                clear hW2 hV1 c0 c1
                refine on1.mono ?_
                rintro e V2 ⟨r1, rfl, RS1, hy1⟩
                obtain ⟨p1, cp1, AP1, np1⟩ := RS1.arg2
                obtain rfl := AP1.is
                have BV2 : Below W2.heap.size W2 V2 := bv1.trans (hy1.mono bv1.size)
                have HP1 := Lib.hid AP1
                have HNP1 := Lib.hid np1
                clear on1 RS1 AP1 np1 AV1 d0 d1
                obtain ⟨V3, hV3⟩ : ∃ Y, V2.alloc (.cells #[.int .i64 (a : Int)] 3) = Y := ⟨_, rfl⟩
                have bv3 : Below V2.heap.size V2 V3 := by rw [← hV3]; exact (Below.refl _ _).alloc (Nat.le_refl _) _
                have AV3 : ArgS V3 (.slice (some ⟨V2.heap.size, 0, none⟩) 1 1) [(a : Int)] (some ⟨V2.heap.size, 0, none⟩) 1 := by
                  rw [← hV3]
                  exact Row.argS (Row.new V2 3 #[.int .i64 (a : Int)]) [(a : Int)] rfl (fun y hy => by rw [List.mem_singleton] at hy; subst hy; omega)
                have BV3 : Below W2.heap.size W2 V3 := BV2.trans (bv3.mono BV2.size)
                have on2 := onesC_any (HA.out V3 BV3) AV3 HNA0.out (fun h => by cases h) (by omega) (by simp)
                go_wp2_with fail
                (try rw [hV3])
                clear hV3
                refine on2.mono ?_
                rintro e V4 ⟨r2, rfl, RS2, hy2⟩
                obtain ⟨p2, cp2, AP2, np2⟩ := RS2.arg2
                obtain rfl := AP2.is
                have BV24 : Below V2.heap.size V2 V4 := bv3.trans (hy2.mono bv3.size)
                have BV4 : Below w.heap.size w V4 := hb2.trans ((BV2.trans (BV24.mono BV2.size)).mono hb2.size)
                have sm := sameS_any (HP1.out.later BV24) AP2 HNP1.out np2 (by rw [ones_len]; omega) (by rw [ones_len]; omega)
                obtain ⟨l1, hl1⟩ : ∃ l, (onesS x.s [(a : Int)]).length = l := ⟨_, rfl⟩
                obtain ⟨l2, hl2⟩ : ∃ l, (onesS x0.s [(a : Int)]).length = l := ⟨_, rfl⟩
                rw [hl1, hl2] at sm
                rw [hl1, hl2]
                clear hl1 hl2
                obtain ⟨g, hg⟩ : ∃ g, decide (onesS x.s [(a : Int)] = onesS x0.s [(a : Int)]) = g := ⟨_, rfl⟩
                rw [hg] at sm
                have HG := Lib.hid hg
                clear on2 RS2 AP2 np2 AV3 hg
                go_wp2_with fail
                refine sm.mono ?_
                rintro e V5 ⟨rfl, hy3⟩
                have BV5 : Below w.heap.size w V5 := BV4.trans (hy3.mono BV4.size)
                clear sm
                cases g
                · obtain rfl : c = 13 := by
                    rw [HCC.out, if_neg (by omega), if_pos ⟨x, List.mem_of_getElem? HX.out, of_decide_eq_false HG.out⟩]
                  go_wp2_with fail
                  go_ret
                  exact ⟨rfl, BV5⟩
                · go_wp2_with fail
                  go_roundw
                  case rel =>
                    refine ⟨j + 1, by go_num, by omega, fun y hy => ?_, BV5⟩
                    rw [take_nextL HX.out] at hy
                    rcases List.mem_append.1 hy with hy | hy
                    · exact HAL2.out y hy
                    · rw [List.mem_singleton] at hy
                      subst hy
                      exact of_decide_eq_true HG.out
                  case measure => simp [intOf]; omega
              · obtain rfl : j = k := by omega
                have hltjI : ¬ (j : Int) < (j : Int) := by omega
                have hones : ∀ y ∈ xs, onesS y.s [(a : Int)] = onesS x0.s [(a : Int)] := by
                  have h := HAL2.out
                  rw [List.take_of_length_le (by rw [HN.out]; exact Nat.le_refl _)] at h
                  exact h
                have hax : ∀ x ∈ xs, OkS x.s ∧ a < x.s.length := fun x hx => ⟨mayC_zero.1 (mayT_rank (HMX.out x hx)), by
                  have h := congrArg List.length (hones x hx)
                  rw [ones_len, ones_len] at h
                  omega⟩
                obtain rfl : c = mayC (joS a xs) := by
                  rw [HCC.out, if_neg (by omega), if_neg (fun ⟨x, hx, h⟩ => h (hones x hx))]
                  rfl
                have hjo := joined_any (HR.out.later hbj) (by rw [HN.out]; omega) (by rw [HN.out]; exact hn) hax
                rw [HN.out] at hjo
                clear hones hax
                go_wp2_with fail
                refine hjo.mono ?_
                rintro e V2 ⟨r, rfl, RS, hy⟩
                obtain ⟨p1, cp1, AP1, np1⟩ := RS.arg2
                obtain rfl := AP1.is
                have hmy := mayS_any AP1 (by unfold joS; rw [List.length_set]; have e : (xs.head?.map X2.s).getD [] = x0.s := HFS.out; rw [e]; omega)
                have BV2 : Below w.heap.size w V2 := hbj.trans (hy.mono hszj)
                obtain ⟨l3, hl3⟩ : ∃ l, (joS a xs).length = l := ⟨_, rfl⟩
                rw [hl3] at hmy
                rw [hl3]
                clear hjo RS AP1 np1 hl3
                go_wp2_with fail
                refine hmy.mono ?_
                rintro e V3 ⟨rfl, hy2⟩
                go_wp2_with fail
                go_ret
                exact ⟨rfl, BV2.trans (hy2.mono BV2.size)⟩
end Go.Proofs.YtooglnhlhgmhdaaGreat
