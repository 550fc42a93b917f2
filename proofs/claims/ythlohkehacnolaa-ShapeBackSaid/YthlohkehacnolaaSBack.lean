/-
  ShapeBack. (Made by wip/gen/gen_slaws.py.)
-/
import Derived.Test.YthlohkehacnolaaSOpen
import Derived.Test.YthlohkehacnolaaSFacts
import Derived.Deep.RegionHeld3
namespace Go.Proofs.Ythlohkehacnolaa
open Go.RowKit
set_option linter.unusedVariables false
set_option linter.unusedSimpArgs false

set_option maxRecDepth 100000 in
set_option maxHeartbeats 8000000 in
theorem shapeBack_walk (xs0 : List Int) (a0 : Option Addr) (ca0 : Nat) (i1 : Int) (xs2 : List Int) (a2 : Option Addr) (ca2 : Nat) (w : World) (A0 : ArgS w (.slice a0 xs0.length ca0) xs0 a0 ca0) (l0 : xs0.length ≤ 17592186043904) (n0 : a0 = none → ca0 = 0) (w1 : -9223372036854775808 ≤ i1 ∧ i1 ≤ 9223372036854775807) (A2 : ArgS w (.slice a2 xs2.length ca2) xs2 a2 ca2) (l2 : xs2.length ≤ 17592186043904) (n2 : a2 = none → ca2 = 0) :
    Calls Try.prog 6 #[.slice a0 xs0.length ca0, .int .i64 i1, .slice a2 xs2.length ca2] w fun e w' => e = .returned (.bool true) ∧ Below w.heap.size w w' := by
  have x1 := indexS_any i1 A0 n0 (by omega) w1.1 w1.2
  have m1 := fun W (hb : Below w.heap.size w W) => mayR6_any (A0.later hb)
  have k1 := fun W (hb : Below w.heap.size w W) => countR6_any (A0.later hb)
  obtain ⟨L, hL⟩ : ∃ L, xs0.length = L := ⟨_, rfl⟩
  obtain ⟨M, hM⟩ : ∃ M, xs2.length = M := ⟨_, rfl⟩
  by_cases hm0 : mayC xs0 = 0
  · have ok := mayC_zero.1 hm0
    by_cases hneg : i1 < 0
    · have hc := idxC_out (s := xs0) (n := i1) hm0 (.inl hneg)
      have hv := idxV_bad (s := xs0) (n := i1) (by rw [hc]; decide)
      rw [hc, hv, hL] at x1
      simp only [hm0, hL] at m1
      have d1 : decide (i1 < 0) = true := decide_eq_true hneg
      rw [hL, hM]
      clear A0 A2 l0 l2 n0 n2 k1 hL hM hc hv hm0
      go_enter Try.func6, Try.ntmps6
      have B0 : Below w.heap.size w w := Below.refl _ _
      have S0 := B0.size
      go_wp2_with fail
      refine (x1).mono ?_
      rintro e w1 ⟨rl, rfl, RL, hb⟩
      have B1 := B0.trans (hb.mono S0)
      have S1 := B1.size
      obtain ⟨bl, cl, rfl, _, _, _⟩ := RL.slice
      clear RL
      clear hb
      go_wp2_with fail
      refine (m1 _ B1).mono ?_
      rintro e w2 ⟨rfl, rfl⟩
      go_wp2_with fail
      refine (m1 _ B1).mono ?_
      rintro e w2 ⟨rfl, rfl⟩
      go_wp2_with fail
      refine (known6_any _).mono ?_
      rintro e w2 ⟨rfl, hb⟩
      have B2 := B1.trans (hb.mono S1)
      have S2 := B2.size
      clear hb
      go_wp2_with fail
      go_ret
      exact ⟨rfl, B2⟩
    · by_cases hge : prodS xs0 ≤ i1
      · have hc := idxC_out (s := xs0) (n := i1) hm0 (.inr (by rw [ok.count]; exact hge))
        have hv := idxV_bad (s := xs0) (n := i1) (by rw [hc]; decide)
        rw [hc, hv, hL] at x1
        simp only [hm0, hL] at m1
        simp only [ok.count, hL] at k1
        obtain ⟨P, hP⟩ : ∃ P, prodS xs0 = P := ⟨_, rfl⟩
        rw [hP] at hge
        simp only [hP] at k1
        rw [hL, hM]
        clear A0 A2 l0 l2 n0 n2 hL hM hc hv hm0 ok hP
        go_enter Try.func6, Try.ntmps6
        have B0 : Below w.heap.size w w := Below.refl _ _
        have S0 := B0.size
        go_wp2_with fail
        refine (x1).mono ?_
        rintro e w1 ⟨rl, rfl, RL, hb⟩
        have B1 := B0.trans (hb.mono S0)
        have S1 := B1.size
        obtain ⟨bl, cl, rfl, _, _, _⟩ := RL.slice
        clear RL
        clear hb
        go_wp2_with fail
        refine (m1 _ B1).mono ?_
        rintro e w2 ⟨rfl, rfl⟩
        go_wp2_with fail
        refine (k1 _ B1).mono ?_
        rintro e w2 ⟨rfl, rfl⟩
        go_wp2_with fail
        refine (m1 _ B1).mono ?_
        rintro e w2 ⟨rfl, rfl⟩
        go_wp2_with fail
        refine (known6_any _).mono ?_
        rintro e w2 ⟨rfl, hb⟩
        have B2 := B1.trans (hb.mono S1)
        have S2 := B2.size
        clear hb
        go_wp2_with fail
        go_ret
        exact ⟨rfl, B2⟩
      · have hi0 : 0 ≤ i1 := by omega
        have hi1 : i1 < prodS xs0 := by omega
        have hc := idxC_in hm0 hi0 hi1
        have hv := idxV_in hc
        obtain ⟨hin, hpl⟩ := place_idx ok.pos hi0 hi1
        have hln := idx_length xs0 i1
        rw [hc, hv] at x1
        simp only [hm0] at m1
        simp only [ok.count] at k1
        have o1 := fun W (hb : Below w.heap.size w W) (u : Value) (b : Option Addr) (cb : Nat) (B : ArgS W u (idxS xs0 i1) b cb) (hb' : b = none → cb = 0) => offsetS_any (A0.later hb) B n0 hb' (by omega) (by rw [hln]; omega)
        simp only [offC_in hm0 hin, offV_in hm0 hin, hpl] at o1
        have o2 := fun W (hb : Below w.heap.size w W) => offsetS_any (A0.later hb) (A2.later hb) n0 n2 (by omega) (by omega)
        have hstr := fun W (hb : Below w.heap.size w W) i (hi : i < xs0.length) => strideR_any (A0.later hb) ok hi
        have hsr := fun k (hk : k ≤ xs0.length) => sum_range hin ok.pos hk
        have hfew := ok.few
        have hsall := sum_all hln
        rw [hpl] at hsall
        simp only [hpl] at hsr
        have hb2 : offC xs0 xs2 = 0 → 0 ≤ offV xs0 xs2 ∧ offV xs0 xs2 < 1024 ∧ idxC xs0 (offV xs0 xs2) = 0 ∧ idxV xs0 (offV xs0 xs2) = xs2 := fun h => by
          obtain ⟨_, hin2⟩ := offC_zero h
          obtain ⟨r1, r2⟩ := place_range hin2
          rw [offV_in hm0 hin2]
          have hci := idxC_in hm0 r1 r2
          exact ⟨r1, by omega, hci, by rw [idxV_in hci, idx_place hin2]⟩
        obtain ⟨gc, hgc⟩ : ∃ c, offC xs0 xs2 = c := ⟨_, rfl⟩
        obtain ⟨mv, hmv⟩ : ∃ v, offV xs0 xs2 = v := ⟨_, rfl⟩
        rw [hgc, hmv] at hb2
        simp only [hgc, hmv, hL, hM] at o2
        have x2 := fun W (hb : Below w.heap.size w W) (h0 : 0 ≤ mv ∧ mv < 1024) => indexS_any mv (A0.later hb) n0 (by omega) (by omega) (by omega)
        obtain ⟨l, hl⟩ : ∃ l, idxS xs0 i1 = l := ⟨_, rfl⟩
        rw [hl] at hln hsall hin x1
        simp only [hl] at hsr o1
        rw [hL] at hln hsall
        simp only [hL] at m1 k1 hstr hsr x2 o1
        rw [hL] at x1
        obtain ⟨P, hP⟩ : ∃ P, prodS xs0 = P := ⟨_, rfl⟩
        rw [hP] at hi1 hfew
        simp only [hP] at k1
        have hin2 : 0 ≤ i1 ∧ i1 < 1024 := by omega
        have hge2 : ¬ P ≤ i1 := by omega
        have h4 : L ≤ 4 := by rw [← hL]; exact ok.rank
        have hel := fun k (hk : k < xs0.length) => inS_at hin hk
        simp only [hL] at hel
        have HB2 := Lib.hid hb2
        have HLN := Lib.hid hln
        have HSA := Lib.hid hsall
        have HSR := Lib.hid hsr
        have HA2 := Lib.hid A2
        have HM := Lib.hid hM
        have HMB := Lib.hid l2
        have HX2 := Lib.hid x2
        have HO2 := Lib.hid o2
        have HO1 := Lib.hid o1
        have HSTR := Lib.hid hstr
        rw [hL, hM]
        clear A0 A2 l0 l2 n0 hL hM hc hv hm0 ok hP hgc hmv hl hin hpl hb2 hln hsall hsr x2 o2 o1 hstr hge hi1 hfew
        go_enter Try.func6, Try.ntmps6
        have B0 : Below w.heap.size w w := Below.refl _ _
        have S0 := B0.size
        go_wp2_with fail
        refine (x1).mono ?_
        rintro e w1 ⟨rl, rfl, RL, hb⟩
        have B1 := B0.trans (hb.mono S0)
        have S1 := B1.size
        obtain ⟨bl, cl, rfl, _, AL, nl⟩ := RL.slice
        clear RL x1
        rw [HLN.out]
        clear hb
        go_wp2_with fail
        refine (m1 _ B1).mono ?_
        rintro e w2 ⟨rfl, rfl⟩
        go_wp2_with fail
        refine (k1 _ B1).mono ?_
        rintro e w2 ⟨rfl, rfl⟩
        have o1 := HO1.out _ B1 _ _ _ AL nl
        rw [HLN.out] at o1
        have hnL : ((L : Int) != (L : Int)) = false := by simp
        have hnp : (i1 != i1) = false := by simp
        go_wp2_with fail
        refine (o1).mono ?_
        rintro e w2 ⟨rfl, hb⟩
        have B2 := B1.trans (hb.mono S1)
        have S2 := B2.size
        have HAL := Lib.hid (AL.later hb)
        clear o1 AL
        clear hb
        clear m1 k1
        go_wp2_with fail
        go_loopw [12, 13] (fun sm i wr => ∃ k : Nat, i = .int .i64 (k : Int) ∧ k ≤ L ∧ sm = .int .i64 (sumS xs0 l k) ∧ Below w2.heap.size w2 wr) (fun _ i _ => L - (intOf i).toNat)
        case atStart => exact ⟨0, rfl, Nat.zero_le _, rfl, Below.refl _ _⟩
        case round =>
          obtain ⟨k, rfl, hkL, rfl, hb⟩ := hrel
          have hB := B2.trans (hb.mono S2)
          have hSR := hB.size
          have hsr := hb.size
          obtain ⟨s0, s1⟩ := HSR.out k hkL
          by_cases hlt : k < L
          · obtain ⟨bl2, ol, rfl, hc1⟩ := (HAL.out.later hb).at (i := k) (by rw [HLN.out]; exact hlt)
            have hsn : sumS xs0 l (k + 1) = sumS xs0 l k + l.getD k 0 * prodS (xs0.drop (k + 1)) := rfl
            obtain ⟨t0, t1⟩ := HSR.out (k + 1) (by omega)
            have hst := fun X (h : Below wr.heap.size wr X) => HSTR.out X (hB.trans (h.mono hSR)) k hlt
            obtain ⟨x, hx⟩ : ∃ x, l.getD k 0 = x := ⟨_, rfl⟩
            obtain ⟨y, hy⟩ : ∃ y, prodS (xs0.drop (k + 1)) = y := ⟨_, rfl⟩
            obtain ⟨a, ha⟩ : ∃ a, sumS xs0 l k = a := ⟨_, rfl⟩
            obtain ⟨b, hbb⟩ : ∃ b, sumS xs0 l (k + 1) = b := ⟨_, rfl⟩
            have hxn := (hel k hlt).1
            rw [hx] at hc1 hxn
            rw [hx, hy, ha, hbb] at hsn
            rw [ha] at s0 s1 ⊢
            rw [hbb] at t0 t1
            simp only [hy] at hst
            have HV1 := Lib.hid (show IntKind.i64.wrap (x * y) = x * y from IntWalk.i64_in _ (by omega))
            have HV2 := Lib.hid (show IntKind.i64.wrap (a + x * y) = b by rw [← hsn]; exact IntWalk.i64_in _ (by omega))
            have hltI : (k : Int) < (L : Int) := by omega
            have hk0 : (0 : Int) ≤ (k : Int) := by omega
            have lb1 := World.block_lt_of_cell? wr _ hc1
            have mkS : ∀ X, Below wr.heap.size wr X → X.cell? ⟨bl2, ol + k, none⟩ = some (.int .i64 x) ∧ Below wr.heap.size wr X := fun X h => ⟨(h.cell (p := ⟨bl2, ol + k, none⟩) lb1).trans hc1, h⟩
            have HBB := Lib.hid hbb
            have HSN := Lib.hid hsn
            clear hx hy ha hbb hsn lb1
            go_wp2
            go_region_held3 (fun X => X.cell? ⟨bl2, ol + k, none⟩ = some (.int .i64 x) ∧ Below wr.heap.size wr X)
              ((refine mkS _ ?_; (repeat' (first | exact Below.refl _ _ | refine Below.drew ?_ | refine Below.trans ?_ (Below.mono (by assumption) (by (try simp) <;> omega))))))
              ((go_at_call 20; (with_reducible refine (hst _ (by (repeat' (first | exact Below.refl _ _ | refine Below.drew ?_ | refine Below.trans ?_ (Below.mono (by assumption) (by (try simp) <;> omega)))))).mono ?_); rintro e v5 ⟨rfl, rfl⟩))
            all_goals
              go_wp2
              go_roundw
              case rel => exact ⟨k + 1, by go_num, by omega, by rw [HBB.out]; first | rfl | (rw [HV1.out, HV2.out]) | (congr 1; rw [HV1.out, HV2.out]), hb.trans ((show Below wr.heap.size wr _ by (repeat' (first | exact Below.refl _ _ | refine Below.drew ?_ | refine Below.trans ?_ (Below.mono (by assumption) (by (try simp) <;> omega))))).mono hsr)⟩
              case measure => simp [intOf]; omega
          · obtain rfl : k = L := by omega
            rw [HSA.out]
            have hltI : ¬ (k : Int) < (k : Int) := by omega
            have hpe : (i1 == i1) = true := by simp
            clear s0 s1
            have B3 := hB
            have S3 := hSR
            go_wp2_with fail
            refine (HO2.out _ hB).mono ?_
            rintro e w4 ⟨rfl, hb⟩
            have B4 := B3.trans (hb.mono S3)
            have S4 := B4.size
            clear hb
            by_cases hg0 : gc = 0
            · obtain ⟨v0, v1, v2, v3⟩ := HB2.out hg0
              have hge : (gc != 0) = false := by rw [hg0]; rfl
              have x2 := HX2.out _ B4 ⟨v0, v1⟩
              rw [v2, v3] at x2
              clear hg0 v2 v3
              go_wp2_with fail
              refine (x2).mono ?_
              rintro e w5 ⟨rk, rfl, RK, hb⟩
              have B5 := B4.trans (hb.mono S4)
              have S5 := B5.size
              obtain ⟨bk, ck, rfl, _, AK, nk⟩ := RK.slice
              have hsm := sameL_any AK (HA2.out.later (B4.trans (hb.mono S4))) (by have := HMB.out; omega)
              rw [decide_eq_true rfl, HM.out] at hsm
              rw [HM.out]
              clear RK AK nk x2
              clear hb
              go_wp2_with fail
              refine (hsm).mono ?_
              rintro e w6 ⟨rfl, hb⟩
              have B6 := B5.trans (hb.mono S5)
              have S6 := B6.size
              clear hsm
              clear hb
              go_wp2_with fail
              refine (known6_any _).mono ?_
              rintro e w7 ⟨rfl, hb⟩
              have B7 := B6.trans (hb.mono S6)
              have S7 := B7.size
              clear hb
              go_wp2_with fail
              go_ret
              exact ⟨rfl, B7⟩
            · have hge : (gc != 0) = true := bne_iff_ne.2 hg0
              go_wp2_with fail
              refine (known6_any _).mono ?_
              rintro e w5 ⟨rfl, hb⟩
              have B5 := B4.trans (hb.mono S4)
              have S5 := B5.size
              clear hb
              go_wp2_with fail
              go_ret
              exact ⟨rfl, B5⟩
  · have hc := idxC_may (n := i1) hm0
    have hv := idxV_bad (s := xs0) (n := i1) (by rw [hc]; exact hm0)
    rw [hc, hv] at x1
    obtain ⟨c, hcc⟩ : ∃ c, mayC xs0 = c := ⟨_, rfl⟩
    rw [hcc, hL] at x1
    simp only [hcc, hL] at m1
    rw [hcc] at hm0
    have hne : (c != 0) = true := bne_iff_ne.2 hm0
    have heq : (c == 0) = false := beq_eq_false_iff_ne.2 hm0
    rw [hL, hM]
    clear A0 A2 l0 l2 n0 n2 k1 hL hM hc hv hcc hm0
    go_enter Try.func6, Try.ntmps6
    have B0 : Below w.heap.size w w := Below.refl _ _
    have S0 := B0.size
    go_wp2_with fail
    refine (x1).mono ?_
    rintro e w1 ⟨rl, rfl, RL, hb⟩
    have B1 := B0.trans (hb.mono S0)
    have S1 := B1.size
    obtain ⟨bl, cl, rfl, _, _, _⟩ := RL.slice
    clear RL
    clear hb
    go_wp2_with fail
    refine (m1 _ B1).mono ?_
    rintro e w2 ⟨rfl, rfl⟩
    go_wp2_with fail
    refine (m1 _ B1).mono ?_
    rintro e w2 ⟨rfl, rfl⟩
    go_wp2_with fail
    refine (known6_any _).mono ?_
    rintro e w2 ⟨rfl, hb⟩
    have B2 := B1.trans (hb.mono S1)
    have S2 := B2.size
    clear hb
    go_wp2_with fail
    go_ret
    exact ⟨rfl, B2⟩

namespace shapeBack
open Go.ChangeShapes Go.WideShapes Go.ChangeAt
theorem contract (H : Type) (enc : TypeId × Value → H) (W : World) (base : Nat) (args : Array Value) (ds gs : List (DataW H)) (before : List MemPlace)
    (hval : ∀ (j : Nat) t v, Try.f6.params[j]? = some t → args[j]? = some v → Value.okWide Try.prog W .any base t v)
    (hW : DataW.Whole enc Try.prog Try.f6.params.toList Rows.shapeBackSpec.vars false W args.toList ds gs before) (hsz0 : (DataW.weightsEach Try.prog (Try.f6.params.toList ++ Rows.shapeBackSpec.plain.varTypes Try.prog) (ds ++ gs)).all (· ≤ reachBytes) = true) :
    Calls Try.prog 6 args W fun e W' => ∃ v, e = .returned v ∧ Rows.shapeBackSpec.post enc Try.prog Try.f6 false true false false W args v W' := by
  have hW' := hW
  have hlt := fun p hp => hW'.lt p hp
  have hsz : (DataW.weightsEach Try.prog (Try.f6.params.toList ++ []) (ds ++ gs)).all (· ≤ reachBytes) = true := hsz0
  obtain ⟨p, q, hA0, hV, rfl, hfz, hnd⟩ := hW
  have hA : DataW.TrodAll enc Try.prog W 0 (fun _ => true) true Try.f6.params.toList args.toList ds p := hA0
  rw [Try.params6] at hA hval hsz
  obtain ⟨v0, vs0, d0, ds0, p0, q0, ha0, rfl, rfl, h0, r0⟩ := trodAll_cons hA
  obtain ⟨v1, vs1, d1, ds1, p1, q1, ha1, rfl, rfl, h1, r1⟩ := trodAll_cons r0
  obtain ⟨v2, vs2, d2, ds2, p2, q2, ha2, rfl, rfl, h2, r2⟩ := trodAll_cons r1
  obtain ⟨rfl, rfl, rfl⟩ := trodAll_nil r2
  subst ha1
  subst ha2
  obtain rfl : args = #[v0, v1, v2] := by cases args; simp_all
  obtain ⟨rfl, rfl⟩ := trodVars_none hV
  clear hA hA0 hV
  obtain ⟨i1, rfl, rfl, rfl, w1⟩ := open_int Try.underlying3 (hval 1 3 v1 rfl rfl) h1
  simp only [List.append_nil] at hW' hlt hsz
  (try simp only [List.nil_append] at hW' hlt hsz)
  obtain ⟨a0, xs0, ca0, A0, l0, n0⟩ := open_shape (okWide_slice Try.underlying23 (hval 0 23 v0 rfl rfl)) h0 (reach_shape hsz (j := 0) rfl rfl)
  have e0 := A0.is
  subst e0
  obtain ⟨a2, xs2, ca2, A2, l2, n2⟩ := open_list (okWide_slice Try.underlying22 (hval 2 22 v2 rfl rfl)) h2 (reach_list hsz (j := 2) rfl rfl)
  have e2 := A2.is
  subst e2
  refine (shapeBack_walk xs0 a0 ca0 i1 xs2 a2 ca2 W A0 l0 n0 (wf_w64 w1) A2 l2 n2).mono fun e W' ⟨he, hb⟩ => ?_
  subst he
  have t0 := Below.trod laid (by kernel_rfl) (of_decide_eq_true (by kernel_rfl)) h0 hb (fun x hx => hlt x (by simp [hx]))
  have t2 := Below.trod laid (by kernel_rfl) (of_decide_eq_true (by kernel_rfl)) h2 hb (fun x hx => hlt x (by simp [hx]))
  exact ⟨_, rfl, [d0, .lit (.int .i64 i1), d2], [], (p0 ++ p2), [], (p0 ++ ([] ++ (p2 ++ []))), [], hW', trodAll_cons_mk (shut_bool Try.underlying4 _) trodAll_mk0,
    (trodAll_cons_mk t0 (trodAll_cons_mk (shut_int Try.underlying3 w1) (trodAll_cons_mk t2 trodAll_mk0))), rfl, hb.frame _, fun h => by cases h⟩

set_option maxRecDepth 100000 in
theorem lifted (os : Os) (started : os.Started) (H : Type) (enc : TypeId × Value → H) :
    ReturnsInHanded {} Try.checked os 6 .any (Rows.shapeBackSpec.pre6 enc Try.prog Try.f6 Rows.shapeBackRow.domain false) (Rows.shapeBackSpec.post enc Try.prog Try.f6 false true false false) := by
  refine returnsInHanded_of_change_sized (C := Try.checked) own started (by kernel_rfl) Try.func6
    (ChangeSpec.witness6 (enc := enc) (C := Try.checked) false ⟨#[], #[.slice none 0 0, .int .i64 0, .slice none 0 0], []⟩ 8 (by kernel_rfl) (by kernel_rfl) (by kernel_rfl) (by kernel_rfl)) ?_
  intro W base args ds gs before hval hW _ hsz0 _
  exact contract H enc W base args ds gs before hval hW hsz0

theorem proved : Rows.ShapeBackSaid :=
  OpenClaim.holds_of_wide 6 Try.f6 rfl rfl rfl rfl rfl rfl rfl ⟨rfl, rfl, rfl, rfl, rfl⟩ rfl rfl rfl rfl rfl (by kernel_rfl) Try.func6 (by kernel_rfl)
    (of_decide_eq_true (by kernel_rfl)) (by unfold Func.isWrapper; first | (rw [if_pos (by decide +kernel)]; kernel_rfl) | (rw [if_neg (by decide +kernel)]; exact ⟨rfl, rfl⟩))
    (fun os started H enc _ => lifted os started H enc)
end shapeBack
end Go.Proofs.Ythlohkehacnolaa
