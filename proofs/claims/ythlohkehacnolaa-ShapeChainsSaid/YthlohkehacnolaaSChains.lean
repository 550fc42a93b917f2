/-
  ShapeChains. (Made by wip/gen/gen_slaws.py.)
-/
import Derived.Test.YthlohkehacnolaaSOpen
import Derived.Test.YthlohkehacnolaaSFacts
namespace Go.Proofs.Ythlohkehacnolaa
open Go.RowKit
set_option linter.unusedVariables false
set_option linter.unusedSimpArgs false

set_option maxRecDepth 100000 in
set_option maxHeartbeats 8000000 in
theorem shapeChains_walk (xs0 : List Int) (a0 : Option Addr) (ca0 : Nat) (xs1 : List Int) (a1 : Option Addr) (ca1 : Nat) (xs2 : List Int) (a2 : Option Addr) (ca2 : Nat) (w : World) (A0 : ArgS w (.slice a0 xs0.length ca0) xs0 a0 ca0) (l0 : xs0.length ≤ 17592186043904) (n0 : a0 = none → ca0 = 0) (A1 : ArgS w (.slice a1 xs1.length ca1) xs1 a1 ca1) (l1 : xs1.length ≤ 17592186043904) (n1 : a1 = none → ca1 = 0) (A2 : ArgS w (.slice a2 xs2.length ca2) xs2 a2 ca2) (l2 : xs2.length ≤ 17592186043904) (n2 : a2 = none → ca2 = 0) :
    Calls Try.prog 11 #[.slice a0 xs0.length ca0, .slice a1 xs1.length ca1, .slice a2 xs2.length ca2] w fun e w' => e = .returned (.bool true) ∧ Below w.heap.size w w' := by
  have hfits : ∀ (W : World), Below w.heap.size w W → (∀ (u v : List Int) (a b : Option Addr) (ca cb : Nat), ArgS W (.slice a u.length ca) u a ca → ArgS W (.slice b v.length cb) v b cb → (a = none → ca = 0) → (b = none → cb = 0) → u.length ≤ 17592186044416 → v.length ≤ 17592186044416 →
      Calls Try.prog 31 #[.slice a u.length ca, .slice b v.length cb] W fun e w' => e = .returned (.int .i64 (fitC u v)) ∧ Below W.heap.size W w') := fun W _ u v a b ca cb A B ha hb h1 h2 => fitsS_any A B ha hb h1 h2
  have f1 := fun W (hb : Below w.heap.size w W) => hfits W hb xs0 xs1 a0 a1 ca0 ca1 (A0.later hb) (A1.later hb) n0 n1 (by omega) (by omega)
  have f2 := fun W (hb : Below w.heap.size w W) => hfits W hb xs1 xs2 a1 a2 ca1 ca2 (A1.later hb) (A2.later hb) n1 n2 (by omega) (by omega)
  have f3 := fun W (hb : Below w.heap.size w W) => hfits W hb xs0 xs2 a0 a2 ca0 ca2 (A0.later hb) (A2.later hb) n0 n2 (by omega) (by omega)
  have f4 := fun W (hb : Below w.heap.size w W) => hfits W hb xs0 xs0 a0 a0 ca0 ca0 (A0.later hb) (A0.later hb) n0 n0 (by omega) (by omega)
  have f5 := fun W (hb : Below w.heap.size w W) => hfits W hb [] xs0 none a0 0 ca0 (nil_argS W) (A0.later hb) (fun _ => rfl) n0 (by simp) (by omega)
  have f6 := fun W (hb : Below w.heap.size w W) => hfits W hb xs1 xs0 a1 a0 ca1 ca0 (A1.later hb) (A0.later hb) n1 n0 (by omega) (by omega)
  have g1 := fun W (hb : Below w.heap.size w W) => grownC_any (A0.later hb) (A0.later hb) n0 n0 (by omega) (by omega)
  have g2 := fun W (hb : Below w.heap.size w W) => grownC_any (nil_argS W) (A0.later hb) (fun _ => rfl) n0 (by simp) (by omega)
  have s1 := fun W (hb : Below w.heap.size w W) => sameS_any (A0.later hb) (A1.later hb) n0 n1 (by omega) (by omega)
  have m1 := fun W (hb : Below w.heap.size w W) => mayS_any (A0.later hb) (by omega)
  have htr : fitC xs0 xs1 = 0 → fitC xs1 xs2 = 0 → fitC xs0 xs2 = 0 := fit_trans
  have hok : mayC xs0 = 0 → fitC xs0 xs0 = 0 ∧ grownS xs0 xs0 = [] ∧ fitC [] xs0 = 0 ∧ (grownS [] xs0).length = xs0.length := fun h => by
    have ok := mayC_zero.1 h
    exact ⟨fit_self ok, grown_self ok, fit_nil ok, grown_nil ok⟩
  have hbo : fitC xs0 xs1 = 0 → fitC xs1 xs0 = 0 → xs0 = xs1 := fit_both
  obtain ⟨P, hP⟩ : ∃ P, decide (xs0 = xs1) = P := ⟨_, rfl⟩
  have hbo2 : fitC xs0 xs1 = 0 → fitC xs1 xs0 = 0 → P = true := fun h1 h2 => by rw [← hP]; exact decide_eq_true (hbo h1 h2)
  obtain ⟨L0, hL0⟩ : ∃ L, xs0.length = L := ⟨_, rfl⟩
  obtain ⟨L1, hL1⟩ : ∃ L, xs1.length = L := ⟨_, rfl⟩
  obtain ⟨L2, hL2⟩ : ∃ L, xs2.length = L := ⟨_, rfl⟩
  obtain ⟨c01, h01⟩ : ∃ c, fitC xs0 xs1 = c := ⟨_, rfl⟩
  obtain ⟨c12, h12⟩ : ∃ c, fitC xs1 xs2 = c := ⟨_, rfl⟩
  obtain ⟨c02, h02⟩ : ∃ c, fitC xs0 xs2 = c := ⟨_, rfl⟩
  obtain ⟨c10, h10⟩ : ∃ c, fitC xs1 xs0 = c := ⟨_, rfl⟩
  obtain ⟨c00, h00⟩ : ∃ c, fitC xs0 xs0 = c := ⟨_, rfl⟩
  obtain ⟨cn0, hn0⟩ : ∃ c, fitC [] xs0 = c := ⟨_, rfl⟩
  obtain ⟨mc, hmc⟩ : ∃ c, mayC xs0 = c := ⟨_, rfl⟩
  obtain ⟨q1, hq1⟩ : ∃ q, grownS xs0 xs0 = q := ⟨_, rfl⟩
  obtain ⟨q2, hq2⟩ : ∃ q, grownS [] xs0 = q := ⟨_, rfl⟩
  simp only [hL0, hL1, h01] at f1
  simp only [hL1, hL2, h12] at f2
  simp only [hL0, hL2, h02] at f3
  simp only [hL0, h00] at f4
  simp only [List.length_nil, hL0, hn0] at f5
  simp only [hL0, hL1, h10] at f6
  simp only [hL0, hq1] at g1
  simp only [hL0, hq2] at g2
  simp only [hL0, hL1, hP] at s1
  simp only [hL0, hmc] at m1
  rw [h01, h12, h02] at htr
  rw [h00, hn0, hmc, hq1, hq2, hL0] at hok
  rw [h01, h10] at hbo2
  rw [hL0, hL1, hL2]
  have HTR := Lib.hid htr
  have HOK := Lib.hid hok
  have HBO := Lib.hid hbo2
  clear hfits A0 A1 A2 l0 l1 l2 n0 n1 n2 hbo hP hL0 hL1 hL2 h01 h12 h02 h10 h00 hn0 hmc hq1 hq2 htr hok hbo2
  go_enter Try.func11, Try.ntmps11
  have B0 : Below w.heap.size w w := Below.refl _ _
  have S0 := B0.size
  go_wp2_with fail
  refine (f1 _ B0).mono ?_
  rintro e w1 ⟨rfl, hb⟩
  have B1 := B0.trans (hb.mono S0)
  have S1 := B1.size
  clear hb
  go_wp2_with fail
  refine (f2 _ B1).mono ?_
  rintro e w2 ⟨rfl, hb⟩
  have B2 := B1.trans (hb.mono S1)
  have S2 := B2.size
  clear hb
  go_wp2_with fail
  refine (f3 _ B2).mono ?_
  rintro e w3 ⟨rfl, hb⟩
  have B3 := B2.trans (hb.mono S2)
  have S3 := B3.size
  clear hb
  by_cases y1 : c01 = 0
  · have d1 : (c01 == 0) = true := beq_iff_eq.2 y1
    have Y1 := Lib.hid y1
    by_cases y2 : c12 = 0
    · have d2 : (c12 == 0) = true := beq_iff_eq.2 y2
      have y3 := HTR.out y1 y2
      have d3 : (c02 != 0) = false := by rw [y3]; rfl
      clear y1 y2 y3
      go_wp2_with fail
      refine (m1 _ B3).mono ?_
      rintro e w4 ⟨rfl, hb⟩
      have B4 := B3.trans (hb.mono S3)
      have S4 := B4.size
      clear hb
      by_cases t5 : mc = 0
      · have e5 : (mc == 0) = true := beq_iff_eq.2 t5
        obtain ⟨rfl, rfl, rfl, hl2⟩ := HOK.out t5
        go_wp2_with fail
        refine (f4 _ B4).mono ?_
        rintro e w5 ⟨rfl, hb⟩
        have B5 := B4.trans (hb.mono S4)
        have S5 := B5.size
        clear hb
        go_wp2_with fail
        refine (g1 _ B5).mono ?_
        rintro e w6 ⟨r1, rfl, R1, hb⟩
        have B6 := B5.trans (hb.mono S5)
        have S6 := B6.size
        obtain ⟨b1, c1, rfl, _, _, _⟩ := R1.slice
        clear R1
        clear hb
        go_wp2_with fail
        refine (f5 _ B6).mono ?_
        rintro e w7 ⟨rfl, hb⟩
        have B7 := B6.trans (hb.mono S6)
        have S7 := B7.size
        clear hb
        go_wp2_with fail
        refine (g2 _ B7).mono ?_
        rintro e w8 ⟨r2, rfl, R2, hb⟩
        have B8 := B7.trans (hb.mono S7)
        have S8 := B8.size
        obtain ⟨b2, c2, rfl, _, _, _⟩ := R2.slice
        clear R2
        rw [hl2]
        have e6 : ((L0 : Int) != (L0 : Int)) = false := by simp
        clear hb
        go_wp2_with fail
        refine (f6 _ B8).mono ?_
        rintro e w9 ⟨rfl, hb⟩
        have B9 := B8.trans (hb.mono S8)
        have S9 := B9.size
        clear hb
        by_cases t1 : c10 = 0
        · have e2 : (c10 == 0) = true := beq_iff_eq.2 t1
          obtain rfl := HBO.out Y1.out t1
          go_wp2_with fail
          refine (s1 _ B9).mono ?_
          rintro e w10 ⟨rfl, hb⟩
          have B10 := B9.trans (hb.mono S9)
          have S10 := B10.size
          clear hb
          go_wp2_with fail
          refine (known6_any _).mono ?_
          rintro e w11 ⟨rfl, hb⟩
          have B11 := B10.trans (hb.mono S10)
          have S11 := B11.size
          clear hb
          go_wp2_with fail
          go_ret
          exact ⟨rfl, B11⟩
        · have e2 : (c10 == 0) = false := beq_eq_false_iff_ne.2 t1
          go_wp2_with fail
          refine (known6_any _).mono ?_
          rintro e w10 ⟨rfl, hb⟩
          have B10 := B9.trans (hb.mono S9)
          have S10 := B10.size
          clear hb
          go_wp2_with fail
          go_ret
          exact ⟨rfl, B10⟩
      · have e5 : (mc == 0) = false := beq_eq_false_iff_ne.2 t5
        go_wp2_with fail
        refine (f6 _ B4).mono ?_
        rintro e w5 ⟨rfl, hb⟩
        have B5 := B4.trans (hb.mono S4)
        have S5 := B5.size
        clear hb
        by_cases t1 : c10 = 0
        · have e2 : (c10 == 0) = true := beq_iff_eq.2 t1
          obtain rfl := HBO.out Y1.out t1
          go_wp2_with fail
          refine (s1 _ B5).mono ?_
          rintro e w6 ⟨rfl, hb⟩
          have B6 := B5.trans (hb.mono S5)
          have S6 := B6.size
          clear hb
          go_wp2_with fail
          refine (known6_any _).mono ?_
          rintro e w7 ⟨rfl, hb⟩
          have B7 := B6.trans (hb.mono S6)
          have S7 := B7.size
          clear hb
          go_wp2_with fail
          go_ret
          exact ⟨rfl, B7⟩
        · have e2 : (c10 == 0) = false := beq_eq_false_iff_ne.2 t1
          go_wp2_with fail
          refine (known6_any _).mono ?_
          rintro e w6 ⟨rfl, hb⟩
          have B6 := B5.trans (hb.mono S5)
          have S6 := B6.size
          clear hb
          go_wp2_with fail
          go_ret
          exact ⟨rfl, B6⟩
    · have d2 : (c12 == 0) = false := beq_eq_false_iff_ne.2 y2
      clear y1
      go_wp2_with fail
      refine (m1 _ B3).mono ?_
      rintro e w4 ⟨rfl, hb⟩
      have B4 := B3.trans (hb.mono S3)
      have S4 := B4.size
      clear hb
      by_cases t5 : mc = 0
      · have e5 : (mc == 0) = true := beq_iff_eq.2 t5
        obtain ⟨rfl, rfl, rfl, hl2⟩ := HOK.out t5
        go_wp2_with fail
        refine (f4 _ B4).mono ?_
        rintro e w5 ⟨rfl, hb⟩
        have B5 := B4.trans (hb.mono S4)
        have S5 := B5.size
        clear hb
        go_wp2_with fail
        refine (g1 _ B5).mono ?_
        rintro e w6 ⟨r1, rfl, R1, hb⟩
        have B6 := B5.trans (hb.mono S5)
        have S6 := B6.size
        obtain ⟨b1, c1, rfl, _, _, _⟩ := R1.slice
        clear R1
        clear hb
        go_wp2_with fail
        refine (f5 _ B6).mono ?_
        rintro e w7 ⟨rfl, hb⟩
        have B7 := B6.trans (hb.mono S6)
        have S7 := B7.size
        clear hb
        go_wp2_with fail
        refine (g2 _ B7).mono ?_
        rintro e w8 ⟨r2, rfl, R2, hb⟩
        have B8 := B7.trans (hb.mono S7)
        have S8 := B8.size
        obtain ⟨b2, c2, rfl, _, _, _⟩ := R2.slice
        clear R2
        rw [hl2]
        have e6 : ((L0 : Int) != (L0 : Int)) = false := by simp
        clear hb
        go_wp2_with fail
        refine (f6 _ B8).mono ?_
        rintro e w9 ⟨rfl, hb⟩
        have B9 := B8.trans (hb.mono S8)
        have S9 := B9.size
        clear hb
        by_cases t1 : c10 = 0
        · have e2 : (c10 == 0) = true := beq_iff_eq.2 t1
          obtain rfl := HBO.out Y1.out t1
          go_wp2_with fail
          refine (s1 _ B9).mono ?_
          rintro e w10 ⟨rfl, hb⟩
          have B10 := B9.trans (hb.mono S9)
          have S10 := B10.size
          clear hb
          go_wp2_with fail
          refine (known6_any _).mono ?_
          rintro e w11 ⟨rfl, hb⟩
          have B11 := B10.trans (hb.mono S10)
          have S11 := B11.size
          clear hb
          go_wp2_with fail
          go_ret
          exact ⟨rfl, B11⟩
        · have e2 : (c10 == 0) = false := beq_eq_false_iff_ne.2 t1
          go_wp2_with fail
          refine (known6_any _).mono ?_
          rintro e w10 ⟨rfl, hb⟩
          have B10 := B9.trans (hb.mono S9)
          have S10 := B10.size
          clear hb
          go_wp2_with fail
          go_ret
          exact ⟨rfl, B10⟩
      · have e5 : (mc == 0) = false := beq_eq_false_iff_ne.2 t5
        go_wp2_with fail
        refine (f6 _ B4).mono ?_
        rintro e w5 ⟨rfl, hb⟩
        have B5 := B4.trans (hb.mono S4)
        have S5 := B5.size
        clear hb
        by_cases t1 : c10 = 0
        · have e2 : (c10 == 0) = true := beq_iff_eq.2 t1
          obtain rfl := HBO.out Y1.out t1
          go_wp2_with fail
          refine (s1 _ B5).mono ?_
          rintro e w6 ⟨rfl, hb⟩
          have B6 := B5.trans (hb.mono S5)
          have S6 := B6.size
          clear hb
          go_wp2_with fail
          refine (known6_any _).mono ?_
          rintro e w7 ⟨rfl, hb⟩
          have B7 := B6.trans (hb.mono S6)
          have S7 := B7.size
          clear hb
          go_wp2_with fail
          go_ret
          exact ⟨rfl, B7⟩
        · have e2 : (c10 == 0) = false := beq_eq_false_iff_ne.2 t1
          go_wp2_with fail
          refine (known6_any _).mono ?_
          rintro e w6 ⟨rfl, hb⟩
          have B6 := B5.trans (hb.mono S5)
          have S6 := B6.size
          clear hb
          go_wp2_with fail
          go_ret
          exact ⟨rfl, B6⟩
  · have d1 : (c01 == 0) = false := beq_eq_false_iff_ne.2 y1
    go_wp2_with fail
    refine (m1 _ B3).mono ?_
    rintro e w4 ⟨rfl, hb⟩
    have B4 := B3.trans (hb.mono S3)
    have S4 := B4.size
    clear hb
    by_cases t5 : mc = 0
    · have e5 : (mc == 0) = true := beq_iff_eq.2 t5
      obtain ⟨rfl, rfl, rfl, hl2⟩ := HOK.out t5
      go_wp2_with fail
      refine (f4 _ B4).mono ?_
      rintro e w5 ⟨rfl, hb⟩
      have B5 := B4.trans (hb.mono S4)
      have S5 := B5.size
      clear hb
      go_wp2_with fail
      refine (g1 _ B5).mono ?_
      rintro e w6 ⟨r1, rfl, R1, hb⟩
      have B6 := B5.trans (hb.mono S5)
      have S6 := B6.size
      obtain ⟨b1, c1, rfl, _, _, _⟩ := R1.slice
      clear R1
      clear hb
      go_wp2_with fail
      refine (f5 _ B6).mono ?_
      rintro e w7 ⟨rfl, hb⟩
      have B7 := B6.trans (hb.mono S6)
      have S7 := B7.size
      clear hb
      go_wp2_with fail
      refine (g2 _ B7).mono ?_
      rintro e w8 ⟨r2, rfl, R2, hb⟩
      have B8 := B7.trans (hb.mono S7)
      have S8 := B8.size
      obtain ⟨b2, c2, rfl, _, _, _⟩ := R2.slice
      clear R2
      rw [hl2]
      have e6 : ((L0 : Int) != (L0 : Int)) = false := by simp
      clear hb
      go_wp2_with fail
      refine (known6_any _).mono ?_
      rintro e w9 ⟨rfl, hb⟩
      have B9 := B8.trans (hb.mono S8)
      have S9 := B9.size
      clear hb
      go_wp2_with fail
      go_ret
      exact ⟨rfl, B9⟩
    · have e5 : (mc == 0) = false := beq_eq_false_iff_ne.2 t5
      go_wp2_with fail
      refine (known6_any _).mono ?_
      rintro e w5 ⟨rfl, hb⟩
      have B5 := B4.trans (hb.mono S4)
      have S5 := B5.size
      clear hb
      go_wp2_with fail
      go_ret
      exact ⟨rfl, B5⟩

namespace shapeChains
open Go.ChangeShapes Go.WideShapes Go.ChangeAt
theorem contract (H : Type) (enc : TypeId × Value → H) (W : World) (base : Nat) (args : Array Value) (ds gs : List (DataW H)) (before : List MemPlace)
    (hval : ∀ (j : Nat) t v, Try.f11.params[j]? = some t → args[j]? = some v → Value.okWide Try.prog W .any base t v)
    (hW : DataW.Whole enc Try.prog Try.f11.params.toList Rows.shapeChainsSpec.vars false W args.toList ds gs before) (hsz0 : (DataW.weightsEach Try.prog (Try.f11.params.toList ++ Rows.shapeChainsSpec.plain.varTypes Try.prog) (ds ++ gs)).all (· ≤ reachBytes) = true) :
    Calls Try.prog 11 args W fun e W' => ∃ v, e = .returned v ∧ Rows.shapeChainsSpec.post enc Try.prog Try.f11 false true false false W args v W' := by
  have hW' := hW
  have hlt := fun p hp => hW'.lt p hp
  have hsz : (DataW.weightsEach Try.prog (Try.f11.params.toList ++ []) (ds ++ gs)).all (· ≤ reachBytes) = true := hsz0
  obtain ⟨p, q, hA0, hV, rfl, hfz, hnd⟩ := hW
  have hA : DataW.TrodAll enc Try.prog W 0 (fun _ => true) true Try.f11.params.toList args.toList ds p := hA0
  rw [Try.params11] at hA hval hsz
  obtain ⟨v0, vs0, d0, ds0, p0, q0, ha0, rfl, rfl, h0, r0⟩ := trodAll_cons hA
  obtain ⟨v1, vs1, d1, ds1, p1, q1, ha1, rfl, rfl, h1, r1⟩ := trodAll_cons r0
  obtain ⟨v2, vs2, d2, ds2, p2, q2, ha2, rfl, rfl, h2, r2⟩ := trodAll_cons r1
  obtain ⟨rfl, rfl, rfl⟩ := trodAll_nil r2
  subst ha1
  subst ha2
  obtain rfl : args = #[v0, v1, v2] := by cases args; simp_all
  obtain ⟨rfl, rfl⟩ := trodVars_none hV
  clear hA hA0 hV
  simp only [List.append_nil] at hW' hlt hsz
  (try simp only [List.nil_append] at hW' hlt hsz)
  obtain ⟨a0, xs0, ca0, A0, l0, n0⟩ := open_shape (okWide_slice Try.underlying23 (hval 0 23 v0 rfl rfl)) h0 (reach_shape hsz (j := 0) rfl rfl)
  have e0 := A0.is
  subst e0
  obtain ⟨a1, xs1, ca1, A1, l1, n1⟩ := open_shape (okWide_slice Try.underlying23 (hval 1 23 v1 rfl rfl)) h1 (reach_shape hsz (j := 1) rfl rfl)
  have e1 := A1.is
  subst e1
  obtain ⟨a2, xs2, ca2, A2, l2, n2⟩ := open_shape (okWide_slice Try.underlying23 (hval 2 23 v2 rfl rfl)) h2 (reach_shape hsz (j := 2) rfl rfl)
  have e2 := A2.is
  subst e2
  refine (shapeChains_walk xs0 a0 ca0 xs1 a1 ca1 xs2 a2 ca2 W A0 l0 n0 A1 l1 n1 A2 l2 n2).mono fun e W' ⟨he, hb⟩ => ?_
  subst he
  have t0 := Below.trod laid (by kernel_rfl) (of_decide_eq_true (by kernel_rfl)) h0 hb (fun x hx => hlt x (by simp [hx]))
  have t1 := Below.trod laid (by kernel_rfl) (of_decide_eq_true (by kernel_rfl)) h1 hb (fun x hx => hlt x (by simp [hx]))
  have t2 := Below.trod laid (by kernel_rfl) (of_decide_eq_true (by kernel_rfl)) h2 hb (fun x hx => hlt x (by simp [hx]))
  exact ⟨_, rfl, [d0, d1, d2], [], (p0 ++ (p1 ++ p2)), [], (p0 ++ (p1 ++ (p2 ++ []))), [], hW', trodAll_cons_mk (shut_bool Try.underlying4 _) trodAll_mk0,
    (trodAll_cons_mk t0 (trodAll_cons_mk t1 (trodAll_cons_mk t2 trodAll_mk0))), rfl, hb.frame _, fun h => by cases h⟩

set_option maxRecDepth 100000 in
theorem lifted (os : Os) (started : os.Started) (H : Type) (enc : TypeId × Value → H) :
    ReturnsInHanded {} Try.checked os 11 .any (Rows.shapeChainsSpec.pre6 enc Try.prog Try.f11 Rows.shapeChainsRow.domain false) (Rows.shapeChainsSpec.post enc Try.prog Try.f11 false true false false) := by
  refine returnsInHanded_of_change_sized (C := Try.checked) own started (by kernel_rfl) Try.func11
    (ChangeSpec.witness6 (enc := enc) (C := Try.checked) false ⟨#[], #[.slice none 0 0, .slice none 0 0, .slice none 0 0], []⟩ 8 (by kernel_rfl) (by kernel_rfl) (by kernel_rfl) (by kernel_rfl)) ?_
  intro W base args ds gs before hval hW _ hsz0 _
  exact contract H enc W base args ds gs before hval hW hsz0

theorem proved : Rows.ShapeChainsSaid :=
  OpenClaim.holds_of_wide 11 Try.f11 rfl rfl rfl rfl rfl rfl rfl ⟨rfl, rfl, rfl, rfl, rfl⟩ rfl rfl rfl rfl rfl (by kernel_rfl) Try.func11 (by kernel_rfl)
    (of_decide_eq_true (by kernel_rfl)) (by unfold Func.isWrapper; first | (rw [if_pos (by decide +kernel)]; kernel_rfl) | (rw [if_neg (by decide +kernel)]; exact ⟨rfl, rfl⟩))
    (fun os started H enc _ => lifted os started H enc)
end shapeChains
end Go.Proofs.Ythlohkehacnolaa
