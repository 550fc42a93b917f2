/-
  ShapeOrder. (Made by wip/gen/gen_slaws.py.)
-/
import Derived.Test.YthlohkehacnolaaSOpen
namespace Go.Proofs.Ythlohkehacnolaa
open Go.RowKit
set_option linter.unusedVariables false
set_option linter.unusedSimpArgs false

set_option maxRecDepth 100000 in
set_option maxHeartbeats 8000000 in
theorem shapeOrder_walk (xs0 : List Int) (a0 : Option Addr) (ca0 : Nat) (w : World) (A0 : ArgS w (.slice a0 xs0.length ca0) xs0 a0 ca0) (l0 : xs0.length ≤ 17592186043904) (n0 : a0 = none → ca0 = 0) :
    Calls Try.prog 7 #[.slice a0 xs0.length ca0] w fun e w' => e = .returned (.bool true) ∧ Below w.heap.size w w' := by
  have m1 := mayR6_any A0
  obtain ⟨L, hL⟩ : ∃ L, xs0.length = L := ⟨_, rfl⟩
  by_cases hm0 : mayC xs0 = 0
  · have ok := mayC_zero.1 hm0
    have hix := indexesR_any A0 ok
    have hP1 := prodS_pos ok.pos
    have hP2 := ok.few
    have hcn := fun W (hb : Below w.heap.size w W) => countS_any (A0.later hb) (by omega)
    have hid := fun n (h0 : -9223372036854775808 ≤ n) (h1 : n ≤ 9223372036854775807) W (hb : Below w.heap.size w W) => indexS_any n (A0.later hb) n0 (by omega) h0 h1
    simp only [ok.count] at hcn
    obtain ⟨P, hP⟩ : ∃ P : Nat, (prodS xs0).toNat = P := ⟨_, rfl⟩
    have hPI : prodS xs0 = (P : Int) := by omega
    have hP3 : 1 ≤ P := by omega
    have hP4 : P ≤ 1024 := by omega
    have hin : ∀ k : Nat, k < P → idxC xs0 (k : Int) = 0 ∧ idxV xs0 (k : Int) = idxS xs0 (k : Int) := fun k hk => by
      have h := idxC_in hm0 (show 0 ≤ (k : Int) by omega) (by rw [hPI]; omega)
      exact ⟨h, idxV_in h⟩
    rw [hm0, hL] at m1
    rw [hL, hP] at hix
    simp only [hL, hPI] at hcn
    simp only [hL] at hid
    have HIN := Lib.hid hin
    have HL := Lib.hid hL
    have h4 : L ≤ 4 := by rw [← hL]; exact ok.rank
    rw [hL]
    clear A0 l0 n0 hL ok hP hPI hP1 hP2 hm0 hin
    go_enter Try.func7, Try.ntmps7
    go_wp2_with fail
    refine m1.mono ?_
    rintro e w1 ⟨rfl, rfl⟩
    clear m1
    go_wp2_with fail
    refine hix.mono ?_
    rintro e w2 ⟨r2, rfl, R, hb2⟩
    clear hix
    obtain ⟨g, cap, rfl, hg, hkc, hcap, hcells⟩ := R.slice (by intro e; have := congrArg List.length e; rw [allS_length] at this; simp at this; omega)
    rw [allS_length] at R ⊢
    have HR := Lib.hid R
    have hs2 := hb2.size
    clear R hcells hcap hkc
    go_wp2_with fail
    refine (hcn _ hb2).mono ?_
    rintro e w3 ⟨rfl, hb3⟩
    have hn3 : ((P : Int) != (P : Int)) = false := by simp
    clear hcn
    go_wp2_with fail
    go_loopw [4] (fun i wr => ∃ k : Nat, i = .int .i64 (k : Int) ∧ k ≤ P ∧ Below w2.heap.size w2 wr) (fun i _ => P - (intOf i).toNat)
    case atStart => exact ⟨0, rfl, Nat.zero_le _, hb3⟩
    case round =>
      obtain ⟨k, rfl, hkP, hb⟩ := hrel
      have hB := hb2.trans (hb.mono hs2)
      have hsr := hb.size
      have hSR := hB.size
      by_cases hlt : k < P
      · obtain ⟨i1, i2⟩ := HIN.out k hlt
        have hi := hid (k : Int) (by omega) (by omega) wr hB
        rw [i1, i2] at hi
        have hltI : (k : Int) < (P : Int) := by omega
        have hk0 : (0 : Int) ≤ (k : Int) := by omega
        clear i1 i2
        go_wp2_with fail
        refine hi.mono ?_
        rintro e w4 ⟨r4, rfl, R4, hb4⟩
        have hB4 := hB.trans (hb4.mono hSR)
        have hb24 := hb.trans (hb4.mono hsr)
        obtain ⟨b4, c4, rfl, Q4, A4, n4⟩ := R4.slice
        obtain ⟨g', cap', e', _, _, _, hcells⟩ := (HR.out.later hb24).slice (by intro e; have := congrArg List.length e; rw [allS_length] at this; simp at this; omega)
        simp only [Value.slice.injEq, Option.some.injEq, Addr.mk.injEq, and_true, true_and] at e'
        obtain ⟨rfl, hxx, rfl⟩ := e'
        clear hxx
        rw [allS_length] at hcells
        obtain ⟨uv, hcu, RU⟩ := hcells k hlt
        rw [allS_at xs0 hlt] at RU
        obtain ⟨bd, cb2, rfl, RU', BU, hbn⟩ := RU.slice
        have hil : (idxS xs0 (k : Int)).length = L := by rw [idx_length]; exact HL.out
        have hsame := sameL_any A4 BU (by rw [hil]; omega)
        rw [decide_eq_true rfl, hil] at hsame
        rw [hil] at hcu ⊢
        clear hi R4 Q4 A4 n4 RU RU' BU hbn hcells hil
        go_wp2_with (go_at_call 24; refine hsame.mono ?_; rintro e w5 ⟨rfl, hb5⟩)
        go_roundw
        case rel => exact ⟨k + 1, by go_num, by omega, hb24.trans (hb5.mono hb24.size)⟩
        case measure => simp [intOf]; omega
      · obtain rfl : k = P := by omega
        have hltI : ¬ (k : Int) < (k : Int) := by omega
        clear hid
        go_wp2_with fail
        refine (known6_any _).mono ?_
        rintro e w4 ⟨rfl, hb4⟩
        go_wp2_with fail
        go_ret
        exact ⟨rfl, hB.trans (hb4.mono hSR)⟩
  · obtain ⟨c, hc⟩ : ∃ c, mayC xs0 = c := ⟨_, rfl⟩
    rw [hc, hL] at m1
    rw [hc] at hm0
    have hne : (c != 0) = true := bne_iff_ne.2 hm0
    rw [hL]
    clear A0 l0 n0 hL hc hm0
    go_enter Try.func7, Try.ntmps7
    have B0 : Below w.heap.size w w := Below.refl _ _
    have S0 := B0.size
    go_wp2_with fail
    refine (m1).mono ?_
    rintro e w1 ⟨rfl, rfl⟩
    go_wp2_with fail
    refine (known6_any _).mono ?_
    rintro e w1 ⟨rfl, hb⟩
    have B1 := B0.trans (hb.mono S0)
    have S1 := B1.size
    clear hb
    go_wp2_with fail
    go_ret
    exact ⟨rfl, B1⟩

namespace shapeOrder
open Go.ChangeShapes Go.WideShapes Go.ChangeAt
theorem contract (H : Type) (enc : TypeId × Value → H) (W : World) (base : Nat) (args : Array Value) (ds gs : List (DataW H)) (before : List MemPlace)
    (hval : ∀ (j : Nat) t v, Try.f7.params[j]? = some t → args[j]? = some v → Value.okWide Try.prog W .any base t v)
    (hW : DataW.Whole enc Try.prog Try.f7.params.toList Rows.shapeOrderSpec.vars false W args.toList ds gs before) (hsz0 : (DataW.weightsEach Try.prog (Try.f7.params.toList ++ Rows.shapeOrderSpec.plain.varTypes Try.prog) (ds ++ gs)).all (· ≤ reachBytes) = true) :
    Calls Try.prog 7 args W fun e W' => ∃ v, e = .returned v ∧ Rows.shapeOrderSpec.post enc Try.prog Try.f7 false true false false W args v W' := by
  have hW' := hW
  have hlt := fun p hp => hW'.lt p hp
  have hsz : (DataW.weightsEach Try.prog (Try.f7.params.toList ++ []) (ds ++ gs)).all (· ≤ reachBytes) = true := hsz0
  obtain ⟨p, q, hA0, hV, rfl, hfz, hnd⟩ := hW
  have hA : DataW.TrodAll enc Try.prog W 0 (fun _ => true) true Try.f7.params.toList args.toList ds p := hA0
  rw [Try.params7] at hA hval hsz
  obtain ⟨v0, vs0, d0, ds0, p0, q0, ha0, rfl, rfl, h0, r0⟩ := trodAll_cons hA
  obtain ⟨rfl, rfl, rfl⟩ := trodAll_nil r0
  obtain rfl : args = #[v0] := by cases args; simp_all
  obtain ⟨rfl, rfl⟩ := trodVars_none hV
  clear hA hA0 hV
  simp only [List.append_nil] at hW' hlt hsz
  (try simp only [List.nil_append] at hW' hlt hsz)
  obtain ⟨a0, xs0, ca0, A0, l0, n0⟩ := open_shape (okWide_slice Try.underlying23 (hval 0 23 v0 rfl rfl)) h0 (reach_shape hsz (j := 0) rfl rfl)
  have e0 := A0.is
  subst e0
  refine (shapeOrder_walk xs0 a0 ca0 W A0 l0 n0).mono fun e W' ⟨he, hb⟩ => ?_
  subst he
  have t0 := Below.trod laid (by kernel_rfl) (of_decide_eq_true (by kernel_rfl)) h0 hb (fun x hx => hlt x (by simp [hx]))
  exact ⟨_, rfl, [d0], [], p0, [], (p0 ++ []), [], hW', trodAll_cons_mk (shut_bool Try.underlying4 _) trodAll_mk0,
    (trodAll_cons_mk t0 trodAll_mk0), rfl, hb.frame _, fun h => by cases h⟩

set_option maxRecDepth 100000 in
theorem lifted (os : Os) (started : os.Started) (H : Type) (enc : TypeId × Value → H) :
    ReturnsInHanded {} Try.checked os 7 .any (Rows.shapeOrderSpec.pre6 enc Try.prog Try.f7 Rows.shapeOrderRow.domain false) (Rows.shapeOrderSpec.post enc Try.prog Try.f7 false true false false) := by
  refine returnsInHanded_of_change_sized (C := Try.checked) own started (by kernel_rfl) Try.func7
    (ChangeSpec.witness6 (enc := enc) (C := Try.checked) false ⟨#[], #[.slice none 0 0], []⟩ 8 (by kernel_rfl) (by kernel_rfl) (by kernel_rfl) (by kernel_rfl)) ?_
  intro W base args ds gs before hval hW _ hsz0 _
  exact contract H enc W base args ds gs before hval hW hsz0

theorem proved : Rows.ShapeOrderSaid :=
  OpenClaim.holds_of_wide 7 Try.f7 rfl rfl rfl rfl rfl rfl rfl ⟨rfl, rfl, rfl, rfl, rfl⟩ rfl rfl rfl rfl rfl (by kernel_rfl) Try.func7 (by kernel_rfl)
    (of_decide_eq_true (by kernel_rfl)) (by unfold Func.isWrapper; first | (rw [if_pos (by decide +kernel)]; kernel_rfl) | (rw [if_neg (by decide +kernel)]; exact ⟨rfl, rfl⟩))
    (fun os started H enc _ => lifted os started H enc)
end shapeOrder
end Go.Proofs.Ythlohkehacnolaa
