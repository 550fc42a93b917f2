/-
  NatOrders, for arguments that hold together at most 1048576 values: the law answers true (which of two numbers is less, and that noughts at an end go), and each argument reads behind the call as it read before. No other condition.
-/
import Derived.Test.YteinfanfhgpciaaNatC
import Derived.Test.YteinfanfhgpciaaOpen2
namespace Go.Proofs.Yteinfanfhgpciaa
open Go.RowKit Go.ChangeShapes Go.WideShapes Go.ChangeAt

set_option maxRecDepth 100000 in
set_option maxHeartbeats 4000000 in
theorem natOrders_walk (u v : Value) (xs ys : List Int) (a b : Option Addr) (capa capb : Nat) (w : World) (Aa : Arg w u xs a capa) (Ab : Arg w v ys b capb) (hx : xs.length ≤ 1048576) (hy : ys.length ≤ 1048576)
    (ha : a = none → capa = 0) (hb0 : b = none → capb = 0) :
    Calls Try.prog 4 #[u, v] w fun e w' => e = .returned (.bool true) ∧ Below w.heap.size w w' := by
  have HA := Lib.hid ha
  have HB := Lib.hid hb0
  clear ha hb0
  have hW : Below w.heap.size w w := Below.refl _ _
  have hS : w.heap.size ≤ w.heap.size := Nat.le_refl _
  go_enter Try.func4, Try.ntmps4
  go_wp2_with fail
  refine (own_any Aa (by omega) HA.out).mono ?_
  rintro e W1 ⟨r1, rfl, _, ad1, cap1, A1, hn1, hb⟩
  replace Aa := Aa.later hb
  replace Ab := Ab.later hb
  replace hW := hW.trans (hb.mono hS)
  replace hS := Nat.le_trans hS hb.size
  clear hb
  go_wp2_with fail
  refine (trim_res A1 (by omega)).mono ?_
  rintro e W2 ⟨r2, l2, rfl, q2, n2, hb⟩
  replace Aa := Aa.later hb
  replace Ab := Ab.later hb
  replace A1 := A1.later hb
  replace hW := hW.trans (hb.mono hS)
  replace hS := Nat.le_trans hS hb.size
  clear hb
  obtain ⟨ad2, cap2, A2⟩ := q2.arg
  clear A1
  go_wp2_with fail
  refine (own_any Aa (by omega) HA.out).mono ?_
  rintro e W3 ⟨r3, rfl, _, ad3, cap3, A3, hn3, hb⟩
  replace Aa := Aa.later hb
  replace Ab := Ab.later hb
  replace A2 := A2.later hb
  replace hW := hW.trans (hb.mono hS)
  replace hS := Nat.le_trans hS hb.size
  clear hb
  go_wp2_with fail
  refine (own_any Ab (by omega) HB.out).mono ?_
  rintro e W4 ⟨r4, rfl, _, ad4, cap4, A4, hn4, hb⟩
  replace Aa := Aa.later hb
  replace Ab := Ab.later hb
  replace A2 := A2.later hb
  replace A3 := A3.later hb
  replace hW := hW.trans (hb.mono hS)
  replace hS := Nat.le_trans hS hb.size
  clear hb
  go_wp2_with fail
  refine (cmp_res A3 A4 (by omega) (by omega)).mono ?_
  rintro e V1 ⟨rfl, hb⟩
  replace Aa := Aa.later hb
  replace Ab := Ab.later hb
  replace A2 := A2.later hb
  replace A3 := A3.later hb
  replace A4 := A4.later hb
  replace hW := hW.trans (hb.mono hS)
  replace hS := Nat.le_trans hS hb.size
  clear hb
  clear A3 A4
  go_wp2_with fail
  refine (of_any Aa (by omega)).mono ?_
  rintro e W5 ⟨r5, rfl, l5, q5, n5, hb⟩
  replace Aa := Aa.later hb
  replace Ab := Ab.later hb
  replace A2 := A2.later hb
  replace hW := hW.trans (hb.mono hS)
  replace hS := Nat.le_trans hS hb.size
  clear hb
  obtain ⟨ad5, cap5, A5⟩ := q5.arg
  go_wp2_with fail
  refine (of_any Ab (by omega)).mono ?_
  rintro e W6 ⟨r6, rfl, l6, q6, n6, hb⟩
  replace Aa := Aa.later hb
  replace Ab := Ab.later hb
  replace A2 := A2.later hb
  replace A5 := A5.later hb
  replace hW := hW.trans (hb.mono hS)
  replace hS := Nat.le_trans hS hb.size
  clear hb
  obtain ⟨ad6, cap6, A6⟩ := q6.arg
  go_wp2_with fail
  refine (cmpD_any A5 A6 (by omega) (by omega)).mono ?_
  rintro e V2 ⟨rfl, hb⟩
  replace Aa := Aa.later hb
  replace Ab := Ab.later hb
  replace A2 := A2.later hb
  replace A5 := A5.later hb
  replace A6 := A6.later hb
  replace hW := hW.trans (hb.mono hS)
  replace hS := Nat.le_trans hS hb.size
  clear hb
  clear A5 A6
  rw [q5.eq, q6.eq]
  have hs : ∀ z : Int, (z == z) = true := fun z => by simp
  go_wp2_with fail
  refine (canonical_true A2 (by omega) q2.full).mono ?_
  rintro e w' ⟨rfl, rfl⟩
  go_wp2_with fail
  refine (equal_true A2 Aa (by omega) (by omega) q2.eq).mono ?_
  rintro e w' ⟨rfl, rfl⟩
  go_wp2_with fail
  refine (known_any _).mono ?_
  rintro e WK ⟨rfl, hb⟩
  go_wp2_with fail
  go_ret
  exact ⟨rfl, hW.trans (hb.mono hS)⟩

namespace natOrders
theorem contract (H : Type) (enc : TypeId × Value → H) (W : World) (base : Nat) (args : Array Value) (ds gs : List (DataW H)) (before : List MemPlace)
    (hval : ∀ (j : Nat) t v, Try.f4.params[j]? = some t → args[j]? = some v → Value.okWide Try.prog W .any base t v)
    (hW : DataW.Whole enc Try.prog Try.f4.params.toList Rows.natOrdersSpec.vars false W args.toList ds gs before) (hk : Rows.uptoSmall H (ds ++ gs) = true) :
    Calls Try.prog 4 args W fun e W' => ∃ v, e = .returned v ∧ Rows.natOrdersSpec.post enc Try.prog Try.f4 false true false false W args v W' := by
  have hW' := hW
  have hlt := fun p hp => hW'.lt p hp
  obtain ⟨p, q, hA0, hV, rfl, hfz, hnd⟩ := hW
  have hA : DataW.TrodAll enc Try.prog W 0 (fun _ => true) true Try.f4.params.toList args.toList ds p := hA0
  rw [Try.params4] at hA hval
  obtain ⟨v0, vs0, d0, ds0, p0, q0, hargs, rfl, rfl, h0, r0⟩ := trodAll_cons hA
  obtain ⟨v1, vs1, d1, ds1, p1, q1, hargs1, rfl, rfl, h1, r1⟩ := trodAll_cons r0
  obtain ⟨rfl, rfl, rfl⟩ := trodAll_nil r1
  subst hargs1
  obtain rfl : args = #[v0, v1] := by cases args; simp_all
  obtain ⟨rfl, rfl⟩ := trodVars_none hV
  simp only [List.append_nil] at hW' hk hlt
  obtain ⟨k0, k1⟩ := small2 hk
  have u := Try.underlying24
  obtain ⟨ad0, xs0, cap0, A0, l0, n0⟩ := open_nat2 (okWide_slice u (hval 0 24 v0 rfl rfl)) h0 k0
  obtain ⟨ad1, xs1, cap1, A1, l1, n1⟩ := open_nat2 (okWide_slice u (hval 1 24 v1 rfl rfl)) h1 k1
  refine (natOrders_walk v0 v1 xs0 xs1 ad0 ad1 cap0 cap1 W A0 A1 l0 l1 n0 n1).mono fun e W' ⟨he, hb⟩ => ?_
  subst he
  have t0 := Below.trod laid (by kernel_rfl) (of_decide_eq_true (by kernel_rfl)) h0 hb (fun x hx => hlt x (by simp [hx]))
  have t1 := Below.trod laid (by kernel_rfl) (of_decide_eq_true (by kernel_rfl)) h1 hb (fun x hx => hlt x (by simp [hx]))
  exact ⟨_, rfl, [d0, d1], [], p0 ++ p1, [], p0 ++ (p1 ++ []), [], hW', trodAll_cons_mk (shut_bool Try.underlying4 _) trodAll_mk0,
    trodAll_cons_mk t0 (trodAll_cons_mk t1 trodAll_mk0), rfl, hb.frame _, fun h => by cases h⟩

set_option maxRecDepth 100000 in
theorem lifted (os : Os) (started : os.Started) (H : Type) (enc : TypeId × Value → H) (F : Stop.Interp) :
    ReturnsInHanded {} Try.checked os 4 .any ((Rows.OpenSpec.upto Rows.natOrdersSpec).pre6 enc Try.prog Try.f4 Rows.natOrdersUptoRow.domain false) (((Rows.OpenSpec.upto Rows.natOrdersSpec).at F).post enc Try.prog Try.f4 false true false false) := by
  refine returnsInHanded_of_cond (C := Try.checked) (s := Rows.OpenSpec.upto Rows.natOrdersSpec) (k := Rows.uptoSmall) rfl own started (by kernel_rfl) Try.func4
    (OpenSpec.witness (enc := enc) (C := Try.checked) (s := Rows.OpenSpec.upto Rows.natOrdersSpec) (k := Rows.uptoSmall) rfl false ⟨#[], #[.slice none 0 0, .slice none 0 0], []⟩ 8 (by kernel_rfl) (by kernel_rfl) (by kernel_rfl)
      (x := ([.nil, .nil], [], [])) (by kernel_rfl) rfl (by kernel_rfl)) ?_
  intro W base args ds gs before hval hW _ hk _
  exact contract H enc W base args ds gs before hval hW hk

theorem proved : Rows.NatOrdersUptoSaid :=
  OpenClaim.holds_of_cond 4 Try.f4 rfl rfl rfl rfl rfl rfl rfl ⟨rfl, rfl, rfl, rfl, rfl⟩ rfl rfl rfl rfl rfl (by kernel_rfl) Try.func4 (by kernel_rfl)
    (of_decide_eq_true (by kernel_rfl)) (by unfold Func.isWrapper; first | (rw [if_pos (by decide +kernel)]; kernel_rfl) | (rw [if_neg (by decide +kernel)]; exact ⟨rfl, rfl⟩))
    (fun os started H enc _ F => lifted os started H enc F)
end natOrders
end Go.Proofs.Yteinfanfhgpciaa
