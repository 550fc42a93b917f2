/-
  NatSubs, for arguments that hold together at most 1048576 values: the law answers true (the difference of any two numbers, or that there is none), and each argument reads behind the call as it read before. No other condition.
-/
import Derived.Test.YteinfanfhgpciaaRefD
import Derived.Test.YteinfanfhgpciaaRefF
import Derived.Test.YteinfanfhgpciaaOpen2
namespace Go.Proofs.Yteinfanfhgpciaa
open Go.RowKit Go.ChangeShapes Go.WideShapes Go.ChangeAt

set_option maxRecDepth 100000 in
set_option maxHeartbeats 4000000 in
theorem natSubs_walk (u v : Value) (xs ys : List Int) (a b : Option Addr) (capa capb : Nat) (w : World) (Aa : Arg w u xs a capa) (Ab : Arg w v ys b capb) (hx : xs.length ≤ 1048576) (hy : ys.length ≤ 1048576)
    (ha : a = none → capa = 0) (hb0 : b = none → capb = 0) :
    Calls Try.prog 6 #[u, v] w fun e w' => e = .returned (.bool true) ∧ Below w.heap.size w w' := by
  have HA := Lib.hid ha
  have HB := Lib.hid hb0
  clear ha hb0
  have hW : Below w.heap.size w w := Below.refl _ _
  have hS : w.heap.size ≤ w.heap.size := Nat.le_refl _
  go_enter Try.func6, Try.ntmps6
  by_cases hlt : val xs < val ys
  · go_wp2_with fail
    refine (own_any Aa (by omega) HA.out).mono ?_
    rintro e W1 ⟨r1, rfl, _, ad1, cap1, A1, hn1, hb⟩
    replace Aa := Aa.later hb
    replace Ab := Ab.later hb
    replace hW := hW.trans (hb.mono hS)
    replace hS := Nat.le_trans hS hb.size
    clear hb
    go_wp2_with fail
    refine (own_any Ab (by omega) HB.out).mono ?_
    rintro e W2 ⟨r2, rfl, _, ad2, cap2, A2, hn2, hb⟩
    replace Aa := Aa.later hb
    replace Ab := Ab.later hb
    replace A1 := A1.later hb
    replace hW := hW.trans (hb.mono hS)
    replace hS := Nat.le_trans hS hb.size
    clear hb
    go_wp2_with fail
    refine (sub_err A1 A2 (by omega) (by omega) hlt).mono ?_
    rintro e V1 ⟨rfl, hb⟩
    replace Aa := Aa.later hb
    replace Ab := Ab.later hb
    replace A1 := A1.later hb
    replace A2 := A2.later hb
    replace hW := hW.trans (hb.mono hS)
    replace hS := Nat.le_trans hS hb.size
    clear hb
    clear A1 A2
    go_wp2_with fail
    refine (of_any Aa (by omega)).mono ?_
    rintro e W5 ⟨r5, rfl, l5, q5, n5, hb⟩
    replace Aa := Aa.later hb
    replace Ab := Ab.later hb
    replace hW := hW.trans (hb.mono hS)
    replace hS := Nat.le_trans hS hb.size
    clear hb
    obtain ⟨ad5, cap5, A5⟩ := q5.arg
    go_wp2_with fail
    refine (of_any Ab (by omega)).mono ?_
    rintro e W6 ⟨r6, rfl, l6, q6, n6, hb⟩
    replace Aa := Aa.later hb
    replace Ab := Ab.later hb
    replace A5 := A5.later hb
    replace hW := hW.trans (hb.mono hS)
    replace hS := Nat.le_trans hS hb.size
    clear hb
    obtain ⟨ad6, cap6, A6⟩ := q6.arg
    clear Aa Ab
    go_wp2_with fail
    refine (subD_any A5 A6 (by omega) (by omega)).mono ?_
    rw [q5.eq, q6.eq]
    rintro e W7 ⟨r7, f7, rfl, hb, hl, _⟩
    obtain ⟨rfl, rfl⟩ := hl hlt
    replace A5 := A5.later hb
    replace A6 := A6.later hb
    replace hW := hW.trans (hb.mono hS)
    replace hS := Nat.le_trans hS hb.size
    clear hb
    clear A5 A6
    go_wp2_with fail
    refine (known_any _).mono ?_
    rintro e WK ⟨rfl, hb⟩
    go_wp2_with fail
    go_ret
    exact ⟨rfl, hW.trans (hb.mono hS)⟩
  · go_wp2_with fail
    refine (own_any Aa (by omega) HA.out).mono ?_
    rintro e W1 ⟨r1, rfl, _, ad1, cap1, A1, hn1, hb⟩
    replace Aa := Aa.later hb
    replace Ab := Ab.later hb
    replace hW := hW.trans (hb.mono hS)
    replace hS := Nat.le_trans hS hb.size
    clear hb
    go_wp2_with fail
    refine (own_any Ab (by omega) HB.out).mono ?_
    rintro e W2 ⟨r2, rfl, _, ad2, cap2, A2, hn2, hb⟩
    replace Aa := Aa.later hb
    replace Ab := Ab.later hb
    replace A1 := A1.later hb
    replace hW := hW.trans (hb.mono hS)
    replace hS := Nat.le_trans hS hb.size
    clear hb
    go_wp2_with fail
    refine (sub_res A1 A2 (by omega) (by omega) (by omega)).mono ?_
    rintro e W3 ⟨r3, l3, rfl, q3, n3, hb⟩
    replace Aa := Aa.later hb
    replace Ab := Ab.later hb
    replace A1 := A1.later hb
    replace A2 := A2.later hb
    replace hW := hW.trans (hb.mono hS)
    replace hS := Nat.le_trans hS hb.size
    clear hb
    obtain ⟨ad3, cap3, A3⟩ := q3.arg
    clear A1 A2
    go_wp2_with fail
    refine (of_any Aa (by omega)).mono ?_
    rintro e W5 ⟨r5, rfl, l5, q5, n5, hb⟩
    replace Aa := Aa.later hb
    replace Ab := Ab.later hb
    replace A3 := A3.later hb
    replace hW := hW.trans (hb.mono hS)
    replace hS := Nat.le_trans hS hb.size
    clear hb
    obtain ⟨ad5, cap5, A5⟩ := q5.arg
    go_wp2_with fail
    refine (of_any Ab (by omega)).mono ?_
    rintro e W6 ⟨r6, rfl, l6, q6, n6, hb⟩
    replace Aa := Aa.later hb
    replace Ab := Ab.later hb
    replace A3 := A3.later hb
    replace A5 := A5.later hb
    replace hW := hW.trans (hb.mono hS)
    replace hS := Nat.le_trans hS hb.size
    clear hb
    obtain ⟨ad6, cap6, A6⟩ := q6.arg
    clear Aa Ab
    go_wp2_with fail
    refine (subD_any A5 A6 (by omega) (by omega)).mono ?_
    rw [q5.eq, q6.eq]
    rintro e W7 ⟨r7, f7, rfl, hb, _, hl⟩
    obtain ⟨rfl, l7, q7, n7⟩ := hl (by omega)
    replace A3 := A3.later hb
    replace A5 := A5.later hb
    replace A6 := A6.later hb
    replace hW := hW.trans (hb.mono hS)
    replace hS := Nat.le_trans hS hb.size
    clear hb
    obtain ⟨ad7, cap7, A7⟩ := q7.arg
    clear A5 A6
    go_wp2_with fail
    refine (is_true A7 A3 (by omega) (by omega) q3.full (by rw [q7.eq, q3.eq])).mono ?_
    rintro e V1 ⟨rfl, hb⟩
    replace A3 := A3.later hb
    replace A7 := A7.later hb
    replace hW := hW.trans (hb.mono hS)
    replace hS := Nat.le_trans hS hb.size
    clear hb
    go_wp2_with fail
    refine (known_any _).mono ?_
    rintro e WK ⟨rfl, hb⟩
    go_wp2_with fail
    go_ret
    exact ⟨rfl, hW.trans (hb.mono hS)⟩

namespace natSubs
theorem contract (H : Type) (enc : TypeId × Value → H) (W : World) (base : Nat) (args : Array Value) (ds gs : List (DataW H)) (before : List MemPlace)
    (hval : ∀ (j : Nat) t v, Try.f6.params[j]? = some t → args[j]? = some v → Value.okWide Try.prog W .any base t v)
    (hW : DataW.Whole enc Try.prog Try.f6.params.toList Rows.natSubsSpec.vars false W args.toList ds gs before) (hk : Rows.uptoSmall H (ds ++ gs) = true) :
    Calls Try.prog 6 args W fun e W' => ∃ v, e = .returned v ∧ Rows.natSubsSpec.post enc Try.prog Try.f6 false true false false W args v W' := by
  have hW' := hW
  have hlt := fun p hp => hW'.lt p hp
  obtain ⟨p, q, hA0, hV, rfl, hfz, hnd⟩ := hW
  have hA : DataW.TrodAll enc Try.prog W 0 (fun _ => true) true Try.f6.params.toList args.toList ds p := hA0
  rw [Try.params6] at hA hval
  obtain ⟨v0, vs0, d0, ds0, p0, q0, hargs, rfl, rfl, h0, r0⟩ := trodAll_cons hA
  obtain ⟨v1, vs1, d1, ds1, p1, q1, hargs1, rfl, rfl, h1, r1⟩ := trodAll_cons r0
  obtain ⟨rfl, rfl, rfl⟩ := trodAll_nil r1
  subst hargs1
  obtain rfl : args = #[v0, v1] := by cases args; simp_all
  obtain ⟨rfl, rfl⟩ := trodVars_none hV
  simp only [List.append_nil] at hW' hk hlt
  obtain ⟨k0, k1⟩ := small2 hk
  have u := Try.underlying24
  obtain ⟨ad0, xs0, cap0, A0, l0, n0⟩ := open_nat2 (okWide_slice u (hval 0 24 v0 rfl rfl)) h0 k0
  obtain ⟨ad1, xs1, cap1, A1, l1, n1⟩ := open_nat2 (okWide_slice u (hval 1 24 v1 rfl rfl)) h1 k1
  refine (natSubs_walk v0 v1 xs0 xs1 ad0 ad1 cap0 cap1 W A0 A1 l0 l1 n0 n1).mono fun e W' ⟨he, hb⟩ => ?_
  subst he
  have t0 := Below.trod laid (by kernel_rfl) (of_decide_eq_true (by kernel_rfl)) h0 hb (fun x hx => hlt x (by simp [hx]))
  have t1 := Below.trod laid (by kernel_rfl) (of_decide_eq_true (by kernel_rfl)) h1 hb (fun x hx => hlt x (by simp [hx]))
  exact ⟨_, rfl, [d0, d1], [], p0 ++ p1, [], p0 ++ (p1 ++ []), [], hW', trodAll_cons_mk (shut_bool Try.underlying4 _) trodAll_mk0,
    trodAll_cons_mk t0 (trodAll_cons_mk t1 trodAll_mk0), rfl, hb.frame _, fun h => by cases h⟩

set_option maxRecDepth 100000 in
theorem lifted (os : Os) (started : os.Started) (H : Type) (enc : TypeId × Value → H) (F : Stop.Interp) :
    ReturnsInHanded {} Try.checked os 6 .any ((Rows.OpenSpec.upto Rows.natSubsSpec).pre6 enc Try.prog Try.f6 Rows.natSubsUptoRow.domain false) (((Rows.OpenSpec.upto Rows.natSubsSpec).at F).post enc Try.prog Try.f6 false true false false) := by
  refine returnsInHanded_of_cond (C := Try.checked) (s := Rows.OpenSpec.upto Rows.natSubsSpec) (k := Rows.uptoSmall) rfl own started (by kernel_rfl) Try.func6
    (OpenSpec.witness (enc := enc) (C := Try.checked) (s := Rows.OpenSpec.upto Rows.natSubsSpec) (k := Rows.uptoSmall) rfl false ⟨#[], #[.slice none 0 0, .slice none 0 0], []⟩ 8 (by kernel_rfl) (by kernel_rfl) (by kernel_rfl)
      (x := ([.nil, .nil], [], [])) (by kernel_rfl) rfl (by kernel_rfl)) ?_
  intro W base args ds gs before hval hW _ hk _
  exact contract H enc W base args ds gs before hval hW hk

theorem proved : Rows.NatSubsUptoSaid :=
  OpenClaim.holds_of_cond 6 Try.f6 rfl rfl rfl rfl rfl rfl rfl ⟨rfl, rfl, rfl, rfl, rfl⟩ rfl rfl rfl rfl rfl (by kernel_rfl) Try.func6 (by kernel_rfl)
    (of_decide_eq_true (by kernel_rfl)) (by unfold Func.isWrapper; first | (rw [if_pos (by decide +kernel)]; kernel_rfl) | (rw [if_neg (by decide +kernel)]; exact ⟨rfl, rfl⟩))
    (fun os started H enc _ F => lifted os started H enc F)
end natSubs
end Go.Proofs.Yteinfanfhgpciaa
