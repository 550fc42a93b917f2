/-
  Layer 10's law FoldTotal: over all axes the sum is that of all elements, and the sum of a sum of two tensors is the sum of their sums: for every input the law returns true, and its arguments read behind the call as they read before (first form: each slice that is met in reading them weighs at most the form's reach).
-/
import Derived.Test.YtengpgodmbfmkaaGreatTb4
namespace Go.Proofs.YtengpgodmbfmkaaGreat
set_option linter.unusedVariables false
set_option linter.unusedSimpArgs false
set_option maxRecDepth 100000
set_option maxHeartbeats 40000000
section
open Go.RowKit
open Go.ChangeShapes Go.WideShapes Go.ChangeAt
namespace foldTotal
theorem contract (H : Type) (enc : TypeId × Value → H) (W : World) (base : Nat) (args : Array Value) (ds gs : List (DataW H)) (before : List MemPlace)
 (hval : ∀ (j : Nat) t v, Tryz.f7.params[j]? = some t → args[j]? = some v → Value.okWide Tryz.prog W .any base t v)
 (hW : DataW.Whole enc Tryz.prog Tryz.f7.params.toList Rows.foldTotalSpec.vars false W args.toList ds gs before) (hsz0 : (DataW.weightsEach Tryz.prog (Tryz.f7.params.toList ++ Rows.foldTotalSpec.plain.varTypes Tryz.prog) (ds ++ gs)).all (· ≤ reachBytes) = true) :
 Calls Tryz.prog 7 args W fun e W' => ∃ v, e = .returned v ∧ Rows.foldTotalSpec.post enc Tryz.prog Tryz.f7 false true false false W args v W' := by
 have hW' := hW
 have hlt := fun p hp => hW'.lt p hp
 have hsz : (DataW.weightsEach Tryz.prog (Tryz.f7.params.toList ++ []) (ds ++ gs)).all (· ≤ reachBytes) = true := hsz0
 obtain ⟨p, q, hA0, hV, rfl, hfz, hnd⟩ := hW
 have hA : DataW.TrodAll enc Tryz.prog W 0 (fun _ => true) true Tryz.f7.params.toList args.toList ds p := hA0
 rw [Tryz.params7] at hA hval hsz
 obtain ⟨v0, vs0, d0, ds0, p0, q0, ha0, rfl, rfl, h0, r0⟩ := trodAll_cons hA
 obtain ⟨v1, vs1, d1, ds1, p1, q1, ha1, rfl, rfl, h1, r1⟩ := trodAll_cons r0
 obtain ⟨v2, vs2, d2, ds2, p2, q2, ha2, rfl, rfl, h2, r2⟩ := trodAll_cons r1
 obtain ⟨rfl, rfl, rfl⟩ := trodAll_nil r2
 subst ha1
 subst ha2
 obtain rfl : args = #[v0, v1, v2] := by cases args; simp_all
 obtain ⟨rfl, rfl⟩ := trodVars_none hV
 clear hA hA0 hV
 simp only [List.append_nil] at hW' hlt hsz
 (try simp only [List.nil_append] at hW' hlt hsz)
 obtain ⟨s0, qs0, a0, c0, ca0, cb0, T0, l0⟩ := open_tensorW (hval 0 26 v0 rfl rfl) h0 (fun n hn => by simpa using List.all_eq_true.1 hsz n (DataW.weights_mem_each (j := 0) rfl rfl n hn))
 obtain ⟨aa1, nn1, cc1, hv1⟩ := okWide_slice Tryz.underlying24 (hval 1 24 v1 rfl rfl)
 subst hv1
 obtain ⟨f1, g1⟩ := id h1
 obtain ⟨a1, qs1, ca1, e1, E1, n1, _⟩ := open_rats (v := .slice aa1 nn1 cc1) (y := (d1, p1)) g1
 obtain ⟨rfl, rfl, rfl⟩ : aa1 = a1 ∧ nn1 = qs1.length ∧ cc1 = ca1 := by simpa using e1
 have hw1 : ∀ n ∈ DataW.weights Tryz.prog 24 d1, n ≤ reachBytes := fun n hn => by simpa using List.all_eq_true.1 hsz n (DataW.weights_mem_each (j := 1) rfl rfl n hn)
 have L1 := rats_reach10 (y := (d1, p1)) g1 hw1
 obtain ⟨aa2, nn2, cc2, hv2⟩ := okWide_slice Tryz.underlying22 (hval 2 22 v2 rfl rfl)
 subst hv2
 obtain ⟨f2, g2⟩ := id h2
 obtain ⟨a2, xs2, ca2, e2, A2, l2, n2⟩ := open_intsW (v := .slice aa2 nn2 cc2) (y := (d2, p2)) Tryz.underlying22 g2
 obtain ⟨rfl, rfl, rfl⟩ : aa2 = a2 ∧ nn2 = xs2.length ∧ cc2 = ca2 := by simpa using e2
 have hw2 : ∀ n ∈ DataW.weights Tryz.prog 22 d2, n ≤ reachBytes := fun n hn => by simpa using List.all_eq_true.1 hsz n (DataW.weights_mem_each (j := 2) rfl rfl n hn)
 have L2 : xs2.length ≤ 17592186044416 := by
  rw [show reachBytes = 140737488351232 by decide] at hw2
  rcases l2 with h | h | ⟨m, h1, h2⟩
  · omega
  · have := hw2 _ h; omega
  · have := hw2 _ h2; omega
 refine (foldTotal_walk W T0 (by omega) E1 A2 n2 L2).mono fun e W' ⟨he, hb⟩ => ?_
 subst he
 have t0 := Below.trod laid8 (by kernel_rfl) (of_decide_eq_true (by kernel_rfl)) h0 hb (fun x hx => hlt x (by simp [hx]))
 have t1 := Below.trod laid8 (by kernel_rfl) (of_decide_eq_true (by kernel_rfl)) h1 hb (fun x hx => hlt x (by simp [hx]))
 have t2 := Below.trod laid8 (by kernel_rfl) (of_decide_eq_true (by kernel_rfl)) h2 hb (fun x hx => hlt x (by simp [hx]))
 exact ⟨_, rfl, [d0, d1, d2], [], (p0 ++ (p1 ++ p2)), [], (p0 ++ (p1 ++ (p2 ++ []))), [], hW', trodAll_cons_mk (shut_bool Tryz.underlying4 _) trodAll_mk0,
  (trodAll_cons_mk t0 (trodAll_cons_mk t1 (trodAll_cons_mk t2 trodAll_mk0))), rfl, hb.frame _, fun h => by cases h⟩
theorem lifted (os : Os) (started : os.Started) (H : Type) (enc : TypeId × Value → H) :
 ReturnsInHanded {} Tryz.checked os 7 .any (Rows.foldTotalSpec.pre6 enc Tryz.prog Tryz.f7 Rows.foldTotalRow.domain false) (Rows.foldTotalSpec.post enc Tryz.prog Tryz.f7 false true false false) := by
 refine returnsInHanded_of_change_sized (C := Tryz.checked) own started (by kernel_rfl) Tryz.func7
  (ChangeSpec.witness6 (enc := enc) (C := Tryz.checked) false ⟨#[], #[.agg #[.slice none 0 0, .slice none 0 0], .slice none 0 0, .slice none 0 0], []⟩ 8 (by kernel_rfl) (by kernel_rfl) (by kernel_rfl) (by kernel_rfl)) ?_
 intro W base args ds gs before hval hW _ hsz0 _
 exact contract H enc W base args ds gs before hval hW hsz0
theorem proved : Rows.FoldTotalSaid :=
 OpenClaim.holds_of_wide 7 Tryz.f7 rfl rfl rfl rfl rfl rfl rfl ⟨rfl, rfl, rfl, rfl, rfl⟩ rfl rfl rfl rfl rfl (by kernel_rfl) Tryz.func7 (by kernel_rfl)
  (of_decide_eq_true (by kernel_rfl)) (by unfold Func.isWrapper; first | (rw [if_pos (by decide +kernel)]; kernel_rfl) | (rw [if_neg (by decide +kernel)]; exact ⟨rfl, rfl⟩))
  (fun os started H enc _ => lifted os started H enc)
end foldTotal
end
end Go.Proofs.YtengpgodmbfmkaaGreat
