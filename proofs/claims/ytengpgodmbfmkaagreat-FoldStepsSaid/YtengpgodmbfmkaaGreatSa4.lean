/-
  Layer 10's law FoldSteps: it is all one whether axes are summed up at once, or the last one first and then the others, and over no axes the sum is the tensor itself: for every input the law returns true, and its arguments read behind the call as they read before (first form: each slice that is met in reading them weighs at most the form's reach).
-/
import Derived.Test.YtengpgodmbfmkaaGreatSa3
namespace Go.Proofs.YtengpgodmbfmkaaGreat
set_option linter.unusedVariables false
set_option linter.unusedSimpArgs false
set_option maxRecDepth 100000
set_option maxHeartbeats 40000000
section
open Go.RowKit
open Go.ChangeShapes Go.WideShapes Go.ChangeAt
namespace foldSteps
theorem contract (H : Type) (enc : TypeId × Value → H) (W : World) (base : Nat) (args : Array Value) (ds gs : List (DataW H)) (before : List MemPlace)
 (hval : ∀ (j : Nat) t v, Tryz.f6.params[j]? = some t → args[j]? = some v → Value.okWide Tryz.prog W .any base t v)
 (hW : DataW.Whole enc Tryz.prog Tryz.f6.params.toList Rows.foldStepsSpec.vars false W args.toList ds gs before) (hsz0 : (DataW.weightsEach Tryz.prog (Tryz.f6.params.toList ++ Rows.foldStepsSpec.plain.varTypes Tryz.prog) (ds ++ gs)).all (· ≤ reachBytes) = true) :
 Calls Tryz.prog 6 args W fun e W' => ∃ v, e = .returned v ∧ Rows.foldStepsSpec.post enc Tryz.prog Tryz.f6 false true false false W args v W' := by
 have hW' := hW
 have hlt := fun p hp => hW'.lt p hp
 have hsz : (DataW.weightsEach Tryz.prog (Tryz.f6.params.toList ++ []) (ds ++ gs)).all (· ≤ reachBytes) = true := hsz0
 obtain ⟨p, q, hA0, hV, rfl, hfz, hnd⟩ := hW
 have hA : DataW.TrodAll enc Tryz.prog W 0 (fun _ => true) true Tryz.f6.params.toList args.toList ds p := hA0
 rw [Tryz.params6] at hA hval hsz
 obtain ⟨v0, vs0, d0, ds0, p0, q0, ha0, rfl, rfl, h0, r0⟩ := trodAll_cons hA
 obtain ⟨v1, vs1, d1, ds1, p1, q1, ha1, rfl, rfl, h1, r1⟩ := trodAll_cons r0
 obtain ⟨rfl, rfl, rfl⟩ := trodAll_nil r1
 subst ha1
 obtain rfl : args = #[v0, v1] := by cases args; simp_all
 obtain ⟨rfl, rfl⟩ := trodVars_none hV
 clear hA hA0 hV
 simp only [List.append_nil] at hW' hlt hsz
 (try simp only [List.nil_append] at hW' hlt hsz)
 obtain ⟨s0, qs0, a0, c0, ca0, cb0, T0, l0⟩ := open_tensorW (hval 0 26 v0 rfl rfl) h0 (fun n hn => by simpa using List.all_eq_true.1 hsz n (DataW.weights_mem_each (j := 0) rfl rfl n hn))
 obtain ⟨aa1, nn1, cc1, hv1⟩ := okWide_slice Tryz.underlying22 (hval 1 22 v1 rfl rfl)
 subst hv1
 obtain ⟨f1, g1⟩ := id h1
 obtain ⟨a1, xs1, ca1, e1, A1, l1, n1⟩ := open_intsW (v := .slice aa1 nn1 cc1) (y := (d1, p1)) Tryz.underlying22 g1
 obtain ⟨rfl, rfl, rfl⟩ : aa1 = a1 ∧ nn1 = xs1.length ∧ cc1 = ca1 := by simpa using e1
 have hw1 : ∀ n ∈ DataW.weights Tryz.prog 22 d1, n ≤ reachBytes := fun n hn => by simpa using List.all_eq_true.1 hsz n (DataW.weights_mem_each (j := 1) rfl rfl n hn)
 have L1 : xs1.length ≤ 17592186044416 := by
  rw [show reachBytes = 140737488351232 by decide] at hw1
  rcases l1 with h | h | ⟨m, h1, h2⟩
  · omega
  · have := hw1 _ h; omega
  · have := hw1 _ h2; omega
 refine (foldSteps_walk W T0 (by omega) A1 n1 L1).mono fun e W' ⟨he, hb⟩ => ?_
 subst he
 have t0 := Below.trod laid8 (by kernel_rfl) (of_decide_eq_true (by kernel_rfl)) h0 hb (fun x hx => hlt x (by simp [hx]))
 have t1 := Below.trod laid8 (by kernel_rfl) (of_decide_eq_true (by kernel_rfl)) h1 hb (fun x hx => hlt x (by simp [hx]))
 exact ⟨_, rfl, [d0, d1], [], (p0 ++ p1), [], (p0 ++ (p1 ++ [])), [], hW', trodAll_cons_mk (shut_bool Tryz.underlying4 _) trodAll_mk0,
  (trodAll_cons_mk t0 (trodAll_cons_mk t1 trodAll_mk0)), rfl, hb.frame _, fun h => by cases h⟩
theorem lifted (os : Os) (started : os.Started) (H : Type) (enc : TypeId × Value → H) :
 ReturnsInHanded {} Tryz.checked os 6 .any (Rows.foldStepsSpec.pre6 enc Tryz.prog Tryz.f6 Rows.foldStepsRow.domain false) (Rows.foldStepsSpec.post enc Tryz.prog Tryz.f6 false true false false) := by
 refine returnsInHanded_of_change_sized (C := Tryz.checked) own started (by kernel_rfl) Tryz.func6
  (ChangeSpec.witness6 (enc := enc) (C := Tryz.checked) false ⟨#[], #[.agg #[.slice none 0 0, .slice none 0 0], .slice none 0 0], []⟩ 8 (by kernel_rfl) (by kernel_rfl) (by kernel_rfl) (by kernel_rfl)) ?_
 intro W base args ds gs before hval hW _ hsz0 _
 exact contract H enc W base args ds gs before hval hW hsz0
theorem proved : Rows.FoldStepsSaid :=
 OpenClaim.holds_of_wide 6 Tryz.f6 rfl rfl rfl rfl rfl rfl rfl ⟨rfl, rfl, rfl, rfl, rfl⟩ rfl rfl rfl rfl rfl (by kernel_rfl) Tryz.func6 (by kernel_rfl)
  (of_decide_eq_true (by kernel_rfl)) (by unfold Func.isWrapper; first | (rw [if_pos (by decide +kernel)]; kernel_rfl) | (rw [if_neg (by decide +kernel)]; exact ⟨rfl, rfl⟩))
  (fun os started H enc _ => lifted os started H enc)
end foldSteps
end
end Go.Proofs.YtengpgodmbfmkaaGreat
