/-
  Layer 10's law FoldOne: the matrix with ones where row and column are the same changes nothing as a factor, Gemm with a 0 is the product, and with a matrix of its shape the product and that one: for every input the law returns true, and its arguments read behind the call as they read before (first form: each slice that is met in reading them weighs at most the form's reach).
-/
import Derived.Test.YtengpgodmbfmkaaGreatOb3
namespace Go.Proofs.YtengpgodmbfmkaaGreat
set_option linter.unusedVariables false
set_option linter.unusedSimpArgs false
set_option maxRecDepth 100000
set_option maxHeartbeats 40000000
section
open Go.RowKit
open Go.ChangeShapes Go.WideShapes Go.ChangeAt
namespace foldOne
theorem contract (H : Type) (enc : TypeId × Value → H) (W : World) (base : Nat) (args : Array Value) (ds gs : List (DataW H)) (before : List MemPlace)
 (hval : ∀ (j : Nat) t v, Tryz.f9.params[j]? = some t → args[j]? = some v → Value.okWide Tryz.prog W .any base t v)
 (hW : DataW.Whole enc Tryz.prog Tryz.f9.params.toList Rows.foldOneSpec.vars false W args.toList ds gs before) (hsz0 : (DataW.weightsEach Tryz.prog (Tryz.f9.params.toList ++ Rows.foldOneSpec.plain.varTypes Tryz.prog) (ds ++ gs)).all (· ≤ reachBytes) = true) :
 Calls Tryz.prog 9 args W fun e W' => ∃ v, e = .returned v ∧ Rows.foldOneSpec.post enc Tryz.prog Tryz.f9 false true false false W args v W' := by
 have hW' := hW
 have hlt := fun p hp => hW'.lt p hp
 have hsz : (DataW.weightsEach Tryz.prog (Tryz.f9.params.toList ++ []) (ds ++ gs)).all (· ≤ reachBytes) = true := hsz0
 obtain ⟨p, q, hA0, hV, rfl, hfz, hnd⟩ := hW
 have hA : DataW.TrodAll enc Tryz.prog W 0 (fun _ => true) true Tryz.f9.params.toList args.toList ds p := hA0
 rw [Tryz.params9] at hA hval hsz
 obtain ⟨v0, vs0, d0, ds0, p0, q0, ha0, rfl, rfl, h0, r0⟩ := trodAll_cons hA
 obtain ⟨v1, vs1, d1, ds1, p1, q1, ha1, rfl, rfl, h1, r1⟩ := trodAll_cons r0
 obtain ⟨v2, vs2, d2, ds2, p2, q2, ha2, rfl, rfl, h2, r2⟩ := trodAll_cons r1
 obtain ⟨rfl, rfl, rfl⟩ := trodAll_nil r2
 subst ha1
 subst ha2
 obtain rfl : args = #[v0, v1, v2] := by cases args; simp_all
 obtain ⟨rfl, rfl⟩ := trodVars_none hV
 clear hA hA0 hV
 obtain ⟨i0, rfl, rfl, rfl, w0⟩ := open_int Tryz.underlying3 (hval 0 3 v0 rfl rfl) h0
 obtain ⟨i1, rfl, rfl, rfl, w1⟩ := open_int Tryz.underlying3 (hval 1 3 v1 rfl rfl) h1
 simp only [List.append_nil] at hW' hlt hsz
 (try simp only [List.nil_append] at hW' hlt hsz)
 obtain ⟨aa2, nn2, cc2, hv2⟩ := okWide_slice Tryz.underlying24 (hval 2 24 v2 rfl rfl)
 subst hv2
 obtain ⟨f2, g2⟩ := id h2
 obtain ⟨a2, qs2, ca2, e2, E2, n2, _⟩ := open_rats (v := .slice aa2 nn2 cc2) (y := (d2, p2)) g2
 obtain ⟨rfl, rfl, rfl⟩ : aa2 = a2 ∧ nn2 = qs2.length ∧ cc2 = ca2 := by simpa using e2
 have hw2 : ∀ n ∈ DataW.weights Tryz.prog 24 d2, n ≤ reachBytes := fun n hn => by simpa using List.all_eq_true.1 hsz n (DataW.weights_mem_each (j := 2) rfl rfl n hn)
 have L2 := rats_reach10 (y := (d2, p2)) g2 hw2
 refine (foldOne_walk W E2 L2).mono fun e W' ⟨he, hb⟩ => ?_
 subst he
 have t2 := Below.trod laid8 (by kernel_rfl) (of_decide_eq_true (by kernel_rfl)) h2 hb (fun x hx => hlt x (by simp [hx]))
 exact ⟨_, rfl, [.lit (.int .i64 i0), .lit (.int .i64 i1), d2], [], p2, [], ([] ++ ([] ++ (p2 ++ []))), [], hW', trodAll_cons_mk (shut_bool Tryz.underlying4 _) trodAll_mk0,
  (trodAll_cons_mk (shut_int Tryz.underlying3 w0) (trodAll_cons_mk (shut_int Tryz.underlying3 w1) (trodAll_cons_mk t2 trodAll_mk0))), rfl, hb.frame _, fun h => by cases h⟩
theorem lifted (os : Os) (started : os.Started) (H : Type) (enc : TypeId × Value → H) :
 ReturnsInHanded {} Tryz.checked os 9 .any (Rows.foldOneSpec.pre6 enc Tryz.prog Tryz.f9 Rows.foldOneRow.domain false) (Rows.foldOneSpec.post enc Tryz.prog Tryz.f9 false true false false) := by
 refine returnsInHanded_of_change_sized (C := Tryz.checked) own started (by kernel_rfl) Tryz.func9
  (ChangeSpec.witness6 (enc := enc) (C := Tryz.checked) false ⟨#[], #[.int .i64 0, .int .i64 0, .slice none 0 0], []⟩ 8 (by kernel_rfl) (by kernel_rfl) (by kernel_rfl) (by kernel_rfl)) ?_
 intro W base args ds gs before hval hW _ hsz0 _
 exact contract H enc W base args ds gs before hval hW hsz0
theorem proved : Rows.FoldOneSaid :=
 OpenClaim.holds_of_wide 9 Tryz.f9 rfl rfl rfl rfl rfl rfl rfl ⟨rfl, rfl, rfl, rfl, rfl⟩ rfl rfl rfl rfl rfl (by kernel_rfl) Tryz.func9 (by kernel_rfl)
  (of_decide_eq_true (by kernel_rfl)) (by unfold Func.isWrapper; first | (rw [if_pos (by decide +kernel)]; kernel_rfl) | (rw [if_neg (by decide +kernel)]; exact ⟨rfl, rfl⟩))
  (fun os started H enc _ => lifted os started H enc)
end foldOne
end
end Go.Proofs.YtengpgodmbfmkaaGreat
