/-
  RatMay, for arguments that hold together at most 1048576 values: the law answers true (which rationals may be, and the norm of any one), and each argument reads behind the call as it read before. No other condition.
-/
import Derived.Test.YtofiebilokhccaaRLaw0
import Derived.Test.YtofiebilokhccaaRKnown
import Derived.Deep.DeepCutAuto
namespace Go.Proofs.Ytofiebilokhccaa
open Go.RowKit Go.ChangeShapes Go.WideShapes Go.ChangeAt
set_option linter.unusedVariables false
set_option linter.unusedSimpArgs false
set_option maxRecDepth 100000

theorem mayQ_c {n : Nat} {w : World} {m1 : Bool} {xs ds : List Int} {a1 a2 : Option Addr} {c1 c2 : Nat} {c : Int} (A : Arg w (.slice a1 xs.length c1) xs a1 c1) (B : Arg w (.slice a2 ds.length c2) ds a2 c2)
    (hx : xs.length ≤ n) (hd : ds.length ≤ n) (hn : n ≤ 16777000) (hc : mayCode (validB m1 xs ds (ratOf m1 (val xs) (val ds))) = c) :
    Calls Try.prog 14 #[.agg #[.bool m1, .slice a1 xs.length c1, .slice a2 ds.length c2]] w fun e w' => e = .returned (.int .i64 c) ∧ Below w.heap.size w w' := by
  have k := mayQ_any (m1 := m1) A B hx hd hn
  rwa [hc] at k
theorem mayR_c {n : Nat} {w : World} {m1 : Bool} {xs ds : List Int} {a1 a2 : Option Addr} {c1 c2 : Nat} {c : Int} (A : Arg w (.slice a1 xs.length c1) xs a1 c1) (B : Arg w (.slice a2 ds.length c2) ds a2 c2)
    (hx : xs.length ≤ n) (hd : ds.length ≤ n) (hn : n ≤ 16777000) (hc : mayCode (validB m1 xs ds (ratOf m1 (val xs) (val ds))) = c) :
    Calls Try.prog 15 #[.agg #[.bool m1, .slice a1 xs.length c1, .slice a2 ds.length c2]] w fun e w' => e = .returned (.int .i64 c) ∧ Below w.heap.size w w' := by
  have k := mayR_any (m1 := m1) A B hx hd (by omega)
  unfold mayCode at hc
  rwa [hc] at k
theorem mayQ_valid {base n : Nat} {w : World} {v : Value} {X : Rat} (h : ResQ base w v X n) (hn : n ≤ 16777000) :
    Calls Try.prog 14 #[v] w fun e w' => e = .returned (.int .i64 0) ∧ Below w.heap.size w w' := by
  have hv := h.valid
  obtain ⟨zs, ys, ad, bd, ca, cb, rfl, A, B, h1, h2⟩ := h
  have e1 : isB zs (X.num.natAbs : Int) = true := decide_eq_true ⟨A.full, A.eq⟩
  have e2 : isB ys (X.den : Int) = true := decide_eq_true ⟨B.full, B.eq⟩
  have k := mayQ_any (n := n) (m1 := decide (X.num < 0)) A.at_.2 B.at_.2 h1 h2 hn
  have hb : mayCode (validB (decide (X.num < 0)) zs ys (ratOf (decide (X.num < 0)) (val zs) (val ys))) = 0 := by
    rw [A.eq, B.eq, ratOf_self]
    unfold validB
    rw [e1, e2]
    simp [mayCode]
  rwa [hb] at k

set_option maxRecDepth 100000 in
set_option maxHeartbeats 8000000 in
theorem ratMay_walk (neg0 : Bool) (xs0 ds0 : List Int) (a0 b0 : Option Addr) (ca0 cb0 : Nat) (w : World) (A0 : Arg w (.slice a0 xs0.length ca0) xs0 a0 ca0) (B0 : Arg w (.slice b0 ds0.length cb0) ds0 b0 cb0) (lx0 : xs0.length ≤ 1048576) (ly0 : ds0.length ≤ 1048576) (nx0 : a0 = none → ca0 = 0) (ny0 : b0 = none → cb0 = 0) :
    Calls Try.prog 3 #[.agg #[.bool neg0, .slice a0 xs0.length ca0, .slice b0 ds0.length cb0]] w fun e w' => e = .returned (.bool true) ∧ Below w.heap.size w w' := by
  obtain ⟨X0, hX0⟩ : ∃ X, ratOf neg0 (val xs0) (val ds0) = X := ⟨_, rfl⟩
  have Q0 : ArgQ w (.agg #[.bool neg0, .slice a0 xs0.length ca0, .slice b0 ds0.length cb0]) X0 1048576 := ⟨neg0, xs0, ds0, a0, b0, ca0, cb0, rfl, A0, B0, hX0, lx0, ly0⟩
  obtain ⟨W, hW⟩ : ∃ W, (w.alloc (.cells #[.bool neg0, .slice a0 xs0.length ca0, .slice b0 ds0.length cb0] 25)) = W := ⟨_, rfl⟩
  have R0 : Row W (w.heap.size) 25 #[.bool neg0, .slice a0 xs0.length ca0, .slice b0 ds0.length cb0] := by rw [← hW]; exact (Row.new _ _ _)
  have hBW : Below w.heap.size w W := by rw [← hW]; exact ((Below.refl _ _).alloc (by (try simp) <;> omega) _)
  have hsW : w.heap.size + 1 ≤ W.heap.size := by rw [← hW]; simp
  obtain ⟨c, hc⟩ : ∃ c, mayCode (validB neg0 xs0 ds0 (ratOf neg0 (val xs0) (val ds0))) = c := ⟨_, rfl⟩
  have HC := Lib.hid hc
  have e1 : (c == c) = true := by simp
  have e2 : ((0 : Int) == 0) = true := by decide
  have A0W := A0.later hBW
  have B0W := B0.later hBW
  have NX := Lib.hid nx0
  have NY := Lib.hid ny0
  have HX := Lib.hid hX0
  clear hc nx0 ny0 hX0
  obtain ⟨p0, p1, p2, _, _, _⟩ := R0.three
  go_enter Try.func3, Try.ntmps3
  go_wp2_with fail
  refine (ownR_any A0W B0W (by omega) (by omega) NX.out NY.out).mono ?_
  rintro e V1 ⟨r1, rfl, y1, y2, k1, k2, rfl, A1, B1, _, _, hb1⟩
  have hs1 := hb1.size
  go_wp2_with fail
  refine (norm_any (n := 1048576) ⟨neg0, xs0, ds0, y1, y2, k1, k2, rfl, A1, B1, HX.out, lx0, ly0⟩ (by omega)).mono ?_
  rintro e V2 ⟨r2, rfl, q2, hb2⟩
  have hs2 := hb2.size
  obtain ⟨m2, fs, gs, f1, f2, j1, j2, rfl⟩ := q2.arg.box
  clear p0 p1 p2 hW
  obtain ⟨p0, p1, p2, _, _, _⟩ := ((R0.later hb1).later hb2).three
  obtain ⟨U, hU⟩ : ∃ U, V2.alloc (.cells #[.bool m2, .slice f1 fs.length j1, .slice f2 gs.length j2] 25) = U := ⟨_, rfl⟩
  have hBU2 : Below V2.heap.size V2 U := by rw [← hU]; exact (Below.refl _ _).alloc (Nat.le_refl _) _
  have R5 : Row U V2.heap.size 25 #[.bool m2, .slice f1 fs.length j1, .slice f2 gs.length j2] := by rw [← hU]; exact Row.new _ _ _
  have hsU := hBU2.size
  have q5 := q2.later hBU2
  have A0U := ((A0W.later hb1).later hb2).later hBU2
  have B0U := ((B0W.later hb1).later hb2).later hBU2
  have Q0U := (((Q0.later hBW).later hb1).later hb2).later hBU2
  replace R0 := ((R0.later hb1).later hb2).later hBU2
  have hBU : Below w.heap.size w U := ((hBW.trans (hb1.mono (by omega))).trans (hb2.mono (by omega))).trans (hBU2.mono (by omega))
  clear hb1 hb2 hBU2 hBW A1 B1 q2 A0W B0W
  go_wp2_with fail
  (try rw [hU])
  clear hU p0 p1 p2
  have lt_R0 := R0.lt
  have lt_R5 := R5.lt
  have mkS : ∀ X, Kept (U.heap.size) U X → X.cell? ⟨w.heap.size, 0, none⟩ = some (.bool neg0) ∧ X.cell? ⟨w.heap.size, 1, none⟩ = some (.slice a0 xs0.length ca0) ∧ X.cell? ⟨w.heap.size, 2, none⟩ = some (.slice b0 ds0.length cb0) ∧ X.cell? ⟨V2.heap.size, 0, none⟩ = some (.bool m2) ∧ X.cell? ⟨V2.heap.size, 1, none⟩ = some (.slice f1 fs.length j1) ∧ X.cell? ⟨V2.heap.size, 2, none⟩ = some (.slice f2 gs.length j2) ∧ Kept (U.heap.size) U X := fun X h => ⟨(R0.kept h (by omega)).cell 0, (R0.kept h (by omega)).cell 1, (R0.kept h (by omega)).cell 2, (R5.kept h (by omega)).cell 0, (R5.kept h (by omega)).cell 1, (R5.kept h (by omega)).cell 2, h⟩
  go_region_held3 (fun X => X.cell? ⟨w.heap.size, 0, none⟩ = some (.bool neg0) ∧ X.cell? ⟨w.heap.size, 1, none⟩ = some (.slice a0 xs0.length ca0) ∧ X.cell? ⟨w.heap.size, 2, none⟩ = some (.slice b0 ds0.length cb0) ∧ X.cell? ⟨V2.heap.size, 0, none⟩ = some (.bool m2) ∧ X.cell? ⟨V2.heap.size, 1, none⟩ = some (.slice f1 fs.length j1) ∧ X.cell? ⟨V2.heap.size, 2, none⟩ = some (.slice f2 gs.length j2) ∧ Kept (U.heap.size) U X)
    (((refine mkS _ ?_; (repeat' (first | exact Kept.refl _ _ | refine Kept.drew ?_ | refine Kept.alloc ?_ _ | refine Kept.set ?_ _ _ | refine Kept.below ?_ (by assumption))))))
    ((first
      | (go_at_call 18; have hprev := hbw6; clear hprev; (with_reducible refine (known3_any _).mono ?_); rintro e w7 ⟨rfl, hbw7⟩; have hsw7 := hbw7.size; (try simp at hsw7); skip)
      | (go_at_call 14; have hprev := hbw5; clear hprev; (with_reducible refine (mayQ_valid (q5.later (show Below U.heap.size U _ by (repeat' (first | exact Below.refl _ _ | refine Below.drew ?_ | refine Below.alloc ?_ (by (try simp) <;> omega) _ | refine below_set3 ?_ (by (try simp) <;> omega) _ _ _ | refine below_set2 ?_ (by (try simp) <;> omega) _ _ | refine Below.setCell ?_ (by (try simp) <;> omega) _ | refine Below.trans ?_ (Below.mono (by assumption) (by (try simp) <;> omega)))))) (by omega)).mono ?_); rintro e w6 ⟨rfl, hbw6⟩; have hsw6 := hbw6.size; (try simp at hsw6); skip)
      | (go_at_call 16; have hprev := hbw4; clear hprev; (with_reducible refine (isR_true qw4 (q5.later (show Below U.heap.size U _ by (repeat' (first | exact Below.refl _ _ | refine Below.drew ?_ | refine Below.alloc ?_ (by (try simp) <;> omega) _ | refine below_set3 ?_ (by (try simp) <;> omega) _ _ _ | refine below_set2 ?_ (by (try simp) <;> omega) _ _ | refine Below.setCell ?_ (by (try simp) <;> omega) _ | refine Below.trans ?_ (Below.mono (by assumption) (by (try simp) <;> omega)))))) (by omega) (by omega)).mono ?_); rintro e w5 ⟨rfl, hbw5⟩; have hsw5 := hbw5.size; (try simp at hsw5); skip)
      | (go_at_call 17; have hprev := hbw3; clear hprev; (with_reducible refine (ofR_any (Q0U.later (show Below U.heap.size U _ by (repeat' (first | exact Below.refl _ _ | refine Below.drew ?_ | refine Below.alloc ?_ (by (try simp) <;> omega) _ | refine below_set3 ?_ (by (try simp) <;> omega) _ _ _ | refine below_set2 ?_ (by (try simp) <;> omega) _ _ | refine Below.setCell ?_ (by (try simp) <;> omega) _ | refine Below.trans ?_ (Below.mono (by assumption) (by (try simp) <;> omega)))))) (by omega)).mono ?_); rintro e w4 ⟨r4, rfl, qw4, hbw4⟩; have hsw4 := hbw4.size; (try simp at hsw4); skip)
      | (go_at_call 15; have hprev := hbw2; clear hprev; (with_reducible refine (mayR_c (A0U.later (show Below U.heap.size U _ by (repeat' (first | exact Below.refl _ _ | refine Below.drew ?_ | refine Below.alloc ?_ (by (try simp) <;> omega) _ | refine below_set3 ?_ (by (try simp) <;> omega) _ _ _ | refine below_set2 ?_ (by (try simp) <;> omega) _ _ | refine Below.setCell ?_ (by (try simp) <;> omega) _ | refine Below.trans ?_ (Below.mono (by assumption) (by (try simp) <;> omega)))))) (B0U.later (show Below U.heap.size U _ by (repeat' (first | exact Below.refl _ _ | refine Below.drew ?_ | refine Below.alloc ?_ (by (try simp) <;> omega) _ | refine below_set3 ?_ (by (try simp) <;> omega) _ _ _ | refine below_set2 ?_ (by (try simp) <;> omega) _ _ | refine Below.setCell ?_ (by (try simp) <;> omega) _ | refine Below.trans ?_ (Below.mono (by assumption) (by (try simp) <;> omega)))))) lx0 ly0 (by omega) HC.out).mono ?_); rintro e w3 ⟨rfl, hbw3⟩; have hsw3 := hbw3.size; (try simp at hsw3); skip)
      | (go_at_call 14; have hprev := hbw1; clear hprev; (with_reducible refine (mayQ_c A1 B1 lx0 ly0 (by omega) HC.out).mono ?_); rintro e w2 ⟨rfl, hbw2⟩; have hsw2 := hbw2.size; (try simp at hsw2); skip)
      | (go_at_call 13; (with_reducible refine (ownR_any (A0U.later (show Below U.heap.size U _ by (repeat' (first | exact Below.refl _ _ | refine Below.drew ?_ | refine Below.alloc ?_ (by (try simp) <;> omega) _ | refine below_set3 ?_ (by (try simp) <;> omega) _ _ _ | refine below_set2 ?_ (by (try simp) <;> omega) _ _ | refine Below.setCell ?_ (by (try simp) <;> omega) _ | refine Below.trans ?_ (Below.mono (by assumption) (by (try simp) <;> omega)))))) (B0U.later (show Below U.heap.size U _ by (repeat' (first | exact Below.refl _ _ | refine Below.drew ?_ | refine Below.alloc ?_ (by (try simp) <;> omega) _ | refine below_set3 ?_ (by (try simp) <;> omega) _ _ _ | refine below_set2 ?_ (by (try simp) <;> omega) _ _ | refine Below.setCell ?_ (by (try simp) <;> omega) _ | refine Below.trans ?_ (Below.mono (by assumption) (by (try simp) <;> omega)))))) (by omega) (by omega) NX.out NY.out).mono ?_); rintro e w1 ⟨r1, rfl, z1, z2, l1, l2, rfl, A1, B1, _, _, hbw1⟩; have hsw1 := hbw1.size; (try simp at hsw1); skip)))
  go_wp2_with fail
  go_ret
  exact ⟨rfl, hBU.trans ((show Below U.heap.size U _ by (repeat' (first | exact Below.refl _ _ | refine Below.drew ?_ | refine Below.alloc ?_ (by (try simp) <;> omega) _ | refine below_set3 ?_ (by (try simp) <;> omega) _ _ _ | refine below_set2 ?_ (by (try simp) <;> omega) _ _ | refine Below.setCell ?_ (by (try simp) <;> omega) _ | refine Below.trans ?_ (Below.mono (by assumption) (by (try simp) <;> omega))))).mono (by omega))⟩

namespace ratMay
theorem contract (H : Type) (enc : TypeId × Value → H) (W : World) (base : Nat) (args : Array Value) (ds gs : List (DataW H)) (before : List MemPlace)
    (hval : ∀ (j : Nat) t v, Try.f3.params[j]? = some t → args[j]? = some v → Value.okWide Try.prog W .any base t v)
    (hW : DataW.Whole enc Try.prog Try.f3.params.toList Rows.ratMaySpec.vars false W args.toList ds gs before) (hk : Rows.uptoSmall H (ds ++ gs) = true) :
    Calls Try.prog 3 args W fun e W' => ∃ v, e = .returned v ∧ Rows.ratMaySpec.post enc Try.prog Try.f3 false true false false W args v W' := by
  have hW' := hW
  have hlt := fun p hp => hW'.lt p hp
  obtain ⟨p, q, hA0, hV, rfl, hfz, hnd⟩ := hW
  have hA : DataW.TrodAll enc Try.prog W 0 (fun _ => true) true Try.f3.params.toList args.toList ds p := hA0
  rw [Try.params3] at hA hval
  obtain ⟨v0, vs0, d0, ds0, p0, q0, ha0, rfl, rfl, h0, r0⟩ := trodAll_cons hA
  obtain ⟨rfl, rfl, rfl⟩ := trodAll_nil r0
  obtain rfl : args = #[v0] := by cases args; simp_all
  obtain ⟨rfl, rfl⟩ := trodVars_none hV
  clear hA hA0 hV
  simp only [List.append_nil] at hW' hk hlt
  obtain k0 := small1 hk
  obtain ⟨neg0, xs0, ys0, a0, b0, ca0, cb0, rfl, A0, B0, lx0, ly0, nx0, ny0⟩ := open_rat (hval 0 25 v0 rfl rfl) h0 k0
  refine (ratMay_walk neg0 xs0 ys0 a0 b0 ca0 cb0 W A0 B0 lx0 ly0 nx0 ny0).mono fun e W' ⟨he, hb⟩ => ?_
  subst he
  have t0 := Below.trod laid (by kernel_rfl) (of_decide_eq_true (by kernel_rfl)) h0 hb (fun x hx => hlt x (by simp [hx]))
  exact ⟨_, rfl, [d0], [], p0, [], (p0 ++ []), [], hW', trodAll_cons_mk (shut_bool Try.underlying4 _) trodAll_mk0,
    (trodAll_cons_mk t0 trodAll_mk0), rfl, hb.frame _, fun h => by cases h⟩

set_option maxRecDepth 100000 in
theorem lifted (os : Os) (started : os.Started) (H : Type) (enc : TypeId × Value → H) (F : Stop.Interp) :
    ReturnsInHanded {} Try.checked os 3 .any ((Rows.OpenSpec.upto Rows.ratMaySpec).pre6 enc Try.prog Try.f3 Rows.ratMayUptoRow.domain false) (((Rows.OpenSpec.upto Rows.ratMaySpec).at F).post enc Try.prog Try.f3 false true false false) := by
  refine returnsInHanded_of_cond (C := Try.checked) (s := Rows.OpenSpec.upto Rows.ratMaySpec) (k := Rows.uptoSmall) rfl own started (by kernel_rfl) Try.func3
    (OpenSpec.witness (enc := enc) (C := Try.checked) (s := Rows.OpenSpec.upto Rows.ratMaySpec) (k := Rows.uptoSmall) rfl false ⟨#[], #[.agg #[.bool false, .slice none 0 0, .slice none 0 0]], []⟩ 8 (by kernel_rfl) (by kernel_rfl) (by kernel_rfl)
      (x := ([.agg [.lit (.bool false), .nil, .nil]], [], [])) (by kernel_rfl) rfl (by kernel_rfl)) ?_
  intro W base args ds gs before hval hW _ hk _
  exact contract H enc W base args ds gs before hval hW hk

theorem proved : Rows.RatMayUptoSaid :=
  OpenClaim.holds_of_cond 3 Try.f3 rfl rfl rfl rfl rfl rfl rfl ⟨rfl, rfl, rfl, rfl, rfl⟩ rfl rfl rfl rfl rfl (by kernel_rfl) Try.func3 (by kernel_rfl)
    (of_decide_eq_true (by kernel_rfl)) (by unfold Func.isWrapper; first | (rw [if_pos (by decide +kernel)]; kernel_rfl) | (rw [if_neg (by decide +kernel)]; exact ⟨rfl, rfl⟩))
    (fun os started H enc _ F => lifted os started H enc F)
end ratMay
end Go.Proofs.Ytofiebilokhccaa
