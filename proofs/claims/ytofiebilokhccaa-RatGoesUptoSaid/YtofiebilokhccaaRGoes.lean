/-
  RatGoes, for arguments that hold together at most 1048576 values: the law answers true (the order of any two goes with what is added to both, and with what both are multiplied by), and each argument reads behind the call as it read before. No other condition.
-/
import Derived.Test.YtofiebilokhccaaRLaw0
import Derived.Test.YtofiebilokhccaaRKnown
import Derived.Deep.DeepCutAuto
namespace Go.Proofs.Ytofiebilokhccaa
open Go.RowKit Go.ChangeShapes Go.WideShapes Go.ChangeAt
set_option linter.unusedVariables false
set_option linter.unusedSimpArgs false
set_option maxRecDepth 100000

theorem cmpQ_c {n m : Nat} {w : World} {u v : Value} {X Y : Rat} {c : Int} (hu : ArgQ w u X n) (hv : ArgQ w v Y m) (hc : sgR (X - Y) = c) (hn : n ≤ 16777000 ∧ m ≤ 16777000) :
    Calls Try.prog 38 #[u, v] w fun e w' => e = .returned (.int .i64 c) ∧ Below w.heap.size w w' := by
  have k := cmpQ_any (n := 16777000) (hu.more hn.1) (hv.more hn.2) (by omega)
  rwa [hc] at k
theorem signQ_c {n : Nat} {w : World} {u : Value} {X : Rat} {c : Int} (hu : ArgQ w u X n) (hc : sgR X = c) (hn : n ≤ 16777000) :
    Calls Try.prog 40 #[u] w fun e w' => e = .returned (.int .i64 c) ∧ Below w.heap.size w w' := by
  have k := signQ_any hu hn
  rwa [hc] at k

set_option maxRecDepth 100000 in
set_option maxHeartbeats 8000000 in
theorem ratGoes_walk (neg0 : Bool) (xs0 ds0 : List Int) (a0 b0 : Option Addr) (ca0 cb0 : Nat) (neg1 : Bool) (xs1 ds1 : List Int) (a1 b1 : Option Addr) (ca1 cb1 : Nat) (neg2 : Bool) (xs2 ds2 : List Int) (a2 b2 : Option Addr) (ca2 cb2 : Nat) (w : World) (A0 : Arg w (.slice a0 xs0.length ca0) xs0 a0 ca0) (B0 : Arg w (.slice b0 ds0.length cb0) ds0 b0 cb0) (lx0 : xs0.length ≤ 1048576) (ly0 : ds0.length ≤ 1048576) (nx0 : a0 = none → ca0 = 0) (ny0 : b0 = none → cb0 = 0) (A1 : Arg w (.slice a1 xs1.length ca1) xs1 a1 ca1) (B1 : Arg w (.slice b1 ds1.length cb1) ds1 b1 cb1) (lx1 : xs1.length ≤ 1048576) (ly1 : ds1.length ≤ 1048576) (nx1 : a1 = none → ca1 = 0) (ny1 : b1 = none → cb1 = 0) (A2 : Arg w (.slice a2 xs2.length ca2) xs2 a2 ca2) (B2 : Arg w (.slice b2 ds2.length cb2) ds2 b2 cb2) (lx2 : xs2.length ≤ 1048576) (ly2 : ds2.length ≤ 1048576) (nx2 : a2 = none → ca2 = 0) (ny2 : b2 = none → cb2 = 0) :
    Calls Try.prog 10 #[.agg #[.bool neg0, .slice a0 xs0.length ca0, .slice b0 ds0.length cb0], .agg #[.bool neg1, .slice a1 xs1.length ca1, .slice b1 ds1.length cb1], .agg #[.bool neg2, .slice a2 xs2.length ca2, .slice b2 ds2.length cb2]] w fun e w' => e = .returned (.bool true) ∧ Below w.heap.size w w' := by
  obtain ⟨X0, hX0⟩ : ∃ X, ratOf neg0 (val xs0) (val ds0) = X := ⟨_, rfl⟩
  have Q0 : ArgQ w (.agg #[.bool neg0, .slice a0 xs0.length ca0, .slice b0 ds0.length cb0]) X0 1048576 := ⟨neg0, xs0, ds0, a0, b0, ca0, cb0, rfl, A0, B0, hX0, lx0, ly0⟩
  obtain ⟨X1, hX1⟩ : ∃ X, ratOf neg1 (val xs1) (val ds1) = X := ⟨_, rfl⟩
  have Q1 : ArgQ w (.agg #[.bool neg1, .slice a1 xs1.length ca1, .slice b1 ds1.length cb1]) X1 1048576 := ⟨neg1, xs1, ds1, a1, b1, ca1, cb1, rfl, A1, B1, hX1, lx1, ly1⟩
  obtain ⟨X2, hX2⟩ : ∃ X, ratOf neg2 (val xs2) (val ds2) = X := ⟨_, rfl⟩
  have Q2 : ArgQ w (.agg #[.bool neg2, .slice a2 xs2.length ca2, .slice b2 ds2.length cb2]) X2 1048576 := ⟨neg2, xs2, ds2, a2, b2, ca2, cb2, rfl, A2, B2, hX2, lx2, ly2⟩
  obtain ⟨W, hW⟩ : ∃ W, (((w.alloc (.cells #[.bool neg0, .slice a0 xs0.length ca0, .slice b0 ds0.length cb0] 25)).alloc (.cells #[.bool neg1, .slice a1 xs1.length ca1, .slice b1 ds1.length cb1] 25)).alloc (.cells #[.bool neg2, .slice a2 xs2.length ca2, .slice b2 ds2.length cb2] 25)) = W := ⟨_, rfl⟩
  have R0 : Row W (w.heap.size) 25 #[.bool neg0, .slice a0 xs0.length ca0, .slice b0 ds0.length cb0] := by rw [← hW]; exact (((Row.new _ _ _).alloc _).alloc _)
  have R1 : Row W (w.heap.size + 1) 25 #[.bool neg1, .slice a1 xs1.length ca1, .slice b1 ds1.length cb1] := by rw [← hW]; have h := (Row.new (w.alloc (.cells #[.bool neg0, .slice a0 xs0.length ca0, .slice b0 ds0.length cb0] 25)) 25 #[.bool neg1, .slice a1 xs1.length ca1, .slice b1 ds1.length cb1]); simp only [World.size_alloc] at h; exact (h.alloc _)
  have R2 : Row W (w.heap.size + 1 + 1) 25 #[.bool neg2, .slice a2 xs2.length ca2, .slice b2 ds2.length cb2] := by rw [← hW]; have h := (Row.new ((w.alloc (.cells #[.bool neg0, .slice a0 xs0.length ca0, .slice b0 ds0.length cb0] 25)).alloc (.cells #[.bool neg1, .slice a1 xs1.length ca1, .slice b1 ds1.length cb1] 25)) 25 #[.bool neg2, .slice a2 xs2.length ca2, .slice b2 ds2.length cb2]); simp only [World.size_alloc] at h; exact h
  have hBW : Below w.heap.size w W := by rw [← hW]; exact ((((Below.refl _ _).alloc (by (try simp) <;> omega) _).alloc (by (try simp) <;> omega) _).alloc (by (try simp) <;> omega) _)
  have hsW : w.heap.size + 1 + 1 + 1 ≤ W.heap.size := by rw [← hW]; simp
  obtain ⟨c, hc⟩ : ∃ c, sgR (X0 - X1) = c := ⟨_, rfl⟩
  obtain ⟨s, hs⟩ : ∃ s, sgR X2 = s := ⟨_, rfl⟩
  have h1 : sgR (X1 - X0) = -c := by rw [sgR_swap, hc]
  have h2 : sgR ((X0 + X2) - (X1 + X2)) = c := by rw [sgR_both, hc]
  have h3 : sgR (X0 * X2 - X1 * X2) = c * s := by rw [sgR_times, hc, hs]
  have hcr := sgR_range (X0 - X1)
  have hsr := sgR_range X2
  rw [hc] at hcr
  rw [hs] at hsr
  have hneg : IntKind.i64.wrap (-c) = -c := IntWalk.i64_in _ (by omega)
  have hmul : IntKind.i64.wrap (c * s) = c * s := by rcases hcr with h | h | h <;> rcases hsr with k | k | k <;> rw [h, k] <;> decide
  have hc0 := Lib.hid hc
  have hs0 := Lib.hid hs
  have H1 := Lib.hid h1
  have H2 := Lib.hid h2
  have H3 := Lib.hid h3
  have e1 : (-c == -c) = true := by simp
  have e2 : (c == c) = true := by simp
  have e3 : (c * s == c * s) = true := by simp
  have Q0W := Q0.later hBW
  have Q1W := Q1.later hBW
  have Q2W := Q2.later hBW
  clear hc hs h1 h2 h3 hcr hsr hX0 hX1 hX2
  obtain ⟨p0, p1, p2, _, _, _⟩ := R0.three
  obtain ⟨o0, o1, o2, _, _, _⟩ := R1.three
  go_enter Try.func10, Try.ntmps10
  go_wp2_with fail
  refine (cmpQ_c Q0W Q1W hc0.out (by omega)).mono ?_
  rintro e U ⟨rfl, hbU⟩
  replace R0 := R0.later hbU
  replace R1 := R1.later hbU
  replace R2 := R2.later hbU
  have Q0U := Q0W.later hbU
  have Q1U := Q1W.later hbU
  have Q2U := Q2W.later hbU
  have hBU : Below w.heap.size w U := hBW.trans (hbU.mono (by omega))
  have hsU := hbU.size
  clear hW p0 p1 p2 o0 o1 o2 hbU hBW Q0W Q1W Q2W
  go_wp2_with fail
  have lt_R0 := R0.lt
  have lt_R1 := R1.lt
  have lt_R2 := R2.lt
  have mkS : ∀ X, Kept (U.heap.size) U X → X.cell? ⟨w.heap.size, 0, none⟩ = some (.bool neg0) ∧ X.cell? ⟨w.heap.size, 1, none⟩ = some (.slice a0 xs0.length ca0) ∧ X.cell? ⟨w.heap.size, 2, none⟩ = some (.slice b0 ds0.length cb0) ∧ X.cell? ⟨w.heap.size + 1, 0, none⟩ = some (.bool neg1) ∧ X.cell? ⟨w.heap.size + 1, 1, none⟩ = some (.slice a1 xs1.length ca1) ∧ X.cell? ⟨w.heap.size + 1, 2, none⟩ = some (.slice b1 ds1.length cb1) ∧ X.cell? ⟨w.heap.size + 1 + 1, 0, none⟩ = some (.bool neg2) ∧ X.cell? ⟨w.heap.size + 1 + 1, 1, none⟩ = some (.slice a2 xs2.length ca2) ∧ X.cell? ⟨w.heap.size + 1 + 1, 2, none⟩ = some (.slice b2 ds2.length cb2) ∧ Kept (U.heap.size) U X := fun X h => ⟨(R0.kept h (by omega)).cell 0, (R0.kept h (by omega)).cell 1, (R0.kept h (by omega)).cell 2, (R1.kept h (by omega)).cell 0, (R1.kept h (by omega)).cell 1, (R1.kept h (by omega)).cell 2, (R2.kept h (by omega)).cell 0, (R2.kept h (by omega)).cell 1, (R2.kept h (by omega)).cell 2, h⟩
  go_region_held3 (fun X => X.cell? ⟨w.heap.size, 0, none⟩ = some (.bool neg0) ∧ X.cell? ⟨w.heap.size, 1, none⟩ = some (.slice a0 xs0.length ca0) ∧ X.cell? ⟨w.heap.size, 2, none⟩ = some (.slice b0 ds0.length cb0) ∧ X.cell? ⟨w.heap.size + 1, 0, none⟩ = some (.bool neg1) ∧ X.cell? ⟨w.heap.size + 1, 1, none⟩ = some (.slice a1 xs1.length ca1) ∧ X.cell? ⟨w.heap.size + 1, 2, none⟩ = some (.slice b1 ds1.length cb1) ∧ X.cell? ⟨w.heap.size + 1 + 1, 0, none⟩ = some (.bool neg2) ∧ X.cell? ⟨w.heap.size + 1 + 1, 1, none⟩ = some (.slice a2 xs2.length ca2) ∧ X.cell? ⟨w.heap.size + 1 + 1, 2, none⟩ = some (.slice b2 ds2.length cb2) ∧ Kept (U.heap.size) U X)
    (((refine mkS _ ?_; (repeat' (first | exact Kept.refl _ _ | refine Kept.drew ?_ | refine Kept.alloc ?_ _ | refine Kept.set ?_ _ _ | refine Kept.below ?_ (by assumption))))))
    ((first
      | (go_at_call 18; have hprev := hbw10; clear hprev; (with_reducible refine (known3_any _).mono ?_); rintro e w11 ⟨rfl, hbw11⟩; have hsw11 := hbw11.size; (try simp at hsw11); skip)
      | (go_at_call 40; have hprev := hbw9; clear hprev; (with_reducible refine (signQ_c qw9.arg hc0.out (by omega)).mono ?_); rintro e w10 ⟨rfl, hbw10⟩; have hsw10 := hbw10.size; (try simp at hsw10); skip)
      | (go_at_call 30; have hprev := hbw8; clear hprev; (with_reducible refine (subQ_any (Q0U.later (show Below U.heap.size U _ by (repeat' (first | exact Below.refl _ _ | refine Below.drew ?_ | refine Below.alloc ?_ (by (try simp) <;> omega) _ | refine below_set3 ?_ (by (try simp) <;> omega) _ _ _ | refine below_set2 ?_ (by (try simp) <;> omega) _ _ | refine Below.setCell ?_ (by (try simp) <;> omega) _ | refine Below.trans ?_ (Below.mono (by assumption) (by (try simp) <;> omega)))))) (Q1U.later (show Below U.heap.size U _ by (repeat' (first | exact Below.refl _ _ | refine Below.drew ?_ | refine Below.alloc ?_ (by (try simp) <;> omega) _ | refine below_set3 ?_ (by (try simp) <;> omega) _ _ _ | refine below_set2 ?_ (by (try simp) <;> omega) _ _ | refine Below.setCell ?_ (by (try simp) <;> omega) _ | refine Below.trans ?_ (Below.mono (by assumption) (by (try simp) <;> omega)))))) (by omega)).mono ?_); rintro e w9 ⟨r9, rfl, qw9, hbw9⟩; have hsw9 := hbw9.size; (try simp at hsw9); skip)
      | (go_at_call 40; have hprev := hbw7; clear hprev; (with_reducible refine (signQ_c (Q2U.later (show Below U.heap.size U _ by (repeat' (first | exact Below.refl _ _ | refine Below.drew ?_ | refine Below.alloc ?_ (by (try simp) <;> omega) _ | refine below_set3 ?_ (by (try simp) <;> omega) _ _ _ | refine below_set2 ?_ (by (try simp) <;> omega) _ _ | refine Below.setCell ?_ (by (try simp) <;> omega) _ | refine Below.trans ?_ (Below.mono (by assumption) (by (try simp) <;> omega)))))) hs0.out (by omega)).mono ?_); rintro e w8 ⟨rfl, hbw8⟩; have hsw8 := hbw8.size; (try simp at hsw8); skip)
      | (go_at_call 38; have hprev := hbw6; clear hprev; (with_reducible refine (cmpQ_c (qw5.arg.later (show Below w5.heap.size w5 _ by (repeat' (first | exact Below.refl _ _ | refine Below.drew ?_ | refine Below.alloc ?_ (by (try simp) <;> omega) _ | refine below_set3 ?_ (by (try simp) <;> omega) _ _ _ | refine below_set2 ?_ (by (try simp) <;> omega) _ _ | refine Below.setCell ?_ (by (try simp) <;> omega) _ | refine Below.trans ?_ (Below.mono (by assumption) (by (try simp) <;> omega)))))) qw6.arg H3.out (by omega)).mono ?_); rintro e w7 ⟨rfl, hbw7⟩; have hsw7 := hbw7.size; (try simp at hsw7); skip)
      | (go_at_call 32; have hprev := hbw5; clear hprev; (with_reducible refine (mulQ_any (Q1U.later (show Below U.heap.size U _ by (repeat' (first | exact Below.refl _ _ | refine Below.drew ?_ | refine Below.alloc ?_ (by (try simp) <;> omega) _ | refine below_set3 ?_ (by (try simp) <;> omega) _ _ _ | refine below_set2 ?_ (by (try simp) <;> omega) _ _ | refine Below.setCell ?_ (by (try simp) <;> omega) _ | refine Below.trans ?_ (Below.mono (by assumption) (by (try simp) <;> omega)))))) (Q2U.later (show Below U.heap.size U _ by (repeat' (first | exact Below.refl _ _ | refine Below.drew ?_ | refine Below.alloc ?_ (by (try simp) <;> omega) _ | refine below_set3 ?_ (by (try simp) <;> omega) _ _ _ | refine below_set2 ?_ (by (try simp) <;> omega) _ _ | refine Below.setCell ?_ (by (try simp) <;> omega) _ | refine Below.trans ?_ (Below.mono (by assumption) (by (try simp) <;> omega)))))) (by omega)).mono ?_); rintro e w6 ⟨r6, rfl, qw6, hbw6⟩; have hsw6 := hbw6.size; (try simp at hsw6); skip)
      | (go_at_call 32; have hprev := hbw4; clear hprev; (with_reducible refine (mulQ_any (Q0U.later (show Below U.heap.size U _ by (repeat' (first | exact Below.refl _ _ | refine Below.drew ?_ | refine Below.alloc ?_ (by (try simp) <;> omega) _ | refine below_set3 ?_ (by (try simp) <;> omega) _ _ _ | refine below_set2 ?_ (by (try simp) <;> omega) _ _ | refine Below.setCell ?_ (by (try simp) <;> omega) _ | refine Below.trans ?_ (Below.mono (by assumption) (by (try simp) <;> omega)))))) (Q2U.later (show Below U.heap.size U _ by (repeat' (first | exact Below.refl _ _ | refine Below.drew ?_ | refine Below.alloc ?_ (by (try simp) <;> omega) _ | refine below_set3 ?_ (by (try simp) <;> omega) _ _ _ | refine below_set2 ?_ (by (try simp) <;> omega) _ _ | refine Below.setCell ?_ (by (try simp) <;> omega) _ | refine Below.trans ?_ (Below.mono (by assumption) (by (try simp) <;> omega)))))) (by omega)).mono ?_); rintro e w5 ⟨r5, rfl, qw5, hbw5⟩; have hsw5 := hbw5.size; (try simp at hsw5); skip)
      | (go_at_call 38; have hprev := hbw3; clear hprev; (with_reducible refine (cmpQ_c (qw2.arg.later (show Below w2.heap.size w2 _ by (repeat' (first | exact Below.refl _ _ | refine Below.drew ?_ | refine Below.alloc ?_ (by (try simp) <;> omega) _ | refine below_set3 ?_ (by (try simp) <;> omega) _ _ _ | refine below_set2 ?_ (by (try simp) <;> omega) _ _ | refine Below.setCell ?_ (by (try simp) <;> omega) _ | refine Below.trans ?_ (Below.mono (by assumption) (by (try simp) <;> omega)))))) qw3.arg H2.out (by omega)).mono ?_); rintro e w4 ⟨rfl, hbw4⟩; have hsw4 := hbw4.size; (try simp at hsw4); skip)
      | (go_at_call 28; have hprev := hbw2; clear hprev; (with_reducible refine (addQ_any (Q1U.later (show Below U.heap.size U _ by (repeat' (first | exact Below.refl _ _ | refine Below.drew ?_ | refine Below.alloc ?_ (by (try simp) <;> omega) _ | refine below_set3 ?_ (by (try simp) <;> omega) _ _ _ | refine below_set2 ?_ (by (try simp) <;> omega) _ _ | refine Below.setCell ?_ (by (try simp) <;> omega) _ | refine Below.trans ?_ (Below.mono (by assumption) (by (try simp) <;> omega)))))) (Q2U.later (show Below U.heap.size U _ by (repeat' (first | exact Below.refl _ _ | refine Below.drew ?_ | refine Below.alloc ?_ (by (try simp) <;> omega) _ | refine below_set3 ?_ (by (try simp) <;> omega) _ _ _ | refine below_set2 ?_ (by (try simp) <;> omega) _ _ | refine Below.setCell ?_ (by (try simp) <;> omega) _ | refine Below.trans ?_ (Below.mono (by assumption) (by (try simp) <;> omega)))))) (by omega)).mono ?_); rintro e w3 ⟨r3, rfl, qw3, hbw3⟩; have hsw3 := hbw3.size; (try simp at hsw3); skip)
      | (go_at_call 28; have hprev := hbw1; clear hprev; (with_reducible refine (addQ_any (Q0U.later (show Below U.heap.size U _ by (repeat' (first | exact Below.refl _ _ | refine Below.drew ?_ | refine Below.alloc ?_ (by (try simp) <;> omega) _ | refine below_set3 ?_ (by (try simp) <;> omega) _ _ _ | refine below_set2 ?_ (by (try simp) <;> omega) _ _ | refine Below.setCell ?_ (by (try simp) <;> omega) _ | refine Below.trans ?_ (Below.mono (by assumption) (by (try simp) <;> omega)))))) (Q2U.later (show Below U.heap.size U _ by (repeat' (first | exact Below.refl _ _ | refine Below.drew ?_ | refine Below.alloc ?_ (by (try simp) <;> omega) _ | refine below_set3 ?_ (by (try simp) <;> omega) _ _ _ | refine below_set2 ?_ (by (try simp) <;> omega) _ _ | refine Below.setCell ?_ (by (try simp) <;> omega) _ | refine Below.trans ?_ (Below.mono (by assumption) (by (try simp) <;> omega)))))) (by omega)).mono ?_); rintro e w2 ⟨r2, rfl, qw2, hbw2⟩; have hsw2 := hbw2.size; (try simp at hsw2); skip)
      | (go_at_call 38; (with_reducible refine (cmpQ_c (Q1U.later (show Below U.heap.size U _ by (repeat' (first | exact Below.refl _ _ | refine Below.drew ?_ | refine Below.alloc ?_ (by (try simp) <;> omega) _ | refine below_set3 ?_ (by (try simp) <;> omega) _ _ _ | refine below_set2 ?_ (by (try simp) <;> omega) _ _ | refine Below.setCell ?_ (by (try simp) <;> omega) _ | refine Below.trans ?_ (Below.mono (by assumption) (by (try simp) <;> omega)))))) (Q0U.later (show Below U.heap.size U _ by (repeat' (first | exact Below.refl _ _ | refine Below.drew ?_ | refine Below.alloc ?_ (by (try simp) <;> omega) _ | refine below_set3 ?_ (by (try simp) <;> omega) _ _ _ | refine below_set2 ?_ (by (try simp) <;> omega) _ _ | refine Below.setCell ?_ (by (try simp) <;> omega) _ | refine Below.trans ?_ (Below.mono (by assumption) (by (try simp) <;> omega)))))) H1.out (by omega)).mono ?_); rintro e w1 ⟨rfl, hbw1⟩; have hsw1 := hbw1.size; (try simp at hsw1); skip)))
  go_wp2_with fail
  go_ret
  exact ⟨rfl, hBU.trans ((show Below U.heap.size U _ by (repeat' (first | exact Below.refl _ _ | refine Below.drew ?_ | refine Below.alloc ?_ (by (try simp) <;> omega) _ | refine below_set3 ?_ (by (try simp) <;> omega) _ _ _ | refine below_set2 ?_ (by (try simp) <;> omega) _ _ | refine Below.setCell ?_ (by (try simp) <;> omega) _ | refine Below.trans ?_ (Below.mono (by assumption) (by (try simp) <;> omega))))).mono (by omega))⟩

namespace ratGoes
theorem contract (H : Type) (enc : TypeId × Value → H) (W : World) (base : Nat) (args : Array Value) (ds gs : List (DataW H)) (before : List MemPlace)
    (hval : ∀ (j : Nat) t v, Try.f10.params[j]? = some t → args[j]? = some v → Value.okWide Try.prog W .any base t v)
    (hW : DataW.Whole enc Try.prog Try.f10.params.toList Rows.ratGoesSpec.vars false W args.toList ds gs before) (hk : Rows.uptoSmall H (ds ++ gs) = true) :
    Calls Try.prog 10 args W fun e W' => ∃ v, e = .returned v ∧ Rows.ratGoesSpec.post enc Try.prog Try.f10 false true false false W args v W' := by
  have hW' := hW
  have hlt := fun p hp => hW'.lt p hp
  obtain ⟨p, q, hA0, hV, rfl, hfz, hnd⟩ := hW
  have hA : DataW.TrodAll enc Try.prog W 0 (fun _ => true) true Try.f10.params.toList args.toList ds p := hA0
  rw [Try.params10] at hA hval
  obtain ⟨v0, vs0, d0, ds0, p0, q0, ha0, rfl, rfl, h0, r0⟩ := trodAll_cons hA
  obtain ⟨v1, vs1, d1, ds1, p1, q1, ha1, rfl, rfl, h1, r1⟩ := trodAll_cons r0
  obtain ⟨v2, vs2, d2, ds2, p2, q2, ha2, rfl, rfl, h2, r2⟩ := trodAll_cons r1
  obtain ⟨rfl, rfl, rfl⟩ := trodAll_nil r2
  subst ha1
  subst ha2
  obtain rfl : args = #[v0, v1, v2] := by cases args; simp_all
  obtain ⟨rfl, rfl⟩ := trodVars_none hV
  clear hA hA0 hV
  simp only [List.append_nil] at hW' hk hlt
  obtain ⟨k0, k1, k2⟩ := small3 hk
  obtain ⟨neg0, xs0, ys0, a0, b0, ca0, cb0, rfl, A0, B0, lx0, ly0, nx0, ny0⟩ := open_rat (hval 0 25 v0 rfl rfl) h0 k0
  obtain ⟨neg1, xs1, ys1, a1, b1, ca1, cb1, rfl, A1, B1, lx1, ly1, nx1, ny1⟩ := open_rat (hval 1 25 v1 rfl rfl) h1 k1
  obtain ⟨neg2, xs2, ys2, a2, b2, ca2, cb2, rfl, A2, B2, lx2, ly2, nx2, ny2⟩ := open_rat (hval 2 25 v2 rfl rfl) h2 k2
  refine (ratGoes_walk neg0 xs0 ys0 a0 b0 ca0 cb0 neg1 xs1 ys1 a1 b1 ca1 cb1 neg2 xs2 ys2 a2 b2 ca2 cb2 W A0 B0 lx0 ly0 nx0 ny0 A1 B1 lx1 ly1 nx1 ny1 A2 B2 lx2 ly2 nx2 ny2).mono fun e W' ⟨he, hb⟩ => ?_
  subst he
  have t0 := Below.trod laid (by kernel_rfl) (of_decide_eq_true (by kernel_rfl)) h0 hb (fun x hx => hlt x (by simp [hx]))
  have t1 := Below.trod laid (by kernel_rfl) (of_decide_eq_true (by kernel_rfl)) h1 hb (fun x hx => hlt x (by simp [hx]))
  have t2 := Below.trod laid (by kernel_rfl) (of_decide_eq_true (by kernel_rfl)) h2 hb (fun x hx => hlt x (by simp [hx]))
  exact ⟨_, rfl, [d0, d1, d2], [], (p0 ++ (p1 ++ p2)), [], (p0 ++ (p1 ++ (p2 ++ []))), [], hW', trodAll_cons_mk (shut_bool Try.underlying4 _) trodAll_mk0,
    (trodAll_cons_mk t0 (trodAll_cons_mk t1 (trodAll_cons_mk t2 trodAll_mk0))), rfl, hb.frame _, fun h => by cases h⟩

set_option maxRecDepth 100000 in
theorem lifted (os : Os) (started : os.Started) (H : Type) (enc : TypeId × Value → H) (F : Stop.Interp) :
    ReturnsInHanded {} Try.checked os 10 .any ((Rows.OpenSpec.upto Rows.ratGoesSpec).pre6 enc Try.prog Try.f10 Rows.ratGoesUptoRow.domain false) (((Rows.OpenSpec.upto Rows.ratGoesSpec).at F).post enc Try.prog Try.f10 false true false false) := by
  refine returnsInHanded_of_cond (C := Try.checked) (s := Rows.OpenSpec.upto Rows.ratGoesSpec) (k := Rows.uptoSmall) rfl own started (by kernel_rfl) Try.func10
    (OpenSpec.witness (enc := enc) (C := Try.checked) (s := Rows.OpenSpec.upto Rows.ratGoesSpec) (k := Rows.uptoSmall) rfl false ⟨#[], #[.agg #[.bool false, .slice none 0 0, .slice none 0 0], .agg #[.bool false, .slice none 0 0, .slice none 0 0], .agg #[.bool false, .slice none 0 0, .slice none 0 0]], []⟩ 8 (by kernel_rfl) (by kernel_rfl) (by kernel_rfl)
      (x := ([.agg [.lit (.bool false), .nil, .nil], .agg [.lit (.bool false), .nil, .nil], .agg [.lit (.bool false), .nil, .nil]], [], [])) (by kernel_rfl) rfl (by kernel_rfl)) ?_
  intro W base args ds gs before hval hW _ hk _
  exact contract H enc W base args ds gs before hval hW hk

theorem proved : Rows.RatGoesUptoSaid :=
  OpenClaim.holds_of_cond 10 Try.f10 rfl rfl rfl rfl rfl rfl rfl ⟨rfl, rfl, rfl, rfl, rfl⟩ rfl rfl rfl rfl rfl (by kernel_rfl) Try.func10 (by kernel_rfl)
    (of_decide_eq_true (by kernel_rfl)) (by unfold Func.isWrapper; first | (rw [if_pos (by decide +kernel)]; kernel_rfl) | (rw [if_neg (by decide +kernel)]; exact ⟨rfl, rfl⟩))
    (fun os started H enc _ F => lifted os started H enc F)
end ratGoes
end Go.Proofs.Ytofiebilokhccaa
