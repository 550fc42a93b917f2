/-
  ShapeStrides. (Made by wip/gen/gen_slaws.py.)
-/
import Derived.Test.YthlohkehacnolaaSOpen
import Derived.Deep.RegionHeld3
import Derived.StillTailTactics
namespace Go.Proofs.Ythlohkehacnolaa
open Go.RowKit
set_option linter.unusedVariables false
set_option linter.unusedSimpArgs false

theorem Calls.quiet_eqS {P : Program} {f : FuncId} {args : Array Value} {w : World} {n : Nat} {v : Value} (h : Calls P f args (w.drewN n) fun e w' => e = .returned v ∧ w.drewN n = w') :
    Calls P f args (w.drewN n) fun e w'' => e = .returned v ∧ ∃ m, w'' = w.drewN m := h.mono fun _ _ ⟨he, hm⟩ => ⟨he, n, hm.symm⟩

set_option maxRecDepth 100000 in
set_option maxHeartbeats 8000000 in
theorem shapeStrides_walk (xs0 : List Int) (a0 : Option Addr) (ca0 : Nat) (w : World) (A0 : ArgS w (.slice a0 xs0.length ca0) xs0 a0 ca0) (l0 : xs0.length ≤ 17592186043904) (n0 : a0 = none → ca0 = 0) :
    Calls Try.prog 4 #[.slice a0 xs0.length ca0] w fun e w' => e = .returned (.bool true) ∧ Below w.heap.size w w' := by
  have ms := stridesS_any A0 n0 (by omega)
  have m1 := fun W (hb : Below w.heap.size w W) => mayR6_any (A0.later hb)
  obtain ⟨L, hL⟩ : ∃ L, xs0.length = L := ⟨_, rfl⟩
  by_cases hm0 : mayC xs0 = 0
  · have ok := mayC_zero.1 hm0
    have hstr := fun W (hb : Below w.heap.size w W) i (hi : i < xs0.length) => strideR_any (A0.later hb) ok hi
    have hcn := fun W (hb : Below w.heap.size w W) => countS_any (A0.later hb) (by omega)
    simp only [ok.count] at hcn
    rw [strideS_ok hm0, hL] at ms
    simp only [hm0, hL] at m1
    simp only [hL] at hstr hcn
    have hsl := strideL_length xs0
    rw [hL] at hsl
    have hat := fun i (hi : i < xs0.length) => strideL_at xs0 hi
    simp only [hL] at hat
    have h4 : L ≤ 4 := by rw [← hL]; exact ok.rank
    have HA := Lib.hid A0
    have HO := Lib.hid ok
    have HL := Lib.hid hL
    have HAT := Lib.hid hat
    rw [hL]
    obtain ⟨S, hS⟩ : ∃ S, strideL xs0 = S := ⟨_, rfl⟩
    simp only [hS] at ms hsl
    have HSL := Lib.hid hsl
    have HS := Lib.hid hS
    clear A0 l0 n0 hL ok hm0 hat hsl hS
    go_enter Try.func4, Try.ntmps4
    go_wp2_with fail
    refine ms.mono ?_
    rintro e w1 ⟨r1, rfl, R1, hb1⟩
    have hs1 := hb1.size
    obtain ⟨b1, c1, rfl, Q1, A1, n1⟩ := R1.slice
    have HA1 := Lib.hid A1
    rw [HSL.out]
    clear ms R1 Q1 A1
    go_wp2_with fail
    refine (m1 _ hb1).mono ?_
    rintro e w2 ⟨rfl, rfl⟩
    have hnL : ((L : Int) != (L : Int)) = false := by simp
    clear m1
    go_wp2_with fail
    go_loopw [4] (fun i wr => ∃ k : Nat, i = .int .i64 (k : Int) ∧ k ≤ L ∧ Below w1.heap.size w1 wr) (fun i _ => L - (intOf i).toNat)
    case atStart => exact ⟨0, rfl, Nat.zero_le _, Below.refl _ _⟩
    case round =>
      obtain ⟨k, rfl, hkL, hb⟩ := hrel
      have hB := hb1.trans (hb.mono hs1)
      have hSR := hB.size
      have hsr := hb.size
      by_cases hlt : k < L
      · obtain ⟨bl, o1, rfl, hc1⟩ := (HA1.out.later hb).at (i := k) (by rw [HSL.out]; exact hlt)
        have hst := hstr wr hB k hlt
        have hv : S.getD k 0 = prodS (xs0.drop (k + 1)) := by rw [← HS.out]; exact HAT.out k hlt
        rw [← hv] at hst
        obtain ⟨x, hx⟩ : ∃ x, S.getD k 0 = x := ⟨_, rfl⟩
        rw [hx] at hc1 hst
        have hn : (x != x) = false := by simp
        have hltI : (k : Int) < (L : Int) := by omega
        have hk0 : (0 : Int) ≤ (k : Int) := by omega
        have HV := Lib.hid (hv.symm.trans hx)
        clear hv hx hst
        have lb1 := World.block_lt_of_cell? wr _ hc1
        have mkS : ∀ X, Below wr.heap.size wr X → X.cell? ⟨bl, o1 + k, none⟩ = some (.int .i64 x) ∧ Below wr.heap.size wr X := fun X h => ⟨(h.cell (p := ⟨bl, o1 + k, none⟩) lb1).trans hc1, h⟩
        have hst2 : ∀ X, Below wr.heap.size wr X → Calls Try.prog 20 #[.slice a0 L ca0, .int .i64 (k : Int)] X fun e w' => e = .returned (.int .i64 x) ∧ X = w' := fun X h => by
          have h2 := hstr X (hB.trans (h.mono hSR)) k hlt
          rw [HV.out] at h2
          exact h2
        go_wp2
        go_region_held3 (fun X => X.cell? ⟨bl, o1 + k, none⟩ = some (.int .i64 x) ∧ Below wr.heap.size wr X)
          ((refine mkS _ ?_; (repeat' (first | exact Below.refl _ _ | refine Below.drew ?_ | refine Below.trans ?_ (Below.mono (by assumption) (by (try simp) <;> omega))))))
          ((go_at_call 20; (with_reducible refine (hst2 _ (by (repeat' (first | exact Below.refl _ _ | refine Below.drew ?_ | refine Below.trans ?_ (Below.mono (by assumption) (by (try simp) <;> omega)))))).mono ?_); rintro e v5 ⟨rfl, rfl⟩))
        all_goals
          go_wp2
          go_roundw
          case rel => exact ⟨k + 1, by go_num, by omega, hb.trans ((show Below wr.heap.size wr _ by (repeat' (first | exact Below.refl _ _ | refine Below.drew ?_ | refine Below.trans ?_ (Below.mono (by assumption) (by (try simp) <;> omega))))).mono hsr)⟩
          case measure => simp [intOf]; omega
      · obtain rfl : k = L := by omega
        have hltI : ¬ (k : Int) < (k : Int) := by omega
        clear hstr
        rcases Nat.eq_zero_or_pos k with h0 | hpos
        · subst h0
          go_wp2_with fail
          refine wp_region_held_drew (S := fun X => Below wr.heap.size wr X) (by kernel_rfl) (Below.drew (Below.refl _ _)) (fun hHeld => ?_)
          refine wpAnyH_take (i := 0) (oi := _) (v := .slice a0 0 ca0) rfl (by kernel_rfl) (by kernel_rfl) (by kernel_rfl) (fun _ _ _ h => h) (Or.inl ⟨by rfl, by (intro w hSw; (try dsimp only at hSw); go_simp)⟩) (by assumption) ?_
          (try simp only [Act.put, List.getElem_toArray, List.getElem_cons_succ, List.getElem_cons_zero, List.setIfInBounds_toArray, List.set_cons_zero, List.set_cons_succ])
          refine wpAnyH_take (i := 1) (oi := _) (v := .int .i64 0) rfl (by kernel_rfl) (by kernel_rfl) (by kernel_rfl) (fun _ _ _ h => h) (Or.inl ⟨by rfl, by (intro w hSw; (try dsimp only at hSw); go_simp)⟩) (by assumption) ?_
          (try simp only [Act.put, List.getElem_toArray, List.getElem_cons_succ, List.getElem_cons_zero, List.setIfInBounds_toArray, List.set_cons_zero, List.set_cons_succ])
          refine wpAnyH_take (i := 2) (oi := _) (v := .bool true) rfl (by kernel_rfl) (by kernel_rfl) (by kernel_rfl) (fun _ _ _ h => h) (Or.inl ⟨by rfl, by (intro w hSw; (try dsimp only at hSw); go_simp)⟩) (by assumption) ?_
          (try simp only [Act.put, List.getElem_toArray, List.getElem_cons_succ, List.getElem_cons_zero, List.setIfInBounds_toArray, List.set_cons_zero, List.set_cons_succ])
          refine wpAnyH_take (i := 3) (oi := _) (v := .bool true) rfl (by kernel_rfl) (by kernel_rfl) (by kernel_rfl) (fun _ _ _ h => h) (Or.inl ⟨by rfl, by (intro w hSw; (try dsimp only at hSw); go_simp)⟩) (by assumption) ?_
          (try simp only [Act.put, List.getElem_toArray, List.getElem_cons_succ, List.getElem_cons_zero, List.setIfInBounds_toArray, List.set_cons_zero, List.set_cons_succ])
          refine wpAnyH_take (i := 4) (oi := _) (v := undef) rfl (by kernel_rfl) (by kernel_rfl) (by kernel_rfl) (fun _ _ _ h => h) (Or.inr ⟨by rfl, rfl⟩) (by assumption) ?_
          (try simp only [Act.put, List.getElem_toArray, List.getElem_cons_succ, List.getElem_cons_zero, List.setIfInBounds_toArray, List.set_cons_zero, List.set_cons_succ])
          refine wpAnyH_take (i := 5) (oi := _) (v := undef) rfl (by kernel_rfl) (by kernel_rfl) (by kernel_rfl) (fun _ _ _ h => h) (Or.inr ⟨by rfl, rfl⟩) (by assumption) ?_
          (try simp only [Act.put, List.getElem_toArray, List.getElem_cons_succ, List.getElem_cons_zero, List.setIfInBounds_toArray, List.set_cons_zero, List.set_cons_succ])
          refine wpAnyH_take (i := 6) (oi := _) (v := undef) rfl (by kernel_rfl) (by kernel_rfl) (by kernel_rfl) (fun _ _ _ h => h) (Or.inr ⟨by rfl, rfl⟩) (by assumption) ?_
          (try simp only [Act.put, List.getElem_toArray, List.getElem_cons_succ, List.getElem_cons_zero, List.setIfInBounds_toArray, List.set_cons_zero, List.set_cons_succ])
          refine wpAnyH_take (i := 7) (oi := _) (v := undef) rfl (by kernel_rfl) (by kernel_rfl) (by kernel_rfl) (fun _ _ _ h => h) (Or.inr ⟨by rfl, rfl⟩) (by assumption) ?_
          (try simp only [Act.put, List.getElem_toArray, List.getElem_cons_succ, List.getElem_cons_zero, List.setIfInBounds_toArray, List.set_cons_zero, List.set_cons_succ])
          refine wpAnyH_take (i := 8) (oi := _) (v := undef) rfl (by kernel_rfl) (by kernel_rfl) (by kernel_rfl) (fun _ _ _ h => h) (Or.inr ⟨by rfl, rfl⟩) (by assumption) ?_
          (try simp only [Act.put, List.getElem_toArray, List.getElem_cons_succ, List.getElem_cons_zero, List.setIfInBounds_toArray, List.set_cons_zero, List.set_cons_succ])
          refine wpAnyH_take (i := 9) (oi := _) (v := undef) rfl (by kernel_rfl) (by kernel_rfl) (by kernel_rfl) (fun _ _ _ h => h) (Or.inr ⟨by rfl, rfl⟩) (by assumption) ?_
          (try simp only [Act.put, List.getElem_toArray, List.getElem_cons_succ, List.getElem_cons_zero, List.setIfInBounds_toArray, List.set_cons_zero, List.set_cons_succ])
          refine wpAnyH_take (i := 10) (oi := _) (v := undef) rfl (by kernel_rfl) (by kernel_rfl) (by kernel_rfl) (fun _ _ _ h => h) (Or.inr ⟨by rfl, rfl⟩) (by assumption) ?_
          (try simp only [Act.put, List.getElem_toArray, List.getElem_cons_succ, List.getElem_cons_zero, List.setIfInBounds_toArray, List.set_cons_zero, List.set_cons_succ])
          refine wpAnyH_take (i := 11) (oi := _) (v := undef) rfl (by kernel_rfl) (by kernel_rfl) (by kernel_rfl) (fun _ _ _ h => h) (Or.inr ⟨by rfl, rfl⟩) (by assumption) ?_
          (try simp only [Act.put, List.getElem_toArray, List.getElem_cons_succ, List.getElem_cons_zero, List.setIfInBounds_toArray, List.set_cons_zero, List.set_cons_succ])
          refine wpAnyH_take (i := 12) (oi := _) (v := undef) rfl (by kernel_rfl) (by kernel_rfl) (by kernel_rfl) (fun _ _ _ h => h) (Or.inr ⟨by rfl, rfl⟩) (by assumption) ?_
          (try simp only [Act.put, List.getElem_toArray, List.getElem_cons_succ, List.getElem_cons_zero, List.setIfInBounds_toArray, List.set_cons_zero, List.set_cons_succ])
          refine wpAnyH_take (i := 13) (oi := _) (v := undef) rfl (by kernel_rfl) (by kernel_rfl) (by kernel_rfl) (fun _ _ _ h => h) (Or.inr ⟨by rfl, rfl⟩) (by assumption) ?_
          (try simp only [Act.put, List.getElem_toArray, List.getElem_cons_succ, List.getElem_cons_zero, List.setIfInBounds_toArray, List.set_cons_zero, List.set_cons_succ])
          refine wpAnyH_take (i := 14) (oi := _) (v := .bool true) rfl (by kernel_rfl) (by kernel_rfl) (by kernel_rfl) (fun _ _ _ h => h) (Or.inl ⟨by rfl, by (intro w hSw; (try dsimp only at hSw); go_simp)⟩) (by assumption) ?_
          (try simp only [Act.put, List.getElem_toArray, List.getElem_cons_succ, List.getElem_cons_zero, List.setIfInBounds_toArray, List.set_cons_zero, List.set_cons_succ])
          refine wpAnyH_take (i := 15) (oi := _) (v := .bool true) rfl (by kernel_rfl) (by kernel_rfl) (by kernel_rfl) (fun _ _ _ h => h) (Or.inl ⟨by rfl, by (intro w hSw; (try dsimp only at hSw); go_simp)⟩) (by assumption) ?_
          (try simp only [Act.put, List.getElem_toArray, List.getElem_cons_succ, List.getElem_cons_zero, List.setIfInBounds_toArray, List.set_cons_zero, List.set_cons_succ])
          refine wpAnyH_ready (rs := [16]) (by kernel_rfl) (by simp) ?_
          refine AllReadyH.cons (o := _) rfl (fun K hK => ?_) AllReadyH.nil
          rw [if_pos (by rfl)]
          go_simp
          refine (known6_any _).mono ?_
          rintro e v4 ⟨rfl, hbv4⟩
          refine hK.out _ _ (Below.trans (Below.drew (Below.refl _ _)) hbv4) (fun hHeld4 => ?_)
          (try simp only [Act.put, List.getElem_toArray, List.getElem_cons_succ, List.getElem_cons_zero, List.setIfInBounds_toArray, List.set_cons_zero, List.set_cons_succ])
          refine wpAnyH_take (i := 17) (oi := _) (v := .bool true) rfl (by kernel_rfl) (by kernel_rfl) (by kernel_rfl) (fun _ _ _ h => h) (Or.inl ⟨by rfl, by (intro w hSw; (try dsimp only at hSw); go_simp)⟩) (by assumption) ?_
          (try simp only [Act.put, List.getElem_toArray, List.getElem_cons_succ, List.getElem_cons_zero, List.setIfInBounds_toArray, List.set_cons_zero, List.set_cons_succ])
          refine wpAnyH_take (i := 18) (oi := _) (v := .bool true) rfl (by kernel_rfl) (by kernel_rfl) (by kernel_rfl) (fun _ _ _ h => h) (Or.inl ⟨by rfl, by (intro w hSw; (try dsimp only at hSw); go_simp)⟩) (by assumption) ?_
          (try simp only [Act.put, List.getElem_toArray, List.getElem_cons_succ, List.getElem_cons_zero, List.setIfInBounds_toArray, List.set_cons_zero, List.set_cons_succ])
          refine wpAnyH_done (by kernel_rfl) ?_ _
          go_wp2_with fail
          go_ret
          exact ⟨rfl, hB.trans (hHeld4.mono hSR)⟩
        · obtain ⟨bl, o1, rfl, hc1⟩ := (HA1.out.later hb).at (i := 0) (by rw [HSL.out]; exact hpos)
          obtain ⟨b2, o2, rfl, hc2⟩ := (HA.out.later hB).at (i := 0) (by rw [HL.out]; exact hpos)
          have hv : S.getD 0 0 = prodS (xs0.drop 1) := by rw [← HS.out]; exact HAT.out 0 hpos
          have hpd := prodS_drop (s := xs0) (k := 0) (by rw [HL.out]; exact hpos)
          rw [List.drop_zero] at hpd
          have hP1 := prodS_pos HO.out.pos
          have hP2 := HO.out.few
          obtain ⟨x, hx⟩ : ∃ x, S.getD 0 0 = x := ⟨_, rfl⟩
          obtain ⟨y, hy⟩ : ∃ y, xs0.getD 0 0 = y := ⟨_, rfl⟩
          rw [Nat.add_zero, hx] at hc1
          rw [Nat.add_zero, hy] at hc2
          rw [hx] at hv
          rw [hy, ← hv, Int.mul_comm] at hpd
          obtain ⟨p, hp⟩ : ∃ p, prodS xs0 = p := ⟨_, rfl⟩
          rw [hp] at hpd hP1 hP2
          simp only [hp] at hcn
          have hw : wrap64 (x * y) = p := by unfold wrap64; rw [← hpd]; omega
          have hw2 : IntKind.i64.wrap (x * y) = p := by rw [← hpd]; exact IntWalk.i64_in _ (by omega)
          have hpn : ((k : Int) == 0) = false := by rw [beq_eq_false_iff_ne]; omega
          have hkp : (0 : Int) < (k : Int) := by omega
          have hpp : (p == p) = true := by simp
          have lb1 := World.block_lt_of_cell? wr _ hc1
          have lb2 := World.block_lt_of_cell? wr _ hc2
          have mkS : ∀ X, Below wr.heap.size wr X → X.cell? ⟨bl, o1, none⟩ = some (.int .i64 x) ∧ X.cell? ⟨b2, o2, none⟩ = some (.int .i64 y) ∧ Below wr.heap.size wr X := fun X h => ⟨(h.cell (p := ⟨bl, o1, none⟩) lb1).trans hc1, (h.cell (p := ⟨b2, o2, none⟩) lb2).trans hc2, h⟩
          have hcn2 := fun X (h : Below wr.heap.size wr X) => hcn X (hB.trans (h.mono hSR))
          clear hv hx hy hp hpd hcn lb1 lb2
          go_wp2_with fail
          go_region_held3 (fun X => X.cell? ⟨bl, o1, none⟩ = some (.int .i64 x) ∧ X.cell? ⟨b2, o2, none⟩ = some (.int .i64 y) ∧ Below wr.heap.size wr X)
            ((refine mkS _ ?_; (repeat' (first | exact Below.refl _ _ | refine Below.drew ?_ | refine Below.trans ?_ (Below.mono (by assumption) (by (try simp) <;> omega))))))
            ((first
              | (go_at_call 18; (with_reducible refine (known6_any _).mono ?_); rintro e v4 ⟨rfl, hbv4⟩; have hsv4 := hbv4.size; (try simp at hsv4); skip)
              | (go_at_call 16; (with_reducible refine (hcn2 _ (by (repeat' (first | exact Below.refl _ _ | refine Below.drew ?_ | refine Below.trans ?_ (Below.mono (by assumption) (by (try simp) <;> omega)))))).mono ?_); rintro e v5 ⟨rfl, hbv5⟩; have hsv5 := hbv5.size; (try simp at hsv5); skip)))
          all_goals (go_wp2_with fail; go_ret; exact ⟨rfl, hB.trans ((show Below wr.heap.size wr _ by (repeat' (first | exact Below.refl _ _ | refine Below.drew ?_ | refine Below.trans ?_ (Below.mono (by assumption) (by (try simp) <;> omega))))).mono hSR)⟩)
  · rw [strideS_bad hm0, hL] at ms
    obtain ⟨c, hc⟩ : ∃ c, mayC xs0 = c := ⟨_, rfl⟩
    simp only [hc, hL] at m1
    rw [hc] at hm0
    have hne : (c != 0) = true := bne_iff_ne.2 hm0
    rw [hL]
    clear A0 l0 n0 hL hc hm0
    go_enter Try.func4, Try.ntmps4
    have B0 : Below w.heap.size w w := Below.refl _ _
    have S0 := B0.size
    go_wp2_with fail
    refine (ms).mono ?_
    rintro e w1 ⟨r1, rfl, R1, hb⟩
    have B1 := B0.trans (hb.mono S0)
    have S1 := B1.size
    obtain ⟨b1, c1, rfl, _, _, _⟩ := R1.slice
    clear R1
    clear hb
    go_wp2_with fail
    refine (m1 _ B1).mono ?_
    rintro e w2 ⟨rfl, rfl⟩
    go_wp2_with fail
    refine (known6_any _).mono ?_
    rintro e w2 ⟨rfl, hb⟩
    have B2 := B1.trans (hb.mono S1)
    have S2 := B2.size
    clear hb
    go_wp2_with fail
    go_ret
    exact ⟨rfl, B2⟩

namespace shapeStrides
open Go.ChangeShapes Go.WideShapes Go.ChangeAt
theorem contract (H : Type) (enc : TypeId × Value → H) (W : World) (base : Nat) (args : Array Value) (ds gs : List (DataW H)) (before : List MemPlace)
    (hval : ∀ (j : Nat) t v, Try.f4.params[j]? = some t → args[j]? = some v → Value.okWide Try.prog W .any base t v)
    (hW : DataW.Whole enc Try.prog Try.f4.params.toList Rows.shapeStridesSpec.vars false W args.toList ds gs before) (hsz0 : (DataW.weightsEach Try.prog (Try.f4.params.toList ++ Rows.shapeStridesSpec.plain.varTypes Try.prog) (ds ++ gs)).all (· ≤ reachBytes) = true) :
    Calls Try.prog 4 args W fun e W' => ∃ v, e = .returned v ∧ Rows.shapeStridesSpec.post enc Try.prog Try.f4 false true false false W args v W' := by
  have hW' := hW
  have hlt := fun p hp => hW'.lt p hp
  have hsz : (DataW.weightsEach Try.prog (Try.f4.params.toList ++ []) (ds ++ gs)).all (· ≤ reachBytes) = true := hsz0
  obtain ⟨p, q, hA0, hV, rfl, hfz, hnd⟩ := hW
  have hA : DataW.TrodAll enc Try.prog W 0 (fun _ => true) true Try.f4.params.toList args.toList ds p := hA0
  rw [Try.params4] at hA hval hsz
  obtain ⟨v0, vs0, d0, ds0, p0, q0, ha0, rfl, rfl, h0, r0⟩ := trodAll_cons hA
  obtain ⟨rfl, rfl, rfl⟩ := trodAll_nil r0
  obtain rfl : args = #[v0] := by cases args; simp_all
  obtain ⟨rfl, rfl⟩ := trodVars_none hV
  clear hA hA0 hV
  simp only [List.append_nil] at hW' hlt hsz
  (try simp only [List.nil_append] at hW' hlt hsz)
  obtain ⟨a0, xs0, ca0, A0, l0, n0⟩ := open_shape (okWide_slice Try.underlying23 (hval 0 23 v0 rfl rfl)) h0 (reach_shape hsz (j := 0) rfl rfl)
  have e0 := A0.is
  subst e0
  refine (shapeStrides_walk xs0 a0 ca0 W A0 l0 n0).mono fun e W' ⟨he, hb⟩ => ?_
  subst he
  have t0 := Below.trod laid (by kernel_rfl) (of_decide_eq_true (by kernel_rfl)) h0 hb (fun x hx => hlt x (by simp [hx]))
  exact ⟨_, rfl, [d0], [], p0, [], (p0 ++ []), [], hW', trodAll_cons_mk (shut_bool Try.underlying4 _) trodAll_mk0,
    (trodAll_cons_mk t0 trodAll_mk0), rfl, hb.frame _, fun h => by cases h⟩

set_option maxRecDepth 100000 in
theorem lifted (os : Os) (started : os.Started) (H : Type) (enc : TypeId × Value → H) :
    ReturnsInHanded {} Try.checked os 4 .any (Rows.shapeStridesSpec.pre6 enc Try.prog Try.f4 Rows.shapeStridesRow.domain false) (Rows.shapeStridesSpec.post enc Try.prog Try.f4 false true false false) := by
  refine returnsInHanded_of_change_sized (C := Try.checked) own started (by kernel_rfl) Try.func4
    (ChangeSpec.witness6 (enc := enc) (C := Try.checked) false ⟨#[], #[.slice none 0 0], []⟩ 8 (by kernel_rfl) (by kernel_rfl) (by kernel_rfl) (by kernel_rfl)) ?_
  intro W base args ds gs before hval hW _ hsz0 _
  exact contract H enc W base args ds gs before hval hW hsz0

theorem proved : Rows.ShapeStridesSaid :=
  OpenClaim.holds_of_wide 4 Try.f4 rfl rfl rfl rfl rfl rfl rfl ⟨rfl, rfl, rfl, rfl, rfl⟩ rfl rfl rfl rfl rfl (by kernel_rfl) Try.func4 (by kernel_rfl)
    (of_decide_eq_true (by kernel_rfl)) (by unfold Func.isWrapper; first | (rw [if_pos (by decide +kernel)]; kernel_rfl) | (rw [if_neg (by decide +kernel)]; exact ⟨rfl, rfl⟩))
    (fun os started H enc _ => lifted os started H enc)
end shapeStrides
end Go.Proofs.Ythlohkehacnolaa
