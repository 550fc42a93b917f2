/-
  Part 1 of 5: contracts and what they rest on (SPart, TCopy, MCode2, IRef1, IRef2).
-/
import Derived.Test.YtdcggcfgkhlblaaL21
import Derived.WalkKit
import Derived.Test.YtdcggcfgkhlblaaRows
import Derived.OrdersHeld
import Derived.Deep.RegionHeld
import Derived.BigQuiet
import Derived.Deep.QuietTactic
import Derived.Lib.Hide
import Derived.Lib.Small
import Derived.Lib.Walk
import Derived.Lib.BitFns
import Derived.Maps.AppendAt
import Derived.RangeFuncNested
import Derived.RangeFuncBound
import Derived.RangeFuncCalls
import Derived.RangeFuncLeaves
import Derived.Shelf.Abstract
import Derived.OwnWalkIn
import Derived.TacticsInMore
import Derived.LoopNIn
import Derived.LoopIn
import Derived.RangeFuncBox
import Derived.Deep.RegionHeld3
import Derived.OrdersIn
import Derived.StillTailTactics
import Derived.RangeFuncFrom
import Derived.Laws.EntriesVeiled
import Derived.ProofKit
import Derived.OpenShut
import Derived.JoinedCond
import Derived.Carry
import Derived.Laws.AppendOwnNone
import Derived.Lib.ItoaNum
import Derived.Deep.RegionLaw
import Derived.WalkMore
import Derived.Lib.SmallJoins
import Derived.IntWalk
import Derived.Deep.DeepCutAuto
import Derived.Laws.OwnMore
import Derived.ArgAppend
import Derived.Deep.Slices
import Derived.Laws.CopyOwn
import Derived.Lib.SliceRun
import Derived.SizedLaws
import Derived.Great.BuildSlice
namespace Go.Proofs.Ytdcggcfgkhlblaa
set_option maxRecDepth 100000
section
open Go.RowKit
set_option linter.unusedVariables false
set_option linter.unusedSimpArgs false
theorem PartS.later {w w' : World} {g cap : Nat} {zs : List Int} (h : PartS w g cap zs) (k : Below w.heap.size w w') : PartS w' g cap zs := h.same (k.block g h.lt)
end
section
open Go.RowKit
set_option linter.unusedVariables false
set_option linter.unusedSimpArgs false
theorem append_types {P : Program} {t t' e e' : TypeId} (ht : P.underlying t = some (.slice e)) (ht' : P.underlying t' = some (.slice e')) (ty : TypeId) (v x : Value) (w : World) :
    (Builtin.append_ #[t, t'] ty #[v, x]).run P w = (Builtin.append_ #[t, t] ty #[v, x]).run P w := by
  unfold Builtin.append_
  cases v <;> simp [run_underlying ht, run_underlying ht']
set_option maxRecDepth 100000 in
/-- append(nil, b..) -/
theorem step_copyT {ops : Array Oper} {rest : List Oper} {o : Oper} {a : Act} {w : World} {Q : Exit → Act → World → Prop} (hg : o.guard = none) (t : Nat) (T T' : TypeId) (hT : Try.prog.underlying T = some (.slice 3)) (hT' : Try.prog.underlying T' = some (.slice 3))
    (hop : o.op = Op.call { callee := Callee.builtin Builtin.append, args := #[Operand.const (.slice none 0 0), Operand.tmp t], argTypes := #[T, T'] }) {xs : List Int} {ad : Option Addr} {cap : Nat} {u : Value} (hx : a.eval (.tmp t) = u)
    (hA : ArgS w u xs ad cap) (hn : ad = none → cap = 0) (hl : xs.length ≤ 17592186044416)
    (h : ∀ v' w1, ResS w.heap.size w1 v' xs → Below w.heap.size w w1 → wpList Try.prog ops Q rest (a.put o.dst v') w1) : wpList Try.prog ops Q (o :: rest) a w := by
  obtain ⟨i0, hi, hz0, hz1, hz2⟩ := info_parts infoS
  have hnil := World.ownsRow_nil w w.heap.size 3 1
  have hs : a.eval (.const (.slice none 0 0)) = .slice none 0 0 := rfl
  obtain ⟨rfl, lx, hle, wx⟩ := hA
  cases ad with
  | none =>
    have hc := hn rfl
    subst hc
    have hxs : xs = [] := List.eq_nil_of_length_eq_zero (by omega)
    subst hxs
    refine wpList_plain hg fun K hK => ?_
    have hrun := (append_types hT hT' o.type (.slice none 0 0) (.slice none 0 0) w).trans (run_append_owned_none (P := Try.prog) w w.heap.size T o.type 3 i0 1 hT hi (.slice none 0 0) 0 [] hnil)
    unfold Oper.wp
    simp [execOp, hop, resolve, invoke, builtin, hs, hx, hrun, Result.andThen]
    exact hK _ _ (h _ _ ⟨hnil, wx⟩ (Below.refl _ _))
  | some ad =>
    refine wpList_plain hg fun K hK => ?_
    obtain ⟨v', w', hr, hown, hgrow, _⟩ := run_append_own (P := Try.prog) w w.heap.size T o.type 3 i0 (.int .i64 0) 1 8 hT hi hz0 hz1 hz2 rfl (by decide) (.slice none 0 0) 0 [] hnil ad xs.length cap (xs.map (Value.int .i64)) (by simp) (cells_argS (cap := cap) lx) (ints_oneCell _ _) (by unfold maxLen; omega) (by omega) (Nat.le_refl _)
    have hr2 := (append_types hT hT' o.type (.slice none 0 0) (.slice (some ad) xs.length cap) w).trans hr
    unfold Oper.wp
    simp [execOp, hop, resolve, invoke, builtin, hs, hx, hr2, Result.andThen]
    refine hK _ _ (h v' w' ⟨?_, wx⟩ ((Below.refl _ w).grown hgrow (Nat.le_refl _) (fun k hk => by cases hk)))
    unfold NumS
    simpa using hown
end
section
open Go.RowKit
set_option linter.unusedVariables false
set_option linter.unusedSimpArgs false
theorem IdxP.later {B : Nat} {X Y : World} {ad : Option Addr} {cap : Nat} {zs : List Int} (h : IdxP B X ad cap zs) (hb : Below X.heap.size X Y) : IdxP B Y ad cap zs := by
  rcases h with h | ⟨g, e, k1, k2, hP⟩
  · exact .inl h
  · exact .inr ⟨g, e, k1, k2, hP.later hb⟩
end
section
open Go.RowKit
set_option linter.unusedVariables false
set_option linter.unusedSimpArgs false
set_option maxRecDepth 100000 in
set_option maxHeartbeats 8000000 in
theorem matrixR_any {x y : List Int} {a1 a2 : Option Addr} {c1 c2 : Nat} {w : World} (A : ArgS w (.slice a1 x.length c1) x a1 c1) (B : ArgS w (.slice a2 y.length c2) y a2 c2) (hx : x.length ≤ 1000) (hy : y.length ≤ 1000) : Calls Try.prog 52 #[.slice a1 x.length c1, .slice a2 y.length c2] w fun e w' => ∃ r, e = .returned (.tuple #[r, .int .i64 (if matB x y = true then 0 else 13)]) ∧ ResS w.heap.size w' r (if matB x y = true then [x.getD 0 0, y.getD 1 0] else []) ∧ Below w.heap.size w w' := by
  have HA := Lib.hid A
  have HB := Lib.hid B
  obtain ⟨lx, hlx⟩ : ∃ n, x.length = n := ⟨_, rfl⟩
  obtain ⟨ly, hly⟩ : ∃ n, y.length = n := ⟨_, rfl⟩
  have HLX := Lib.hid hlx
  have HLY := Lib.hid hly
  rw [hlx] at hx ⊢
  rw [hly] at hy ⊢
  clear A B hlx hly
  by_cases h2 : lx = 2
  case neg =>
    have hm : matB x y = false := decide_eq_false (fun h => h2 (by rw [← HLX.out]; exact h.1))
    have hI : ((lx : Int) != 2) = true := by simp; omega
    rw [hm]
    simp only [Bool.false_eq_true, if_false]
    have bE := Below.refl w.heap.size w
    go_enter Try.func52, Try.ntmps52
    go_wp2_with fail
    go_ret2
    exact ⟨_, rfl, ResS.nil _ _, bE⟩
  case pos =>
    subst h2
    by_cases h3 : ly = 2
    case neg =>
      have hm : matB x y = false := decide_eq_false (fun h => h3 (by rw [← HLY.out]; exact h.2.1))
      have hI : ((ly : Int) != 2) = true := by simp; omega
      rw [hm]
      simp only [Bool.false_eq_true, if_false]
      have bE := Below.refl w.heap.size w
      go_enter Try.func52, Try.ntmps52
      go_wp2_with fail
      go_ret2
      exact ⟨_, rfl, ResS.nil _ _, bE⟩
    case pos =>
      subst h3
      obtain ⟨bx, ox, rfl, h1c⟩ := HA.out.at (i := 1) (by rw [HLX.out]; omega)
      obtain ⟨by_, oy, rfl, h0c⟩ := HB.out.at (i := 0) (by rw [HLY.out]; omega)
      obtain ⟨_, _, e1, h0x⟩ := HA.out.at (i := 0) (by rw [HLX.out]; omega)
      obtain ⟨_, _, e2, h1y⟩ := HB.out.at (i := 1) (by rw [HLY.out]; omega)
      cases e1
      cases e2
      rw [Nat.add_zero] at h0c h0x
      obtain ⟨p, hp⟩ : ∃ p, x.getD 1 0 = p := ⟨_, rfl⟩
      obtain ⟨q, hq⟩ : ∃ q, y.getD 0 0 = q := ⟨_, rfl⟩
      obtain ⟨p0, hp0⟩ : ∃ p, x.getD 0 0 = p := ⟨_, rfl⟩
      obtain ⟨q1, hq1⟩ : ∃ q, y.getD 1 0 = q := ⟨_, rfl⟩
      have hw0 := HA.out.wf.getD 0
      have hw1 := HB.out.wf.getD 1
      rw [hp] at h1c
      rw [hq] at h0c
      rw [hp0] at h0x hw0
      rw [hq1] at h1y hw1
      have l1 := World.block_lt_of_cell? _ _ h1c
      have l0 := World.block_lt_of_cell? _ _ h0c
      have MK := Lib.hid (show ∀ X, Below w.heap.size w X → (fun X => X.cell? ⟨bx, ox + 1, none⟩ = some (.int .i64 p) ∧ X.cell? ⟨by_, oy, none⟩ = some (.int .i64 q)) X from fun X h => ⟨(h.cell l1).trans h1c, (h.cell l0).trans h0c⟩)
      have MK0 := Lib.hid (show ∀ X, Below w.heap.size w X → (fun X => X.cell? ⟨bx, ox, none⟩ = some (.int .i64 p0) ∧ X.cell? ⟨by_, oy + 1, none⟩ = some (.int .i64 q1)) X from fun X h => ⟨(h.cell (World.block_lt_of_cell? _ _ h0x)).trans h0x, (h.cell (World.block_lt_of_cell? _ _ h1y)).trans h1y⟩)
      have Z0 : Below w.heap.size w w.drew := (Below.refl _ _).drew
      have hpq := Lib.hid (show Wid [p0, q1] from fun t ht => by
        simp only [List.mem_cons, List.not_mem_nil, or_false] at ht
        rcases ht with rfl | rfl
        · exact hw0
        · exact hw1)
      have hmm : matB x y = decide (p = q) := by
        unfold matB
        rw [HLX.out, HLY.out, hp, hq]
        simp
      rw [hmm, hp0, hq1]
      clear hp hq hp0 hq1 h1c h0c h0x h1y hw0 hw1 hmm
      by_cases hpe : p = q
      case neg =>
        rw [decide_eq_false hpe]
        simp only [Bool.false_eq_true, if_false]
        have hI : (p != q) = true := by simpa using hpe
        clear hpe
        go_enter Try.func52, Try.ntmps52
        go_wp2_with fail
        refine wp_region_held_drew (S := fun X => X.cell? ⟨bx, ox + 1, none⟩ = some (.int .i64 p) ∧ X.cell? ⟨by_, oy, none⟩ = some (.int .i64 q)) (by kernel_rfl) (MK.out _ Z0) (fun hHeld => ?_)
        obtain ⟨z0, hdrh⟩ : ∃ Y, w.drew = Y := ⟨_, rfl⟩
        rw [hdrh] at Z0 hHeld ⊢
        clear hdrh
        refine todo [0, 1, 2, 3, 4, 5, 6] ?_
        iterate 7
         first
         | (refine todoH (v := ?_) rfl (by kernel_rfl) (fun _ _ _ h => h) (by assumption) (Or.inl ⟨by rfl, ?_⟩) ?_
            rotate_left
            · intro w hSw; (try dsimp only at hSw); go_simp; (try with_reducible rfl)
            try simp only [Act.put, List.getElem_toArray, List.getElem_cons_succ, List.getElem_cons_zero, List.setIfInBounds_toArray, List.set_cons_zero, List.set_cons_succ])
         | (refine todoH (v := undef) rfl (by kernel_rfl) (fun _ _ _ h => h) (by assumption) (Or.inr ⟨by rfl, rfl⟩) ?_
            try simp only [Act.put, List.getElem_toArray, List.getElem_cons_succ, List.getElem_cons_zero, List.setIfInBounds_toArray, List.set_cons_zero, List.set_cons_succ])
        refine todone ?_
        refine wpAnyH_done (by kernel_rfl) ?_ _
        (try dsimp only [Straight])
        clear hHeld
        go_wp2_with fail
        go_ret2
        exact ⟨_, rfl, ResS.nil _ _, Z0⟩
      case pos =>
        subst hpe
        rw [decide_eq_true rfl]
        simp only [if_true]
        go_enter Try.func52, Try.ntmps52
        go_wp2_with fail
        refine wp_region_held_drew (S := fun X => X.cell? ⟨bx, ox + 1, none⟩ = some (.int .i64 p) ∧ X.cell? ⟨by_, oy, none⟩ = some (.int .i64 p)) (by kernel_rfl) (MK.out _ Z0) (fun hHeld => ?_)
        obtain ⟨z0, hdrh⟩ : ∃ Y, w.drew = Y := ⟨_, rfl⟩
        rw [hdrh] at Z0 hHeld ⊢
        clear hdrh
        refine todo [0, 1, 2, 3, 4, 5, 6] ?_
        iterate 7
         first
         | (refine todoH (v := ?_) rfl (by kernel_rfl) (fun _ _ _ h => h) (by assumption) (Or.inl ⟨by rfl, ?_⟩) ?_
            rotate_left
            · intro w hSw; (try dsimp only at hSw); go_simp; (try with_reducible rfl)
            try simp only [Act.put, List.getElem_toArray, List.getElem_cons_succ, List.getElem_cons_zero, List.setIfInBounds_toArray, List.set_cons_zero, List.set_cons_succ])
         | (refine todoH (v := undef) rfl (by kernel_rfl) (fun _ _ _ h => h) (by assumption) (Or.inr ⟨by rfl, rfl⟩) ?_
            try simp only [Act.put, List.getElem_toArray, List.getElem_cons_succ, List.getElem_cons_zero, List.setIfInBounds_toArray, List.set_cons_zero, List.set_cons_succ])
        refine todone ?_
        refine wpAnyH_done (by kernel_rfl) ?_ _
        (try dsimp only [Straight])
        clear hHeld
        have MK3 := Lib.hid (show ∀ X, Below z0.heap.size z0 X → (fun X => X.cell? ⟨bx, ox, none⟩ = some (.int .i64 p0) ∧ X.cell? ⟨by_, oy + 1, none⟩ = some (.int .i64 q1)) X from fun X h => MK0.out _ (Z0.trans (h.mono Z0.size)))
        have U0 : Below z0.heap.size z0 z0.drew := (Below.refl _ _).drew
        go_wp2_with fail
        refine wp_region_held_drew (S := fun X => X.cell? ⟨bx, ox, none⟩ = some (.int .i64 p0) ∧ X.cell? ⟨by_, oy + 1, none⟩ = some (.int .i64 q1)) (by kernel_rfl) (MK3.out _ U0) (fun hHeld => ?_)
        obtain ⟨u0, hdrg⟩ : ∃ Y, z0.drew = Y := ⟨_, rfl⟩
        rw [hdrg] at U0 hHeld ⊢
        clear hdrg
        refine todo [0, 1, 2, 3, 4, 5] ?_
        iterate 6
         first
         | (refine todoH (v := ?_) rfl (by kernel_rfl) (fun _ _ _ h => h) (by assumption) (Or.inl ⟨by rfl, ?_⟩) ?_
            rotate_left
            · intro w hSw; (try dsimp only at hSw); go_simp; (try with_reducible rfl)
            try simp only [Act.put, List.getElem_toArray, List.getElem_cons_succ, List.getElem_cons_zero, List.setIfInBounds_toArray, List.set_cons_zero, List.set_cons_succ])
         | (refine todoH (v := undef) rfl (by kernel_rfl) (fun _ _ _ h => h) (by assumption) (Or.inr ⟨by rfl, rfl⟩) ?_
            try simp only [Act.put, List.getElem_toArray, List.getElem_cons_succ, List.getElem_cons_zero, List.setIfInBounds_toArray, List.set_cons_zero, List.set_cons_succ])
        refine todone ?_
        obtain ⟨u1, hg1⟩ : ∃ Y, u0.alloc (.cells #[.int .i64 p0, .int .i64 q1] 3) = Y := ⟨_, rfl⟩
        have U1 : Below z0.heap.size z0 u1 := by rw [← hg1]; exact U0.alloc U0.size _
        have Rg1 : Row u1 u0.heap.size 3 #[.int .i64 p0, .int .i64 q1] := by rw [← hg1]; exact Row.new _ _ _
        refine wpAnyH_ready (rs := [6]) (by kernel_rfl) (by simp) ?_
        refine AllReadyH.cons rfl (fun K hK => ?sg_6) AllReadyH.nil
        go_simp
        (try rw [hg1])
        clear hg1
        refine hK.out _ _ (MK3.out _ U1) (fun hHeld2 => ?mg_6)
        clear hK K hHeld
        have hHeld := hHeld2
        clear hHeld2
        try simp only [Act.put, List.getElem_toArray, List.getElem_cons_succ, List.getElem_cons_zero, List.setIfInBounds_toArray, List.set_cons_zero, List.set_cons_succ]
        refine todo [7, 8] ?_
        iterate 2
         first
         | (refine todoH (v := ?_) rfl (by kernel_rfl) (fun _ _ _ h => h) (by assumption) (Or.inl ⟨by rfl, ?_⟩) ?_
            rotate_left
            · intro w hSw; (try dsimp only at hSw); go_simp; (try with_reducible rfl)
            try simp only [Act.put, List.getElem_toArray, List.getElem_cons_succ, List.getElem_cons_zero, List.setIfInBounds_toArray, List.set_cons_zero, List.set_cons_succ])
         | (refine todoH (v := undef) rfl (by kernel_rfl) (fun _ _ _ h => h) (by assumption) (Or.inr ⟨by rfl, rfl⟩) ?_
            try simp only [Act.put, List.getElem_toArray, List.getElem_cons_succ, List.getElem_cons_zero, List.setIfInBounds_toArray, List.set_cons_zero, List.set_cons_succ])
        refine todone ?_
        refine wpAnyH_done (by kernel_rfl) ?_ _
        (try dsimp only [Straight])
        have hE : Below w.heap.size w u1 := Z0.trans (U1.mono Z0.size)
        have hgz := Z0.size
        have hgu := U0.size
        have HRg := Lib.hid Rg1
        clear Rg1
        go_wp2_with fail
        go_ret2
        exact ⟨_, rfl, ⟨⟨rfl, .inr ⟨u0.heap.size, 2, #[.int .i64 p0, .int .i64 q1], rfl, by omega, HRg.out, Nat.le_refl _, by unfold maxLen; omega, by simp, by simp⟩⟩, hpq.out⟩, hE⟩
set_option maxRecDepth 100000 in
set_option maxHeartbeats 8000000 in
theorem padsR12_any {x y : List Int} {a1 a2 : Option Addr} {c1 c2 : Nat} {w : World} (A : ArgS w (.slice a1 x.length c1) x a1 c1) (B : ArgS w (.slice a2 y.length c2) y a2 c2) (hx : x.length ≤ 1000) (hy : y.length ≤ 1000) (hbx : ∀ i, i < x.length → 1 ≤ x.getD i 0 ∧ x.getD i 0 ≤ 1024) (hby : bndB y = true) : Calls Try.prog 56 #[.slice a1 x.length c1, .slice a2 y.length c2] w fun e w' => ∃ r, e = .returned (.tuple #[r, .int .i64 (if y.length = 2 * x.length then 0 else 13)]) ∧ ResS w.heap.size w' r (if y.length = 2 * x.length then padI x y else []) ∧ Below w.heap.size w w' := by
  obtain ⟨iS, hiS, hzA, hzB, hzC⟩ := info_parts infoS
  have HBX := Lib.hid hbx
  have HBY := Lib.hid hby
  obtain ⟨cd, hcd⟩ : ∃ c : Int, (if y.length = 2 * x.length then 0 else 13) = c := ⟨_, rfl⟩
  obtain ⟨vl, hvl⟩ : ∃ c : List Int, (if y.length = 2 * x.length then padI x y else []) = c := ⟨_, rfl⟩
  rw [hcd, hvl]
  have HCD := Lib.hid hcd
  have HVL := Lib.hid hvl
  clear hcd hvl
  have HA := Lib.hid A
  have HB := Lib.hid B
  obtain ⟨lx, hlx⟩ : ∃ n, x.length = n := ⟨_, rfl⟩
  obtain ⟨ly, hly⟩ : ∃ n, y.length = n := ⟨_, rfl⟩
  have HLX := Lib.hid hlx
  have HLY := Lib.hid hly
  rw [hlx] at hx ⊢
  rw [hly] at hy ⊢
  clear A B hlx hly hbx hby
  have hwl : IntKind.i64.wrap (2 * (lx : Int)) = 2 * (lx : Int) := IntWalk.i64_in _ (by omega)
  have bE := Below.refl w.heap.size w
  by_cases h2 : ly = 2 * lx
  case neg =>
    have hI : ((ly : Int) != 2 * (lx : Int)) = true := by simp; omega
    have HH := Lib.hid h2
    obtain rfl : cd = 13 := by rw [← HCD.out]; exact if_neg (fun h => HH.out (by rw [← HLY.out, ← HLX.out]; exact h))
    obtain rfl : vl = [] := by rw [← HVL.out]; exact if_neg (fun h => HH.out (by rw [← HLY.out, ← HLX.out]; exact h))
    clear h2
    go_enter Try.func56, Try.ntmps56
    go_wp2_with fail
    go_ret2
    exact ⟨_, rfl, ResS.nil _ _, bE⟩
  case pos =>
    have hI : ((ly : Int) != 2 * (lx : Int)) = false := by simp; omega
    have HH := Lib.hid h2
    clear h2
    go_enter Try.func56, Try.ntmps56
    go_wp2_with fail
    clear hI hwl
    go_loopw [6, 7] (fun u i wi => ∃ j : Nat, i = .int .i64 (j : Int) ∧ j ≤ lx ∧ NumS w.heap.size wi u ((List.range j).map fun i : Nat => y.getD (2 * i) 0 + x.getD i 0 + y.getD (2 * i + 1) 0) ∧ Below w.heap.size w wi) (fun _ i _ => lx - (intOf i).toNat)
    case atStart => exact ⟨0, rfl, Nat.zero_le _, World.ownsRow_nil _ _ _ _, bE⟩
    case round =>
      rename World => wi
      obtain ⟨j, rfl, hj, hown, bwi⟩ := hrel
      have hszi := bwi.size
      obtain ⟨zs, hzs⟩ : ∃ zs, ((List.range j).map fun i : Nat => y.getD (2 * i) 0 + x.getD i 0 + y.getD (2 * i + 1) 0) = zs := ⟨_, rfl⟩
      have hzl : zs.length = j := by rw [← hzs]; simp
      rw [hzs] at hown
      have HZS := Lib.hid hzs
      have HZL := Lib.hid hzl
      obtain ⟨au0, cu0, rfl⟩ := ownT_slice11 hown
      have HOWN := Lib.hid hown
      
      clear hzs
      by_cases hlt : j < lx
      · have hltI : (j : Int) < (lx : Int) := by omega
        have hj0 : (0 : Int) ≤ (j : Int) := by omega
        obtain ⟨bx, ox, rfl, hcx⟩ := HA.out.at (i := j) (by rw [HLX.out]; exact hlt)
        obtain ⟨by_, oy, rfl, hc0⟩ := HB.out.at (i := 2 * j) (by rw [HLY.out, HH.out]; omega)
        obtain ⟨_, _, e1, hc1⟩ := HB.out.at (i := 2 * j + 1) (by rw [HLY.out, HH.out]; omega)
        cases e1
        obtain ⟨d, hd⟩ : ∃ d, x.getD j 0 = d := ⟨_, rfl⟩
        obtain ⟨z0, hz0⟩ : ∃ d, y.getD (2 * j) 0 = d := ⟨_, rfl⟩
        obtain ⟨z1, hz1⟩ : ∃ d, y.getD (2 * j + 1) 0 = d := ⟨_, rfl⟩
        have hbd := HBX.out j (by rw [HLX.out]; exact hlt)
        have hb0 := bnd_at HBY.out (2 * j)
        have hb1 := bnd_at HBY.out (2 * j + 1)
        rw [hd] at hcx hbd
        rw [hz0] at hc0 hb0
        rw [hz1] at hc1 hb1
        have hnx : ((List.range (j + 1)).map fun i : Nat => y.getD (2 * i) 0 + x.getD i 0 + y.getD (2 * i + 1) 0) = zs ++ [z0 + d + z1] := by
          rw [List.range_succ, List.map_append, HZS.out]
          simp only [List.map_cons, List.map_nil]
          rw [hz0, hd, hz1]
        have HNX := Lib.hid hnx
        have HD := Lib.hid hd
        have HZ1 := Lib.hid hz1
        have lx1 := World.block_lt_of_cell? _ _ hcx
        have l0 := World.block_lt_of_cell? _ _ hc0
        have l1 := World.block_lt_of_cell? _ _ hc1
        have MKS := Lib.hid (show ∀ X, Below w.heap.size w X → (fun X => X.cell? ⟨bx, ox + j, none⟩ = some (.int .i64 d) ∧ X.cell? ⟨by_, oy + 2 * j, none⟩ = some (.int .i64 z0) ∧ X.cell? ⟨by_, oy + (2 * j + 1), none⟩ = some (.int .i64 z1)) X from fun X h => ⟨(h.cell lx1).trans hcx, (h.cell l0).trans hc0, (h.cell l1).trans hc1⟩)
        have w1 : IntKind.i64.wrap (2 * (j : Int)) = 2 * (j : Int) := IntWalk.i64_in _ (by omega)
        have w2 : IntKind.i64.wrap (2 * (j : Int) + 1) = 2 * (j : Int) + 1 := IntWalk.i64_in _ (by omega)
        have w3 : IntKind.i64.wrap (z0 + d) = z0 + d := IntWalk.i64_in _ (by omega)
        have w4 : IntKind.i64.wrap (z0 + d + z1) = z0 + d + z1 := IntWalk.i64_in _ (by omega)
        have i0 : (0 : Int) ≤ 2 * (j : Int) := by omega
        have hH := HH.out
        have i1 : 2 * (j : Int) < (ly : Int) := by omega
        have i2 : (0 : Int) ≤ 2 * (j : Int) + 1 := by omega
        have i3 : 2 * (j : Int) + 1 < (ly : Int) := by omega
        have n1 : (2 * (j : Int)).toNat = 2 * j := by omega
        have n2 : (2 * (j : Int) + 1).toNat = 2 * j + 1 := by omega
        have hzb : zs.length ≤ 1000 := by rw [hzl]; omega
        clear hH hown hnx hd hz0 hz1 hzl
        go_wp2_with fail
        clear hcx hc0 hc1
        have b0 : Below w.heap.size w wi.drew := bwi.drew
        obtain ⟨yd, hdr⟩ : ∃ Y, wi.drew = Y := ⟨_, rfl⟩
        have hown0 : NumS w.heap.size yd (.slice au0 zs.length cu0) zs := by rw [← hdr]; exact HOWN.out.later (Below.refl _ wi).drew
        have hszd : w.heap.size ≤ yd.heap.size := by rw [← hdr]; exact bwi.size
        refine wp_region_held_drew (S := fun X => X.cell? ⟨bx, ox + j, none⟩ = some (.int .i64 d) ∧ X.cell? ⟨by_, oy + 2 * j, none⟩ = some (.int .i64 z0) ∧ X.cell? ⟨by_, oy + (2 * j + 1), none⟩ = some (.int .i64 z1)) (by kernel_rfl) (MKS.out _ b0) (fun hHeld => ?_)
        rw [hdr] at b0 hHeld ⊢
        clear hdr
        refine todo [0, 1, 2, 3, 4, 5, 6, 7, 8, 9, 10, 11, 12, 13, 14, 15, 16, 17] ?_
        iterate 18
         first
         | (refine todoH (v := ?_) rfl (by kernel_rfl) (fun _ _ _ h => h) (by assumption) (Or.inl ⟨by rfl, ?_⟩) ?_
            rotate_left
            · intro w hSw; (try dsimp only at hSw); go_simp; (try with_reducible rfl)
            try simp only [Act.put, List.getElem_toArray, List.getElem_cons_succ, List.getElem_cons_zero, List.setIfInBounds_toArray, List.set_cons_zero, List.set_cons_succ])
         | (refine todoH (v := undef) rfl (by kernel_rfl) (fun _ _ _ h => h) (by assumption) (Or.inr ⟨by rfl, rfl⟩) ?_
            try simp only [Act.put, List.getElem_toArray, List.getElem_cons_succ, List.getElem_cons_zero, List.setIfInBounds_toArray, List.set_cons_zero, List.set_cons_succ])
        refine todone ?_
        have bal : Below w.heap.size w (yd.alloc (.cells #[.int .i64 (z0 + d + z1)] 3)) := b0.alloc hszd _
        refine wpAnyH_ready (rs := [18]) (by kernel_rfl) (by simp) ?_
        refine AllReadyH.cons rfl (fun K hK => ?sal) AllReadyH.nil
        go_simp
        refine hK.out _ _ (MKS.out _ bal) (fun hHeld2 => ?mal)
        clear hK K hHeld
        have hHeld := hHeld2
        clear hHeld2
        try simp only [Act.put, List.getElem_toArray, List.getElem_cons_succ, List.getElem_cons_zero, List.setIfInBounds_toArray, List.set_cons_zero, List.set_cons_succ]
        refine wpAnyH_ready (rs := [19]) (by kernel_rfl) (by simp) ?_
        refine AllReadyH.cons rfl (fun K hK => ?sap) AllReadyH.nil
        refine step_append_ownT rfl _ _ 23 rfl w.heap.size 3 iS (.int .i64 0) 1 8 Try.underlying23 hiS hzA hzB hzC rfl (by decide) _ zs.length (zs.map (Value.int .i64)) rfl (hown0.later ((Below.refl _ _).alloc (Nat.le_refl _) _)) ⟨yd.heap.size, 0, none⟩ 1 1 [.int .i64 (z0 + d + z1)] rfl rfl (cell_one_new _ _ _) (by simp [Value.oneCell']) (by unfold maxLen; omega) (by omega) (by simp; omega) ?_
        intro v' w6 hown' hgrow _
        have hb6 : Below w.heap.size w w6 := bal.grown hgrow (by simp; omega) (fun q hq => (World.ownsRow.lt hown0 q hq).1)
        have hN6 : NumS w.heap.size w6 v' (zs ++ [z0 + d + z1]) := by
          unfold NumS
          rw [List.length_append, List.map_append]
          exact hown'
        obtain ⟨au, cu, rfl⟩ := ownT_slice hown'
        refine hK.out _ _ (MKS.out _ hb6) (fun hHeld2 => ?map)
        clear hK K hHeld
        have hHeld := hHeld2
        clear hHeld2
        try simp only [Act.put, List.getElem_toArray, List.getElem_cons_succ, List.getElem_cons_zero, List.setIfInBounds_toArray, List.set_cons_zero, List.set_cons_succ]
        refine todo [20] ?_
        iterate 1
         first
         | (refine todoH (v := ?_) rfl (by kernel_rfl) (fun _ _ _ h => h) (by assumption) (Or.inl ⟨by rfl, ?_⟩) ?_
            rotate_left
            · intro w hSw; (try dsimp only at hSw); go_simp; (try with_reducible rfl)
            try simp only [Act.put, List.getElem_toArray, List.getElem_cons_succ, List.getElem_cons_zero, List.setIfInBounds_toArray, List.set_cons_zero, List.set_cons_succ])
         | (refine todoH (v := undef) rfl (by kernel_rfl) (fun _ _ _ h => h) (by assumption) (Or.inr ⟨by rfl, rfl⟩) ?_
            try simp only [Act.put, List.getElem_toArray, List.getElem_cons_succ, List.getElem_cons_zero, List.setIfInBounds_toArray, List.set_cons_zero, List.set_cons_succ])
        refine todone ?_
        refine wpAnyH_done (by kernel_rfl) ?_ _
        (try dsimp only [Straight])
        have HN6 := Lib.hid hN6
        clear hown' hgrow hown0 hHeld hN6
        go_wp2_with fail
        go_roundw
        case rel => exact ⟨j + 1, by go_num, by omega, by rw [HNX.out]; exact HN6.out, hb6⟩
        case measure => simp [intOf]; omega
      · obtain rfl : j = lx := by omega
        obtain rfl : cd = 0 := by rw [← HCD.out]; exact if_pos (by rw [HLX.out, HLY.out]; exact HH.out)
        have hvz : vl = zs := by
          rw [← HVL.out, if_pos (by rw [HLX.out, HLY.out]; exact HH.out), ← HZS.out]
          unfold padI fstP sndP
          rw [HLX.out]
          refine List.map_congr_left fun i _ => ?_
          omega
        have hw : Wid zs := fun t ht => by
          rw [← HZS.out] at ht
          obtain ⟨i, hi, rfl⟩ := List.mem_map.1 ht
          have hil := List.mem_range.1 hi
          have hbd := HBX.out i (by rw [HLX.out]; exact hil)
          have hb0 := bnd_at HBY.out (2 * i)
          have hb1 := bnd_at HBY.out (2 * i + 1)
          omega
        subst hvz
        have HRS := Lib.hid (⟨HOWN.out, hw⟩ : ResS w.heap.size wi _ _)
        clear hown hw hzl
        go_wp2_with fail
        go_ret2
        exact ⟨_, rfl, HRS.out, bwi⟩
set_option maxRecDepth 100000 in
set_option maxHeartbeats 8000000 in
theorem sliceR12_any {x y : List Int} {a1 a2 : Option Addr} {c1 c2 : Nat} {w : World} (A : ArgS w (.slice a1 x.length c1) x a1 c1) (B : ArgS w (.slice a2 y.length c2) y a2 c2) (hx : x.length ≤ 1000) (hy : y.length ≤ 1000) (hbx : ∀ i, i < x.length → 1 ≤ x.getD i 0 ∧ x.getD i 0 ≤ 1024) (hby : bndB y = true) : Calls Try.prog 55 #[.slice a1 x.length c1, .slice a2 y.length c2] w fun e w' => ∃ r, e = .returned (.tuple #[r, .int .i64 (if y.length = 2 * x.length ∧ ∀ i, i < x.length → y.getD (2 * i + 1) 0 ≤ x.getD i 0 then 0 else 13)]) ∧ ResS w.heap.size w' r (if y.length = 2 * x.length ∧ ∀ i, i < x.length → y.getD (2 * i + 1) 0 ≤ x.getD i 0 then slS x y else []) ∧ Below w.heap.size w w' := by
  obtain ⟨iS, hiS, hzA, hzB, hzC⟩ := info_parts infoS
  have HBX := Lib.hid hbx
  have HBY := Lib.hid hby
  obtain ⟨cd, hcd⟩ : ∃ c : Int, (if y.length = 2 * x.length ∧ ∀ i, i < x.length → y.getD (2 * i + 1) 0 ≤ x.getD i 0 then 0 else 13) = c := ⟨_, rfl⟩
  obtain ⟨vl, hvl⟩ : ∃ c : List Int, (if y.length = 2 * x.length ∧ ∀ i, i < x.length → y.getD (2 * i + 1) 0 ≤ x.getD i 0 then slS x y else []) = c := ⟨_, rfl⟩
  rw [hcd, hvl]
  have HCD := Lib.hid hcd
  have HVL := Lib.hid hvl
  clear hcd hvl
  have HA := Lib.hid A
  have HB := Lib.hid B
  obtain ⟨lx, hlx⟩ : ∃ n, x.length = n := ⟨_, rfl⟩
  obtain ⟨ly, hly⟩ : ∃ n, y.length = n := ⟨_, rfl⟩
  have HLX := Lib.hid hlx
  have HLY := Lib.hid hly
  rw [hlx] at hx ⊢
  rw [hly] at hy ⊢
  clear A B hlx hly hbx hby
  have hwl : IntKind.i64.wrap (2 * (lx : Int)) = 2 * (lx : Int) := IntWalk.i64_in _ (by omega)
  have bE := Below.refl w.heap.size w
  by_cases h2 : ly = 2 * lx
  case neg =>
    have hI : ((ly : Int) != 2 * (lx : Int)) = true := by simp; omega
    have HH := Lib.hid h2
    obtain rfl : cd = 13 := by rw [← HCD.out]; exact if_neg (fun h => HH.out (by rw [← HLY.out, ← HLX.out]; exact h.1))
    obtain rfl : vl = [] := by rw [← HVL.out]; exact if_neg (fun h => HH.out (by rw [← HLY.out, ← HLX.out]; exact h.1))
    clear h2
    go_enter Try.func55, Try.ntmps55
    go_wp2_with fail
    go_ret2
    exact ⟨_, rfl, ResS.nil _ _, bE⟩
  case pos =>
    have hI : ((ly : Int) != 2 * (lx : Int)) = false := by simp; omega
    have HH := Lib.hid h2
    clear h2
    go_enter Try.func55, Try.ntmps55
    go_wp2_with fail
    clear hI hwl
    go_loopw [6, 7] (fun u i wi => ∃ j : Nat, i = .int .i64 (j : Int) ∧ j ≤ lx ∧ NumS w.heap.size wi u ((List.range j).map fun i : Nat => y.getD (2 * i + 1) 0 - y.getD (2 * i) 0) ∧ (∀ i, i < j → y.getD (2 * i + 1) 0 ≤ x.getD i 0) ∧ Below w.heap.size w wi) (fun _ i _ => lx - (intOf i).toNat)
    case atStart => exact ⟨0, rfl, Nat.zero_le _, World.ownsRow_nil _ _ _ _, (fun i h => by omega), bE⟩
    case round =>
      rename World => wi
      obtain ⟨j, rfl, hj, hown, hle, bwi⟩ := hrel
      have hszi := bwi.size
      obtain ⟨zs, hzs⟩ : ∃ zs, ((List.range j).map fun i : Nat => y.getD (2 * i + 1) 0 - y.getD (2 * i) 0) = zs := ⟨_, rfl⟩
      have hzl : zs.length = j := by rw [← hzs]; simp
      rw [hzs] at hown
      have HZS := Lib.hid hzs
      have HZL := Lib.hid hzl
      obtain ⟨au0, cu0, rfl⟩ := ownT_slice11 hown
      have HOWN := Lib.hid hown
      have HLE := Lib.hid hle
      clear hzs
      by_cases hlt : j < lx
      · have hltI : (j : Int) < (lx : Int) := by omega
        have hj0 : (0 : Int) ≤ (j : Int) := by omega
        obtain ⟨bx, ox, rfl, hcx⟩ := HA.out.at (i := j) (by rw [HLX.out]; exact hlt)
        obtain ⟨by_, oy, rfl, hc0⟩ := HB.out.at (i := 2 * j) (by rw [HLY.out, HH.out]; omega)
        obtain ⟨_, _, e1, hc1⟩ := HB.out.at (i := 2 * j + 1) (by rw [HLY.out, HH.out]; omega)
        cases e1
        obtain ⟨d, hd⟩ : ∃ d, x.getD j 0 = d := ⟨_, rfl⟩
        obtain ⟨z0, hz0⟩ : ∃ d, y.getD (2 * j) 0 = d := ⟨_, rfl⟩
        obtain ⟨z1, hz1⟩ : ∃ d, y.getD (2 * j + 1) 0 = d := ⟨_, rfl⟩
        have hbd := HBX.out j (by rw [HLX.out]; exact hlt)
        have hb0 := bnd_at HBY.out (2 * j)
        have hb1 := bnd_at HBY.out (2 * j + 1)
        rw [hd] at hcx hbd
        rw [hz0] at hc0 hb0
        rw [hz1] at hc1 hb1
        have hnx : ((List.range (j + 1)).map fun i : Nat => y.getD (2 * i + 1) 0 - y.getD (2 * i) 0) = zs ++ [z1 - z0] := by
          rw [List.range_succ, List.map_append, HZS.out]
          simp only [List.map_cons, List.map_nil]
          rw [hz1, hz0]
        have HNX := Lib.hid hnx
        have HD := Lib.hid hd
        have HZ1 := Lib.hid hz1
        have lx1 := World.block_lt_of_cell? _ _ hcx
        have l0 := World.block_lt_of_cell? _ _ hc0
        have l1 := World.block_lt_of_cell? _ _ hc1
        have MKS := Lib.hid (show ∀ X, Below w.heap.size w X → (fun X => X.cell? ⟨by_, oy + 2 * j, none⟩ = some (.int .i64 z0) ∧ X.cell? ⟨by_, oy + (2 * j + 1), none⟩ = some (.int .i64 z1)) X from fun X h => ⟨(h.cell l0).trans hc0, (h.cell l1).trans hc1⟩)
        have w1 : IntKind.i64.wrap (2 * (j : Int)) = 2 * (j : Int) := IntWalk.i64_in _ (by omega)
        have w2 : IntKind.i64.wrap (2 * (j : Int) + 1) = 2 * (j : Int) + 1 := IntWalk.i64_in _ (by omega)
        
        have w4 : IntKind.i64.wrap (z1 - z0) = z1 - z0 := IntWalk.i64_in _ (by omega)
        have i0 : (0 : Int) ≤ 2 * (j : Int) := by omega
        have hH := HH.out
        have i1 : 2 * (j : Int) < (ly : Int) := by omega
        have i2 : (0 : Int) ≤ 2 * (j : Int) + 1 := by omega
        have i3 : 2 * (j : Int) + 1 < (ly : Int) := by omega
        have n1 : (2 * (j : Int)).toNat = 2 * j := by omega
        have n2 : (2 * (j : Int) + 1).toNat = 2 * j + 1 := by omega
        have hzb : zs.length ≤ 1000 := by rw [hzl]; omega
        clear hH hown hle hnx hd hz0 hz1 hzl
        have MKZ := Lib.hid (show ∀ X, Below w.heap.size w X → (fun X => X.cell? ⟨bx, ox + j, none⟩ = some (.int .i64 d) ∧ X.cell? ⟨by_, oy + (2 * j + 1), none⟩ = some (.int .i64 z1)) X from fun X h => ⟨(h.cell lx1).trans hcx, (h.cell l1).trans hc1⟩)
        have MK0 := Lib.hid (show ∀ X, Below wi.heap.size wi X → (fun X => X.cell? ⟨bx, ox + j, none⟩ = some (.int .i64 d) ∧ X.cell? ⟨by_, oy + (2 * j + 1), none⟩ = some (.int .i64 z1)) X from fun X h => MKZ.out _ (bwi.trans (h.mono hszi)))
        have Q0 : Below wi.heap.size wi wi.drew := (Below.refl _ _).drew
        go_wp2_with fail
        clear hcx hc0 hc1
        refine wp_region_held_drew (S := fun X => X.cell? ⟨bx, ox + j, none⟩ = some (.int .i64 d) ∧ X.cell? ⟨by_, oy + (2 * j + 1), none⟩ = some (.int .i64 z1)) (by kernel_rfl) (MK0.out _ Q0) (fun hHeld => ?_)
        obtain ⟨q0, hdrh⟩ : ∃ Y, wi.drew = Y := ⟨_, rfl⟩
        rw [hdrh] at Q0 hHeld ⊢
        clear hdrh
        refine todo [0, 1, 2, 3, 4, 5, 6, 7, 8, 9, 10] ?_
        iterate 11
         first
         | (refine todoH (v := ?_) rfl (by kernel_rfl) (fun _ _ _ h => h) (by assumption) (Or.inl ⟨by rfl, ?_⟩) ?_
            rotate_left
            · intro w hSw; (try dsimp only at hSw); go_simp; (try with_reducible rfl)
            try simp only [Act.put, List.getElem_toArray, List.getElem_cons_succ, List.getElem_cons_zero, List.setIfInBounds_toArray, List.set_cons_zero, List.set_cons_succ])
         | (refine todoH (v := undef) rfl (by kernel_rfl) (fun _ _ _ h => h) (by assumption) (Or.inr ⟨by rfl, rfl⟩) ?_
            try simp only [Act.put, List.getElem_toArray, List.getElem_cons_succ, List.getElem_cons_zero, List.setIfInBounds_toArray, List.set_cons_zero, List.set_cons_succ])
        refine todone ?_
        refine wpAnyH_done (by kernel_rfl) ?_ _
        (try dsimp only [Straight])
        clear hHeld
        replace bwi := bwi.trans (Q0.mono hszi)
        replace HOWN := Lib.hid (HOWN.out.later Q0)
        by_cases hgt : z1 > d
        · obtain rfl : cd = 13 := by
            rw [← HCD.out]
            refine if_neg (fun h => ?_)
            have h5 := h.2 j (by rw [HLX.out]; exact hlt)
            rw [HZ1.out, HD.out] at h5
            omega
          obtain rfl : vl = [] := by
            rw [← HVL.out]
            refine if_neg (fun h => ?_)
            have h5 := h.2 j (by rw [HLX.out]; exact hlt)
            rw [HZ1.out, HD.out] at h5
            omega
          go_wp2_with fail
          (try rw [Exit.noGoto_ret])
          go_ret2
          exact ⟨_, rfl, ResS.nil _ _, bwi⟩
        · clear hszi
          obtain ⟨wi', hwi'⟩ : ∃ Y, q0 = Y := ⟨_, rfl⟩
          rw [hwi'] at bwi HOWN ⊢
          clear Q0 hwi' MK0
          have hszi := bwi.size
          go_wp2_with fail
          have b0 : Below w.heap.size w wi'.drew := bwi.drew
          obtain ⟨yd, hdr⟩ : ∃ Y, wi'.drew = Y := ⟨_, rfl⟩
          have hown0 : NumS w.heap.size yd (.slice au0 zs.length cu0) zs := by rw [← hdr]; exact HOWN.out.later (Below.refl _ wi').drew
          have hszd : w.heap.size ≤ yd.heap.size := by rw [← hdr]; exact bwi.size
          refine wp_region_held_drew (S := fun X => X.cell? ⟨by_, oy + 2 * j, none⟩ = some (.int .i64 z0) ∧ X.cell? ⟨by_, oy + (2 * j + 1), none⟩ = some (.int .i64 z1)) (by kernel_rfl) (MKS.out _ b0) (fun hHeld => ?_)
          rw [hdr] at b0 hHeld ⊢
          clear hdr
          refine todo [0, 1, 2, 3, 4, 5, 6, 7, 8, 9, 10, 11, 12] ?_
          iterate 13
           first
           | (refine todoH (v := ?_) rfl (by kernel_rfl) (fun _ _ _ h => h) (by assumption) (Or.inl ⟨by rfl, ?_⟩) ?_
              rotate_left
              · intro w hSw; (try dsimp only at hSw); go_simp; (try with_reducible rfl)
              try simp only [Act.put, List.getElem_toArray, List.getElem_cons_succ, List.getElem_cons_zero, List.setIfInBounds_toArray, List.set_cons_zero, List.set_cons_succ])
           | (refine todoH (v := undef) rfl (by kernel_rfl) (fun _ _ _ h => h) (by assumption) (Or.inr ⟨by rfl, rfl⟩) ?_
              try simp only [Act.put, List.getElem_toArray, List.getElem_cons_succ, List.getElem_cons_zero, List.setIfInBounds_toArray, List.set_cons_zero, List.set_cons_succ])
          refine todone ?_
          have bal : Below w.heap.size w (yd.alloc (.cells #[.int .i64 (z1 - z0)] 3)) := b0.alloc hszd _
          refine wpAnyH_ready (rs := [13]) (by kernel_rfl) (by simp) ?_
          refine AllReadyH.cons rfl (fun K hK => ?sal) AllReadyH.nil
          go_simp
          refine hK.out _ _ (MKS.out _ bal) (fun hHeld2 => ?mal)
          clear hK K hHeld
          have hHeld := hHeld2
          clear hHeld2
          try simp only [Act.put, List.getElem_toArray, List.getElem_cons_succ, List.getElem_cons_zero, List.setIfInBounds_toArray, List.set_cons_zero, List.set_cons_succ]
          refine wpAnyH_ready (rs := [14]) (by kernel_rfl) (by simp) ?_
          refine AllReadyH.cons rfl (fun K hK => ?sap) AllReadyH.nil
          refine step_append_ownT rfl _ _ 23 rfl w.heap.size 3 iS (.int .i64 0) 1 8 Try.underlying23 hiS hzA hzB hzC rfl (by decide) _ zs.length (zs.map (Value.int .i64)) rfl (hown0.later ((Below.refl _ _).alloc (Nat.le_refl _) _)) ⟨yd.heap.size, 0, none⟩ 1 1 [.int .i64 (z1 - z0)] rfl rfl (cell_one_new _ _ _) (by simp [Value.oneCell']) (by unfold maxLen; omega) (by omega) (by simp; omega) ?_
          intro v' w6 hown' hgrow _
          have hb6 : Below w.heap.size w w6 := bal.grown hgrow (by simp; omega) (fun q hq => (World.ownsRow.lt hown0 q hq).1)
          have hN6 : NumS w.heap.size w6 v' (zs ++ [z1 - z0]) := by
            unfold NumS
            rw [List.length_append, List.map_append]
            exact hown'
          obtain ⟨au, cu, rfl⟩ := ownT_slice hown'
          refine hK.out _ _ (MKS.out _ hb6) (fun hHeld2 => ?map)
          clear hK K hHeld
          have hHeld := hHeld2
          clear hHeld2
          try simp only [Act.put, List.getElem_toArray, List.getElem_cons_succ, List.getElem_cons_zero, List.setIfInBounds_toArray, List.set_cons_zero, List.set_cons_succ]
          refine todo [15] ?_
          iterate 1
           first
           | (refine todoH (v := ?_) rfl (by kernel_rfl) (fun _ _ _ h => h) (by assumption) (Or.inl ⟨by rfl, ?_⟩) ?_
              rotate_left
              · intro w hSw; (try dsimp only at hSw); go_simp; (try with_reducible rfl)
              try simp only [Act.put, List.getElem_toArray, List.getElem_cons_succ, List.getElem_cons_zero, List.setIfInBounds_toArray, List.set_cons_zero, List.set_cons_succ])
           | (refine todoH (v := undef) rfl (by kernel_rfl) (fun _ _ _ h => h) (by assumption) (Or.inr ⟨by rfl, rfl⟩) ?_
              try simp only [Act.put, List.getElem_toArray, List.getElem_cons_succ, List.getElem_cons_zero, List.setIfInBounds_toArray, List.set_cons_zero, List.set_cons_succ])
          refine todone ?_
          refine wpAnyH_done (by kernel_rfl) ?_ _
          (try dsimp only [Straight])
          have HN6 := Lib.hid hN6
          clear hown' hgrow hown0 hHeld hN6
          have HGT := Lib.hid hgt
          go_wp2_with fail
          go_roundw
          case rel =>
            refine ⟨j + 1, by go_num, by omega, by rw [HNX.out]; exact HN6.out, fun i hi => ?_, hb6⟩
            by_cases hij : i < j
            · exact HLE.out i hij
            · obtain rfl : i = j := by omega
              rw [HZ1.out, HD.out]
              have := HGT.out
              omega
          case measure => simp [intOf]; omega
      · obtain rfl : j = lx := by omega
        obtain rfl : cd = 0 := by rw [← HCD.out]; exact if_pos (⟨by rw [HLX.out, HLY.out]; exact HH.out, fun i hi => HLE.out i (by rw [HLX.out] at hi; exact hi)⟩)
        have hvz : vl = zs := by
          rw [← HVL.out, if_pos (⟨by rw [HLX.out, HLY.out]; exact HH.out, fun i hi => HLE.out i (by rw [HLX.out] at hi; exact hi)⟩), ← HZS.out]
          unfold slS fstP sndP
          rw [HLX.out]
          
          
        have hw : Wid zs := fun t ht => by
          rw [← HZS.out] at ht
          obtain ⟨i, hi, rfl⟩ := List.mem_map.1 ht
          have hil := List.mem_range.1 hi
          have hbd := HBX.out i (by rw [HLX.out]; exact hil)
          have hb0 := bnd_at HBY.out (2 * i)
          have hb1 := bnd_at HBY.out (2 * i + 1)
          omega
        subst hvz
        have HRS := Lib.hid (⟨HOWN.out, hw⟩ : ResS w.heap.size wi _ _)
        clear hown hw hzl hle
        go_wp2_with fail
        go_ret2
        exact ⟨_, rfl, HRS.out, bwi⟩
end
section
open Go.RowKit
set_option linter.unusedVariables false
set_option linter.unusedSimpArgs false
/-- what is put together, up to a shape -/
def likeU (a : Nat) (x : List Int) (l : List (List Int)) : Prop := ∀ y ∈ l, y.length = x.length ∧ ∀ i, i < x.length → i ≠ a → y.getD i 0 = x.getD i 0
theorem likeU_next {a : Nat} {x : List Int} {ls : List (List Int)} {j : Nat} (h : likeU a x (ls.take j)) (hj : j < ls.length) (hl : (shpI ls j).length = x.length) (he : ∀ i, i < x.length → i ≠ a → (shpI ls j).getD i 0 = x.getD i 0) : likeU a x (ls.take (j + 1)) := fun y hy => by
  rw [List.take_add_one, shp_some hj] at hy
  rcases List.mem_append.1 hy with hy | hy
  · exact h y hy
  · obtain rfl : y = shpI ls j := by simpa using hy
    exact ⟨hl, he⟩
set_option maxRecDepth 100000 in
set_option maxHeartbeats 40000000 in
theorem concatR12_any {ls : List (List Int)} {al : Option Addr} {cl a : Nat} {w : World} (L : RowL w (.slice al ls.length cl) ls al cl) (ok : ∀ x ∈ ls, OkS x) (h0 : 0 < ls.length) (hl : ls.length ≤ 1000) (ha : a ≤ 3) :
    Calls Try.prog 57 #[.int .i64 (a : Int), .slice al ls.length cl] w fun e w' => ∃ r, e = .returned (.tuple #[r, .int .i64 (if holdI 17 [(a : Int)] ls = true then 0 else 13)]) ∧ ResS w.heap.size w' r (if holdI 17 [(a : Int)] ls = true then catS a ls else []) ∧ Below w.heap.size w w' := by
  rw [hold_cat ha]
  have HL := Lib.hid L
  have HOK := Lib.hid ok
  obtain ⟨k, hk⟩ : ∃ n, ls.length = n := ⟨_, rfl⟩
  have HK := Lib.hid hk
  obtain ⟨cd, hcd⟩ : ∃ c : Int, (if decide (a < (shpI ls 0).length ∧ ∀ y ∈ ls, y.length = (shpI ls 0).length ∧ ∀ i, i < (shpI ls 0).length → i ≠ a → y.getD i 0 = (shpI ls 0).getD i 0) = true then (0 : Int) else 13) = c := ⟨_, rfl⟩
  obtain ⟨vl, hvl⟩ : ∃ c : List Int, (if decide (a < (shpI ls 0).length ∧ ∀ y ∈ ls, y.length = (shpI ls 0).length ∧ ∀ i, i < (shpI ls 0).length → i ≠ a → y.getD i 0 = (shpI ls 0).getD i 0) = true then catS a ls else []) = c := ⟨_, rfl⟩
  rw [hcd, hvl]
  obtain ⟨b, o0, ax, cx, rfl, hbl, hcx, hAx, hnx⟩ := L.at (i := 0) h0
  rw [Nat.add_zero] at hcx
  have okx := ok _ (shp_in (i := 0) h0)
  obtain ⟨x, hxe⟩ : ∃ x, shpI ls 0 = x := ⟨_, rfl⟩
  rw [hxe] at hcd hvl hcx hAx okx
  have HXE := Lib.hid hxe
  obtain ⟨lx, hlx⟩ : ∃ n, x.length = n := ⟨_, rfl⟩
  have HLX := Lib.hid hlx
  have hrk := okx.rank
  rw [hlx] at hcx hrk
  have HCD := Lib.hid (show (a < lx ∧ likeU a x ls) → cd = 0 ∧ vl = catS a ls from fun h => by
    rw [← hcd, ← hvl, if_pos (decide_eq_true ⟨by rw [hlx]; exact h.1, h.2⟩), if_pos (decide_eq_true ⟨by rw [hlx]; exact h.1, h.2⟩)]
    exact ⟨rfl, rfl⟩)
  have HBD := Lib.hid (show ¬ (a < lx ∧ likeU a x ls) → cd = 13 ∧ vl = [] from fun h => by
    have h' : ¬ decide (a < x.length ∧ ∀ y ∈ ls, y.length = x.length ∧ ∀ i, i < x.length → i ≠ a → y.getD i 0 = x.getD i 0) = true := fun e => by
      have e2 := of_decide_eq_true e
      exact h ⟨by rw [← hlx]; exact e2.1, e2.2⟩
    rw [← hcd, ← hvl, if_neg h', if_neg h']
    exact ⟨rfl, rfl⟩)
  have HAX := Lib.hid hAx
  have HCX := Lib.hid hcx
  have HBL := Lib.hid hbl
  rw [hk] at h0 hl ⊢
  have hkI : (0 : Int) < (k : Int) := by omega
  have bE := Below.refl w.heap.size w
  clear hxe hlx hcd hvl hk L ok okx hAx
  by_cases hal : a < lx
  case neg =>
    obtain ⟨rfl, rfl⟩ := HBD.out (fun h => hal h.1)
    have hI : (a : Int) ≥ (lx : Int) := by omega
    go_enter Try.func57, Try.ntmps57
    go_wp2_with fail
    go_ret2
    exact ⟨_, rfl, ResS.nil _ _, bE⟩
  case pos =>
    have hI : ¬ (a : Int) ≥ (lx : Int) := by omega
    have dW := HAX.out
    rw [HLX.out] at dW
    go_enter Try.func57, Try.ntmps57
    go_wp2_with (at_builtin; refine step_copyT rfl _ 23 23 Try.underlying23 Try.underlying23 rfl rfl dW hnx (by rw [HLX.out]; omega) ?_; intro ro w3 R3 hb3; obtain ⟨ar, cr, rfl, IL, hlc, nl, wl⟩ := R3.idx)
    rw [HLX.out] at hlc
    (try rw [HLX.out])
    have HIL := Lib.hid IL
    have HWL := Lib.hid wl
    have HB3 := Lib.hid hb3
    clear IL wl R3 nl hcx dW hI
    (try go_wp2_with fail)
    go_loopw [8, 9] (fun kk _ wr => ∃ (j : Nat) (zs : List Int), kk = .int .i64 (j : Int) ∧ 1 ≤ j ∧ j ≤ k ∧ IdxP w.heap.size wr ar cr zs ∧ zs = x.set a (catD a (ls.take j)) ∧ Hid (likeU a x (ls.take j)) ∧ Below w.heap.size w wr) (fun kk _ _ => k - (intOf kk).toNat)
    case atStart =>
      refine ⟨1, _, rfl, Nat.le_refl _, by omega, HIL.out, ?_, Lib.hid ?_, HB3.out⟩
      · rw [List.take_add_one, shp_some (by rw [HK.out]; omega), HXE.out]
        simp only [List.take_zero, List.nil_append, Option.toList, catD, Int.add_zero]
        exact set_self9.symm
      · intro y hy
        rw [List.take_add_one, shp_some (by rw [HK.out]; omega), HXE.out] at hy
        obtain rfl : y = x := by simpa using hy
        exact ⟨rfl, fun _ _ _ => rfl⟩
    case round =>
      obtain ⟨j, zs, rfl, hj1, hj, hI, hzs, hlk, hb⟩ := hrel
      have hsz := hb.size
      have HZS := Lib.hid hzs
      have hlz : zs.length = lx := by rw [hzs, List.length_set, HLX.out]
      have HLZ := Lib.hid hlz
      have HI := Lib.hid hI
      have HB := Lib.hid hb
      clear hzs
      by_cases hlt : j < k
      · have hltI : (j : Int) < (k : Int) := by omega
        have hj0 : (0 : Int) ≤ (j : Int) := by omega
        obtain ⟨b', o', ay, cy, e', hbl', c0, hAy, hny⟩ := (HL.out.later hb).at (i := j) (by rw [HK.out]; omega)
        cases e'
        have oky := HOK.out _ (shp_in (i := j) (by rw [HK.out]; omega))
        obtain ⟨y, hye⟩ : ∃ y, shpI ls j = y := ⟨_, rfl⟩
        rw [hye] at c0 hAy oky
        have HYE := Lib.hid hye
        obtain ⟨ly, hly⟩ : ∃ n, y.length = n := ⟨_, rfl⟩
        have HLY := Lib.hid hly
        rw [hly] at c0
        have HOY := Lib.hid oky
        have HAY := Lib.hid hAy
        clear hye hly oky hI hAy hlz
        by_cases hle : ly = lx
        case neg =>
          have hleI : ((ly : Int) != (lx : Int)) = true := by simp; omega
          obtain ⟨rfl, rfl⟩ := HBD.out (fun h => hle (by
            have h5 := (h.2 y (by rw [← HYE.out]; exact shp_in (by rw [HK.out]; omega))).1
            rw [HLY.out, HLX.out] at h5
            exact h5))
          clear hle
          go_wp2_with fail
          (try rw [Exit.noGoto_ret])
          go_ret2
          exact ⟨_, rfl, ResS.nil _ _, hb⟩
        case pos =>
          subst hle
          have hay0 : 0 < ly := by omega
          obtain ⟨by_, oy, rfl, _⟩ := HAY.out.at (i := 0) (by rw [HLY.out]; exact hay0)
          obtain ⟨bx, ox, rfl, _⟩ := HAX.out.at (i := 0) (by rw [HLX.out]; exact hay0)
          have HWR := Lib.hid (Below.refl w.heap.size w)
          go_wp2_with fail
          go_loopw [9] (fun ii wk => ∃ i : Nat, ii = .int .i64 (i : Int) ∧ i ≤ ly ∧ Hid (∀ i', i' < i → i' ≠ a → y.getD i' 0 = x.getD i' 0) ∧ Below wr.heap.size wr wk) (fun ii _ => ly - (intOf ii).toNat)
          case atStart => exact ⟨0, rfl, Nat.zero_le _, Lib.hid (fun i' h => by omega), Below.refl _ _⟩
          case round =>
            rename World => wk
            obtain ⟨i, rfl, hi, heq, hbk⟩ := hrel
            have bwk : Below w.heap.size w wk := HB.out.trans (hbk.mono hsz)
            by_cases hil : i < ly
            · have hilI : (i : Int) < (ly : Int) := by omega
              have hi0 : (0 : Int) ≤ (i : Int) := by omega
              obtain ⟨_, _, e1, hcy⟩ := (HAY.out.later hbk).at (i := i) (by rw [HLY.out]; exact hil)
              cases e1
              obtain ⟨_, _, e2, hcxi⟩ := (HAX.out.later bwk).at (i := i) (by rw [HLX.out]; exact hil)
              cases e2
              obtain ⟨p, hp⟩ : ∃ p, y.getD i 0 = p := ⟨_, rfl⟩
              obtain ⟨q, hq⟩ : ∃ q, x.getD i 0 = q := ⟨_, rfl⟩
              rw [hp] at hcy
              rw [hq] at hcxi
              have HP := Lib.hid hp
              have HQ := Lib.hid hq
              have hck := (hbk.cell (p := ⟨b, o0 + j, none⟩) (World.block_lt_of_cell? _ _ c0)).trans c0
              have MKI := Lib.hid (show ∀ X, Below wk.heap.size wk X → (fun X => X.cell? ⟨b, o0 + j, none⟩ = some (.slice (some ⟨by_, oy, none⟩) ly cy) ∧ X.cell? ⟨by_, oy + i, none⟩ = some (.int .i64 p) ∧ X.cell? ⟨bx, ox + i, none⟩ = some (.int .i64 q)) X from fun X h => ⟨(h.cell (World.block_lt_of_cell? _ _ hck)).trans hck, (h.cell (World.block_lt_of_cell? _ _ hcy)).trans hcy, (h.cell (World.block_lt_of_cell? _ _ hcxi)).trans hcxi⟩)
              have Q0 : Below wk.heap.size wk wk.drew := (Below.refl _ _).drew
              clear hp hq hcy hcxi hck
              by_cases hia : i = a
              · have hiaI : ((i : Int) != (a : Int)) = false := by simp; omega
                have HIA := Lib.hid hia
                clear hia
                go_wp2_with fail
                refine wp_region_held_drew (S := fun X => X.cell? ⟨b, o0 + j, none⟩ = some (.slice (some ⟨by_, oy, none⟩) ly cy) ∧ X.cell? ⟨by_, oy + i, none⟩ = some (.int .i64 p) ∧ X.cell? ⟨bx, ox + i, none⟩ = some (.int .i64 q)) (by kernel_rfl) (MKI.out _ Q0) (fun hHeld => ?_)
                obtain ⟨q0, hdrh⟩ : ∃ Y, wk.drew = Y := ⟨_, rfl⟩
                rw [hdrh] at Q0 hHeld ⊢
                clear hdrh
                refine todo [0, 1, 2, 3, 4, 5, 6, 7, 8, 9, 10, 11, 12, 13, 14, 15, 16] ?_
                iterate 17
                 first
                 | (refine todoH (v := ?_) rfl (by kernel_rfl) (fun _ _ _ h => h) (by assumption) (Or.inl ⟨by rfl, ?_⟩) ?_
                    rotate_left
                    · intro w hSw; (try dsimp only at hSw); go_simp; (try with_reducible rfl)
                    try simp only [Act.put, List.getElem_toArray, List.getElem_cons_succ, List.getElem_cons_zero, List.setIfInBounds_toArray, List.set_cons_zero, List.set_cons_succ])
                 | (refine todoH (v := undef) rfl (by kernel_rfl) (fun _ _ _ h => h) (by assumption) (Or.inr ⟨by rfl, rfl⟩) ?_
                    try simp only [Act.put, List.getElem_toArray, List.getElem_cons_succ, List.getElem_cons_zero, List.setIfInBounds_toArray, List.set_cons_zero, List.set_cons_succ])
                refine todone ?_
                refine wpAnyH_done (by kernel_rfl) ?_ _
                (try dsimp only [Straight])
                clear hHeld
                go_wp2_with fail
                go_roundw
                case rel => exact ⟨i + 1, by go_num, by omega, Lib.hid (fun i' h1 h2 => heq.out i' (by have := HIA.out; omega) h2), hbk.trans (Q0.mono hbk.size)⟩
                case measure => simp [intOf]; omega
              · have hiaI : ((i : Int) != (a : Int)) = true := by simp; omega
                have HIA := Lib.hid hia
                clear hia
                by_cases hpq : p = q
                · have hpqI : (p != q) = false := by simp [hpq]
                  have HPQ := Lib.hid hpq
                  clear hpq
                  go_wp2_with fail
                  refine wp_region_held_drew (S := fun X => X.cell? ⟨b, o0 + j, none⟩ = some (.slice (some ⟨by_, oy, none⟩) ly cy) ∧ X.cell? ⟨by_, oy + i, none⟩ = some (.int .i64 p) ∧ X.cell? ⟨bx, ox + i, none⟩ = some (.int .i64 q)) (by kernel_rfl) (MKI.out _ Q0) (fun hHeld => ?_)
                  obtain ⟨q0, hdrh⟩ : ∃ Y, wk.drew = Y := ⟨_, rfl⟩
                  rw [hdrh] at Q0 hHeld ⊢
                  clear hdrh
                  refine todo [0, 1, 2, 3, 4, 5, 6, 7, 8, 9, 10, 11, 12, 13, 14, 15, 16] ?_
                  iterate 17
                   first
                   | (refine todoH (v := ?_) rfl (by kernel_rfl) (fun _ _ _ h => h) (by assumption) (Or.inl ⟨by rfl, ?_⟩) ?_
                      rotate_left
                      · intro w hSw; (try dsimp only at hSw); go_simp; (try with_reducible rfl)
                      try simp only [Act.put, List.getElem_toArray, List.getElem_cons_succ, List.getElem_cons_zero, List.setIfInBounds_toArray, List.set_cons_zero, List.set_cons_succ])
                   | (refine todoH (v := undef) rfl (by kernel_rfl) (fun _ _ _ h => h) (by assumption) (Or.inr ⟨by rfl, rfl⟩) ?_
                      try simp only [Act.put, List.getElem_toArray, List.getElem_cons_succ, List.getElem_cons_zero, List.setIfInBounds_toArray, List.set_cons_zero, List.set_cons_succ])
                  refine todone ?_
                  refine wpAnyH_done (by kernel_rfl) ?_ _
                  (try dsimp only [Straight])
                  clear hHeld
                  go_wp2_with fail
                  go_roundw
                  case rel =>
                    refine ⟨i + 1, by go_num, by omega, Lib.hid (fun i' h1 h2 => ?_), hbk.trans (Q0.mono hbk.size)⟩
                    by_cases h3 : i' < i
                    · exact heq.out i' h3 h2
                    · obtain rfl : i' = i := by omega
                      rw [HP.out, HQ.out]
                      exact HPQ.out
                  case measure => simp [intOf]; omega
                · have hpqI : (p != q) = true := by simpa using hpq
                  obtain ⟨rfl, rfl⟩ := HBD.out (fun h => hpq (by
                    have h5 := (h.2 y (by rw [← HYE.out]; exact shp_in (by rw [HK.out]; omega))).2 i (by rw [HLX.out]; exact hil) HIA.out
                    rw [HP.out, HQ.out] at h5
                    exact h5))
                  clear hpq
                  go_wp2_with fail
                  refine wp_region_held_drew (S := fun X => X.cell? ⟨b, o0 + j, none⟩ = some (.slice (some ⟨by_, oy, none⟩) ly cy) ∧ X.cell? ⟨by_, oy + i, none⟩ = some (.int .i64 p) ∧ X.cell? ⟨bx, ox + i, none⟩ = some (.int .i64 q)) (by kernel_rfl) (MKI.out _ Q0) (fun hHeld => ?_)
                  obtain ⟨q0, hdrh⟩ : ∃ Y, wk.drew = Y := ⟨_, rfl⟩
                  rw [hdrh] at Q0 hHeld ⊢
                  clear hdrh
                  refine todo [0, 1, 2, 3, 4, 5, 6, 7, 8, 9, 10, 11, 12, 13, 14, 15, 16] ?_
                  iterate 17
                   first
                   | (refine todoH (v := ?_) rfl (by kernel_rfl) (fun _ _ _ h => h) (by assumption) (Or.inl ⟨by rfl, ?_⟩) ?_
                      rotate_left
                      · intro w hSw; (try dsimp only at hSw); go_simp; (try with_reducible rfl)
                      try simp only [Act.put, List.getElem_toArray, List.getElem_cons_succ, List.getElem_cons_zero, List.setIfInBounds_toArray, List.set_cons_zero, List.set_cons_succ])
                   | (refine todoH (v := undef) rfl (by kernel_rfl) (fun _ _ _ h => h) (by assumption) (Or.inr ⟨by rfl, rfl⟩) ?_
                      try simp only [Act.put, List.getElem_toArray, List.getElem_cons_succ, List.getElem_cons_zero, List.setIfInBounds_toArray, List.set_cons_zero, List.set_cons_succ])
                  refine todone ?_
                  refine wpAnyH_done (by kernel_rfl) ?_ _
                  (try dsimp only [Straight])
                  clear hHeld
                  have bE2 : Below w.heap.size w q0 := bwk.trans (Q0.mono bwk.size)
                  go_wp2_with fail
                  (try rw [Exit.noGoto_ret])
                  (try rw [Exit.noGoto_ret])
                  go_ret2
                  exact ⟨_, rfl, ResS.nil _ _, bE2⟩
            · obtain rfl : i = ly := by omega
              have hIk := HI.out.later hbk
              obtain ⟨gl, rfl, hgB, hmax, hP⟩ := hIk.at (i := a) (by rw [HLZ.out]; exact hal)
              have cz := hP.cell a (by rw [HLZ.out]; exact hal)
              have hzv : zs.getD a 0 = catD a (ls.take j) := by rw [HZS.out]; exact getD_set_self _ _ _ (by rw [HLX.out]; exact hal)
              obtain ⟨z, hz⟩ : ∃ z, catD a (ls.take j) = z := ⟨_, rfl⟩
              have hpre : ∀ y' ∈ ls.take j, OkS y' ∧ a < y'.length := fun y' hy' => ⟨HOK.out y' (List.mem_of_mem_take hy'), by rw [(hlk.out y' hy').1, HLX.out]; exact hal⟩
              have hbd := catD_bound hpre
              rw [List.length_take, HK.out] at hbd
              rw [hz] at hzv hbd
              rw [hzv] at cz
              obtain ⟨_, _, e1, c2⟩ := (HAY.out.later hbk).at (i := a) (by rw [HLY.out]; exact hal)
              cases e1
              obtain ⟨d, hd⟩ : ∃ d, y.getD a 0 = d := ⟨_, rfl⟩
              rw [hd] at c2
              have hd3 := HOY.out.pos.getD (i := a) (by rw [HLY.out]; exact hal)
              have hd4 := getD_le_prod HOY.out.pos (k := a) (by rw [HLY.out]; exact hal)
              have hd5 := HOY.out.few
              rw [hd] at hd3 hd4
              have hmin : min j k = j := by omega
              rw [hmin] at hbd
              have wy : IntKind.i64.wrap (z + d) = z + d := IntWalk.i64_in _ (by omega)
              have hnx2 : zs.set a (z + d) = x.set a (catD a (ls.take (j + 1))) := by
                rw [HZS.out, set_set9, List.take_add_one (l := ls) (i := j), shp_some (by rw [HK.out]; omega), HYE.out, Option.toList_some, catD_snoc, hz, hd]
              have HNX := Lib.hid hnx2
              have hlk2 : likeU a x (ls.take (j + 1)) := likeU_next hlk.out (by rw [HK.out]; exact hlt) (by rw [HYE.out, HLY.out, HLX.out]) (fun i' h1 h2 => by rw [HYE.out]; exact heq.out i' (by rw [← HLX.out]; exact h1) h2)
              have HLK2 := Lib.hid hlk2
              have ha0 : (a : Int) < (i : Int) := by omega
              have hgl := hP.lt
              have hfd : wk.drew.frozen? ⟨gl, a, none⟩ = false := hP.free a
              have HP2 := Lib.hid hP
              have hck := (hbk.cell (p := ⟨b, o0 + j, none⟩) (World.block_lt_of_cell? _ _ c0)).trans c0
              have hS0 : wk.drew.cell? ⟨gl, a, none⟩ = some (.int .i64 z) ∧ wk.drew.cell? ⟨b, o0 + j, none⟩ = some (.slice (some ⟨by_, oy, none⟩) i cy) ∧ wk.drew.cell? ⟨by_, oy + a, none⟩ = some (.int .i64 d) := ⟨cz, hck, c2⟩
              have HAL := Lib.hid hal
              clear hIk hd hz hzv hnx2 hP cz c2 hpre hd3 hd4 hd5 hlk2 hck hmin c0 heq hlk
              go_wp2_with fail
              refine wp_region_L (S := fun X => X.cell? ⟨gl, a, none⟩ = some (.int .i64 z) ∧ X.cell? ⟨b, o0 + j, none⟩ = some (.slice (some ⟨by_, oy, none⟩) i cy) ∧ X.cell? ⟨by_, oy + a, none⟩ = some (.int .i64 d)) (z := 15) (by kernel_rfl) hS0 (fun hHeld => ?_)
              refine todo [0, 1, 2, 3, 4, 5, 6, 7, 8, 9, 10, 11, 12, 13, 14] ?_
              iterate 15
               refine todoL (v := ?_) rfl (by kernel_rfl) (fun _ _ _ h => h) (by assumption) (Or.inl ⟨by rfl, ?_⟩) ?_
               rotate_left
               · intro w hSw; (try dsimp only at hSw); go_simp; (try with_reducible rfl)
               try simp only [Act.put, List.getElem_toArray, List.getElem_cons_succ, List.getElem_cons_zero, List.setIfInBounds_toArray, List.set_cons_zero, List.set_cons_succ]
              refine todone ?_
              refine wpAnyL_one (i := 15) (by kernel_rfl) rfl (fun K hK => ?sbj_15)
              go_simp
              refine hK.out _ _ (fun h => absurd rfl h) (fun _ => ?mbj_15)
              clear hK K
              try simp only [Act.put, List.getElem_toArray, List.getElem_cons_succ, List.getElem_cons_zero, List.setIfInBounds_toArray, List.set_cons_zero, List.set_cons_succ]
              refine wpAnyL_done (by kernel_rfl) ?_ _
              go_wp2_with fail
              go_roundw
              case rel =>
                exact ⟨j + 1, _, by go_num, by omega, by omega, .inr ⟨gl, rfl, hgB, hmax, PartS.set (show PartS wk.drew gl cr zs from HP2.out) a (by rw [HLZ.out]; exact HAL.out) (z + d)⟩, HNX.out, HLK2, setBelow (bwk.drew) hgB _ _⟩
              case measure => simp [intOf]; omega
      · obtain rfl : j = k := by omega
        have hltI : ¬ (j : Int) < (j : Int) := by omega
        have hall : ls.take j = ls := List.take_of_length_le (by rw [HK.out]; exact Nat.le_refl _)
        have hlk2 := hlk.out
        rw [hall] at hlk2
        obtain ⟨rfl, hv2⟩ := HCD.out ⟨hal, hlk2⟩
        have hzr : zs = vl := by
          rw [hv2, HZS.out, hall]
          unfold catS
          rw [HXE.out]
        have hwd : Wid zs := by
          have hb5 := catD_bound (a := a) (l := ls) (fun y' hy' => ⟨HOK.out y' hy', by rw [(hlk2 y' hy').1, HLX.out]; exact hal⟩)
          rw [HK.out] at hb5
          rw [HZS.out]
          intro t ht
          rcases List.mem_or_eq_of_mem_set ht with h | rfl
          · exact HWL.out t h
          · rw [hall]; omega
        have hR := HI.out.res hwd
        rw [HLZ.out, hzr] at hR
        have HRR := Lib.hid hR
        clear hI hzr hwd hR hall hlk2 hv2 hlz
        go_wp2_with fail
        go_ret2
        exact ⟨_, rfl, HRR.out, hb⟩
theorem infoSl12 : (Try.prog.info? 23).map (fun i => (i.zero, i.size, i.bytes)) = some (some (.slice none 0 0), 1, 24) := by kernel_rfl
theorem rowLater {B n : Nat} {w w' : World} {T : TypeId} {v : Value} {vals : List Value} (h : w.ownsRow B T 1 v n vals) (hb : Below w.heap.size w w') : w'.ownsRow B T 1 v n vals := by
  obtain ⟨h1, h2⟩ := h
  refine ⟨h1, ?_⟩
  rcases h2 with h2 | ⟨g, cap, cur, rfl, hg0, hg, hrest⟩
  · exact .inl h2
  · exact .inr ⟨g, cap, cur, rfl, hg0, (hb.block g (lt_of_block hg)).trans hg, hrest⟩
/-- a row of slices that grows; what its slices hold lies below a block -/
def OwnA (T : TypeId) (B : Nat) (w0 w : World) (v : Value) (ls : List (List Int)) : Prop := ∃ vals : List Value, w.ownsRow B T 1 v ls.length vals ∧ vals.length = ls.length ∧ ∀ i, i < ls.length → ∃ (a : Option Addr) (c : Nat), vals[i]? = some (.slice a (shpI ls i).length c) ∧ ArgS w0 (.slice a (shpI ls i).length c) (shpI ls i) a c ∧ (a = none → c = 0)
theorem shp_app {l : List (List Int)} {x : List Int} {i : Nat} (h : i < l.length) : shpI (l ++ [x]) i = shpI l i := by
  unfold shpI
  rw [List.getD_eq_getElem?_getD, List.getElem?_append_left h, ← List.getD_eq_getElem?_getD]
theorem shp_last {l : List (List Int)} {x : List Int} : shpI (l ++ [x]) l.length = x := by
  unfold shpI
  rw [List.getD_eq_getElem?_getD, List.getElem?_append_right (Nat.le_refl _), Nat.sub_self]
  rfl
theorem OwnA.row {T : TypeId} {B : Nat} {w0 w : World} {v : Value} {ls : List (List Int)} (h : OwnA T B w0 w v ls) (hb : Below w0.heap.size w0 w) : ∃ ad cap, v = .slice ad ls.length cap ∧ RowL w (.slice ad ls.length cap) ls ad cap := by
  obtain ⟨vals, ho, hl, he⟩ := h
  have ho' := ho
  obtain ⟨h1, h2⟩ := ho
  rcases h2 with ⟨rfl, hn⟩ | ⟨g, cap, cur, rfl, hg0, hh, hc, hm, hs, ht⟩
  · have e : ls = [] := List.eq_nil_of_length_eq_zero hn
    subst e
    exact ⟨none, 0, rfl, ⟨rfl, Nat.le_refl _, .inl rfl⟩⟩
  · refine ⟨_, _, rfl, rfl, hc, .inr ⟨g, 0, rfl, fun i x hi => ?_⟩⟩
    have hil : i < ls.length := by
      rcases Nat.lt_or_ge i ls.length with q | q
      · exact q
      · rw [List.getElem?_eq_none q] at hi; cases hi
    obtain ⟨a, c, e1, e2, e3⟩ := he i hil
    have ex : shpI ls i = x := by
      have := shp_some hil
      rw [hi] at this
      exact (Option.some.inj this).symm
    rw [ex] at e1 e2
    have hj := World.ownsRow.cellAt (w := w) (base := B) (e := T) (size := 1) (g := g) (n := ls.length) (cap := cap) (xs := vals) ho' i (by omega)
    rw [Nat.zero_add]
    refine ⟨a, c, ?_, e2.later hb, e3⟩
    rw [hj]
    exact e1
theorem OwnA.nil (T : TypeId) (B : Nat) (w0 w : World) : OwnA T B w0 w (.slice none 0 0) [] := ⟨[], World.ownsRow_nil _ _ _ _, rfl, fun i h => by simp at h⟩
set_option maxRecDepth 100000 in
set_option maxHeartbeats 8000000 in
theorem listsR_any {ls : List (List Int)} {al : Option Addr} {cl : Nat} {w : World} (L : RowL w (.slice al ls.length cl) ls al cl) (hl : ls.length ≤ 1000) :
    Calls Try.prog 12 #[.slice al ls.length cl] w fun e w' => ∃ ad cap, e = .returned (.slice ad ls.length cap) ∧ RowL w' (.slice ad ls.length cap) ls ad cap ∧ Below w.heap.size w w' := by
  obtain ⟨iT, hiT, hzA, hzB, hzC⟩ := info_parts infoSl12
  have HL := Lib.hid L
  obtain ⟨k, hk⟩ : ∃ n, ls.length = n := ⟨_, rfl⟩
  have HK := Lib.hid hk
  rw [hk] at hl ⊢
  have bE := Below.refl w.heap.size w
  clear L hk
  go_enter Try.func12, Try.ntmps12
  go_wp2_with fail
  go_loopw [3, 4] (fun u ii wi => ∃ j : Nat, ii = .int .i64 (j : Int) ∧ j ≤ k ∧ OwnA 23 w.heap.size w wi u (ls.take j) ∧ Below w.heap.size w wi) (fun _ ii _ => k - (intOf ii).toNat)
  case atStart => exact ⟨0, rfl, Nat.zero_le _, by rw [List.take_zero]; exact OwnA.nil _ _ _ _, bE⟩
  case round =>
    rename World => wi
    obtain ⟨j, rfl, hj, hown, bwi⟩ := hrel
    have hszi := bwi.size
    have htl : (ls.take j).length = j := by rw [List.length_take, HK.out]; omega
    by_cases hlt : j < k
    · have hltI : (j : Int) < (k : Int) := by omega
      have hj0 : (0 : Int) ≤ (j : Int) := by omega
      obtain ⟨vals, ho, hvl, hel⟩ := hown
      rw [htl] at ho hvl
      obtain ⟨b, o0, ax, cx, rfl, hbl, hcx, hAx, hnx⟩ := (HL.out.later bwi).at (i := j) (by rw [HK.out]; exact hlt)
      obtain ⟨b2, o2, ax2, cx2, e2, hbl2, hcx2, hAx2, hnx2⟩ := HL.out.at (i := j) (by rw [HK.out]; exact hlt)
      cases e2
      obtain ⟨rfl, rfl⟩ : ax = ax2 ∧ cx = cx2 := by
        have h5 := ((bwi.cell (p := ⟨b, o0 + j, none⟩) hbl2).trans hcx2)
        rw [hcx] at h5
        simpa using h5
      obtain ⟨lx, hlx⟩ : ∃ n, (shpI ls j).length = n := ⟨_, rfl⟩
      rw [hlx] at hcx
      have HLX := Lib.hid hlx
      have HEL := Lib.hid hel
      have HO := Lib.hid ho
      have HVL := Lib.hid hvl
      have HTL := Lib.hid htl
      have HA2 := Lib.hid hAx2
      have HTN := Lib.hid (show ls.take (j + 1) = ls.take j ++ [shpI ls j] by rw [List.take_add_one, shp_some (by rw [HK.out]; exact hlt)]; rfl)
      obtain ⟨au0, cu0, rfl⟩ := ownT_slice ho
      clear hlx hel ho hvl htl hAx hAx2
      go_wp2_with (at_builtin; (refine wpList_append_own _ rfl _ _ 34 rfl w.heap.size 23 iT (.slice none 0 0) 1 24 Try.underlying34 hiT hzA hzB hzC rfl (by decide) _ j vals rfl (rowLater HO.out ((Below.refl _ _).alloc (Nat.le_refl _) _)) ⟨wi.heap.size, 0, none⟩ 1 1 [.slice ax lx cx] rfl rfl (cell_one_new _ _ _) (by simp [Value.oneCell']) (by unfold maxLen; omega) (by omega) (by simp; omega) ?_; intro v' w6 hown' hgrow _))
      have hb6 : Below w.heap.size w w6 := (bwi.alloc hszi _).grown hgrow (by simp; omega) (fun q hq => (World.ownsRow.lt HO.out q hq).1)
      have hN : OwnA 23 w.heap.size w w6 v' (ls.take (j + 1)) := by
        rw [HTN.out]
        refine ⟨vals ++ [.slice ax lx cx], ?_, ?_, fun i hi => ?_⟩
        · rw [List.length_append, HTL.out]; exact hown'
        · rw [List.length_append, List.length_append, HTL.out, HVL.out]; rfl
        · rw [List.length_append, HTL.out] at hi
          by_cases hij : i < j
          · rw [shp_app (by rw [HTL.out]; exact hij)]
            obtain ⟨a, c, e1, e2, e3⟩ := HEL.out i (by rw [HTL.out]; exact hij)
            exact ⟨a, c, by rw [List.getElem?_append_left (by rw [HVL.out]; exact hij)]; exact e1, e2, e3⟩
          · obtain rfl : i = j := by simp at hi; omega
            have e : shpI (ls.take i ++ [shpI ls i]) i = shpI ls i := by
              have h5 := shp_last (l := ls.take i) (x := shpI ls i)
              rw [HTL.out] at h5
              exact h5
            rw [e]
            exact ⟨ax, cx, by rw [List.getElem?_append_right (by rw [HVL.out]; exact Nat.le_refl _), HVL.out, Nat.sub_self, ← HLX.out]; rfl, HA2.out, hnx2⟩
      have HN := Lib.hid hN
      clear hN hown' hgrow
      (try go_wp2_with fail)
      go_roundw
      case rel => exact ⟨j + 1, by go_num, by omega, HN.out, hb6⟩
      case measure => simp [intOf]; omega
    · obtain rfl : j = k := by omega
      have hall : ls.take j = ls := List.take_of_length_le (by rw [HK.out]; exact Nat.le_refl _)
      rw [hall] at hown
      obtain ⟨ad, cap, rfl, hR⟩ := hown.row bwi
      rw [HK.out] at hR ⊢
      have HR := Lib.hid hR
      clear hown hR hall htl
      go_wp2_with fail
      go_ret
      exact ⟨_, _, rfl, HR.out, bwi⟩
end
end Go.Proofs.Ytdcggcfgkhlblaa
