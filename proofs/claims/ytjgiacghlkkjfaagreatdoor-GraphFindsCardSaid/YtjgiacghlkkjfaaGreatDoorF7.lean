/-
  Part 7 of 29: contracts and what they rest on (Shl).
-/
import Derived.Test.YtjgiacghlkkjfaaGreatDoorF1
import Derived.Test.YtjgiacghlkkjfaaGreatDoorF2
import Derived.Test.YtjgiacghlkkjfaaGreatDoorF4
import Derived.WalkKit
import Derived.Test.YtjgiacghlkkjfaaGreatDoorRows
import Derived.OrdersHeld
import Derived.Deep.RegionHeld
import Derived.BigQuiet
import Derived.Deep.QuietTactic
import Derived.Lib.Hide
import Derived.Lib.Small
import Derived.Lib.Walk
import Derived.Lib.BitFns
import Derived.Maps.AppendAt
import Derived.RangeFuncNested
import Derived.RangeFuncBound
import Derived.RangeFuncCalls
import Derived.RangeFuncLeaves
import Derived.Shelf.Abstract
import Derived.OwnWalkIn
import Derived.TacticsInMore
import Derived.LoopNIn
import Derived.LoopIn
import Derived.RangeFuncBox
import Derived.Deep.RegionHeld3
import Derived.OrdersIn
import Derived.StillTailTactics
import Derived.RangeFuncFrom
import Derived.Laws.EntriesVeiled
import Derived.ProofKit
import Derived.OpenShut
import Derived.JoinedCond
import Derived.Carry
import Derived.Laws.AppendOwnNone
import Derived.Lib.ItoaNum
import Derived.Deep.RegionLaw
namespace Go.Proofs.YtjgiacghlkkjfaaGreatDoor
set_option maxRecDepth 100000
section
open Go.RowKit Go.Shelf
attribute [local go_sem] Oper.semAt_some
/-- limbs that are shifted up one by one: what is written, the carry -/
def shlStep (q : Nat) (xs : List Int) (s : List Int × Int) (k : Nat) : List Int × Int :=
  (s.1 ++ [(s.2 + xs.getD k 0 * 2 ^ q) % 4294967296], (s.2 + xs.getD k 0 * 2 ^ q) / 4294967296)
def shlOf (q : Nat) (xs : List Int) (ks : List Nat) : List Int × Int := ks.foldl (shlStep q xs) ([], 0)
theorem shlOf_snoc (q : Nat) (xs : List Int) (ks : List Nat) (k : Nat) : shlOf q xs (ks ++ [k]) = shlStep q xs (shlOf q xs ks) k := by simp [shlOf]
theorem shl_part {x : Int} {q : Nat} (hx : 0 ≤ x ∧ x < 4294967296) (hq : q < 32) : 0 ≤ x * 2 ^ q ∧ x * 2 ^ q ≤ 4294967295 * 2 ^ q ∧ (2 : Int) ^ q ≤ 2147483648 := by
  have hp := two_pos q
  refine ⟨Int.mul_nonneg hx.1 (by omega), Int.mul_le_mul_of_nonneg_right (by omega) (by omega), ?_⟩
  exact two_mono (show q ≤ 31 by omega)
theorem shlOf_ok (q : Nat) (xs : List Int) (hx : Wf xs) (hq : q < 32) (ks : List Nat) : (shlOf q xs ks).1.length = ks.length ∧ Wf (shlOf q xs ks).1 ∧ 0 ≤ (shlOf q xs ks).2 ∧ (shlOf q xs ks).2 < 2 ^ q := by
  suffices h : ∀ (ks : List Nat) (s : List Int × Int), Wf s.1 ∧ 0 ≤ s.2 ∧ s.2 < 2 ^ q → ((ks.foldl (shlStep q xs) s).1.length = s.1.length + ks.length ∧ Wf (ks.foldl (shlStep q xs) s).1 ∧ 0 ≤ (ks.foldl (shlStep q xs) s).2 ∧ (ks.foldl (shlStep q xs) s).2 < 2 ^ q) from by
    have h2 := h ks ([], 0) ⟨Wf.nil, by simp, two_pos q⟩
    simpa [shlOf] using h2
  intro ks
  induction ks with
  | nil => intro s h; exact ⟨by simp, h⟩
  | cons k ks ih =>
    intro s ⟨g1, g2, g3⟩
    have hp := shl_part (hx.getD k) hq
    have h := ih (shlStep q xs s k) ⟨g1.append (Wf.cons (by omega) Wf.nil), by simp only [shlStep]; omega, by simp only [shlStep]; omega⟩
    refine ⟨?_, h.2⟩
    rw [List.foldl_cons, h.1]
    simp [shlStep]
    omega
theorem val_shlOf (q : Nat) (xs : List Int) (k : Nat) : (shlOf q xs (List.range k)).1.length = k ∧ val (shlOf q xs (List.range k)).1 + 4294967296 ^ k * (shlOf q xs (List.range k)).2 = val (xs.take k) * 2 ^ q := by
  induction k with
  | zero => simp [shlOf, val]
  | succ k ih =>
    obtain ⟨il, ih⟩ := ih
    rw [List.range_succ, shlOf_snoc, val_take_succ]
    simp only [shlStep]
    refine ⟨by simp [il], ?_⟩
    rw [val_append, il]
    have hm : ∀ s : Int, s % 4294967296 + 4294967296 * (s / 4294967296) = s := fun s => by omega
    have hm := hm ((shlOf q xs (List.range k)).2 + xs.getD k 0 * 2 ^ q)
    simp only [Int.pow_succ, val]
    rw [Int.add_mul, ← ih, Int.mul_assoc, Int.mul_assoc]
    generalize (shlOf q xs (List.range k)).2 = c at *
    generalize xs.getD k 0 * 2 ^ q = y at *
    generalize (4294967296 : Int) ^ k = P at *
    generalize (c + y) % 4294967296 = r at *
    generalize (c + y) / 4294967296 = t at *
    have h2 : P * (r + 4294967296 * t) = P * (c + y) := by rw [hm]
    rw [Int.mul_add, Int.mul_add] at h2
    simp only [Int.mul_zero, Int.add_zero]
    omega
/-- one limb behind a row that has room -/
theorem step_append_limb {ops : Array Oper} {o : Oper} {a : Act} {w : World} {K : Act → World → Prop} {Q : Exit → Act → World → Prop} {E : Prop} (hg : o.guard = none) (s x : Operand)
    (hop : o.op = Op.call { callee := Callee.builtin Builtin.append, args := #[s, x], argTypes := #[91, 91] }) (g n cap p : Nat) (zs : List Int) (d : Int) (h : Blk w g zs) (hc : zs.length = cap) (hn : n < cap)
    (hs : a.eval s = .slice (some ⟨g, 0, none⟩) n cap) (hx : a.eval x = .slice (some ⟨p, 0, none⟩) 1 1) (hp : w.cell? ⟨p, 0, none⟩ = some (.int .u32 d))
    (hK : K (a.put o.dst (.slice (some ⟨g, 0, none⟩) (n + 1) cap)) (w.setCell ⟨g, n, none⟩ (.int .u32 d))) :
    if Region.wanted o (yielded ops a.tmps) = true then Oper.wp Tryz.prog o a w K Q else E := by
  obtain ⟨i0, hi, hz0, hz1, hz2⟩ := info_parts infoLimb
  refine step_append_room hg s x 91 hop 96 i0 1 Tryz.underlying91 hi hz1 g 0 n cap hs ⟨p, 0, none⟩ 1 1 [.int .u32 d] hx rfl ?_ (by simp [Value.oneCell']) (by omega) ?_ ?_
  · intro j u hj
    match j, hj with
    | 0, hj =>
      simp at hj
      subst hj
      exact hp
    | j + 1, hj => simp at hj
  · intro j hj
    have hj0 : j = 0 := by simpa using hj
    subst hj0
    rw [show (0 : Nat) + n * 1 + 0 = n from by omega]
    exact ⟨by rw [h.cell n (by omega)]; rfl, h.free n⟩
  · rw [show (0 : Nat) + n * 1 = n from by omega]
    exact hK
theorem wpIn_of_wp_wide {n : Nat} {P : Program} {o : Oper} {a : Act} {w : World} {K : Act → World → Prop} {Q : Exit → Act → World → Prop} (hnd : ∀ c, o.op ≠ .defer c)
    (h : o.wp P a w K Q) : o.wpIn Fence.wide n P a w K Q := by
  unfold Oper.wpIn
  refine ⟨fun _ _ => trivial, ?_⟩
  rw [Oper.semAt_eq _ _ _ hnd]
  unfold Oper.wp at h
  generalize (execOp a.eval o).run P w = r at *
  cases r with
  | ok x w' =>
    cases x with
    | value v => exact h
    | skip => exact h
    | defer d => exact h
    | enter f args => exact ⟨(fun h => by cases h), callsIn_wide.2 h⟩
    | row r args => exact ⟨(fun h => by cases h), fun c cs _ => let ⟨v, w', r, s⟩ := h c cs; ⟨v, w', r, stepsIn_wide.2 s⟩⟩
    | _ => exact h.elim
  | halt x w' => cases x <;> exact h
theorem wpAnyIn_of_wide {n : Nat} {P : Program} {md : Region.Mode} {ops : Array Oper} {Q : Exit → Act → World → Prop} (hnd : noDefer ops = true) (hLO : ¬ LetsOut Q) :
    ∀ (fuel : Nat) (listed : Array Bool) (a : Act) (w : World), wpAny P md ops Q fuel listed a w → wpAnyIn Fence.wide n P md ops Q fuel listed a w
  | 0, _, _, _, h => h
  | fuel + 1, _, _, _, h => ⟨h.1, fun i hi => by
    have h2 := h.2 i hi
    unfold wpOp at h2
    unfold wpOpIn
    split
    · rename_i he
      rw [he] at h2
      exact wpAnyIn_of_wide hnd hLO fuel _ _ _ h2
    · rename_i o ho
      simp only [ho] at h2
      split
      · rename_i hw
        simp only [hw, if_true] at h2
        rcases h2 with h2 | h2
        · exact wpIn_of_wp_wide (fun c => noDefer_spec hnd ho c) (Oper.wp_mono (fun a w ha => wpAnyIn_of_wide hnd hLO fuel _ a w ha) h2)
        · exact absurd h2.2 hLO
      · rename_i hw
        simp only [hw] at h2
        exact ⟨fun _ _ => trivial, wpAnyIn_of_wide hnd hLO fuel _ _ _ h2⟩⟩
/-- only the normal way out -/
def Straight (Q : Exit → Act → World → Prop) : Exit → Act → World → Prop
  | .normal, a, w => Q .normal a w
  | _, _, _ => False
theorem straight_mono {Q : Exit → Act → World → Prop} : ∀ e a w, Straight Q e a w → Q e a w := by
  intro e a w h
  cases e with
  | normal => exact h
  | _ => exact h.elim
theorem region_wide {n id : Nat} {P : Program} {ops : Array Oper} {Q : Exit → Act → World → Prop} {a : Act} {w : World} (S : World → Prop) (hm : P.follows .mixedOrders = true) (hnd : noDefer ops = true)
    (hS : S w.drew) (h : S w.drew → wpAnyH P .any ops (Straight Q) S ops.size (Array.replicate ops.size false) a w.drew) : (Code.region id ops true).wpIn Fence.wide n P Q a w :=
  Code.wpIn_mono straight_mono (wpIn_region_any hm (wpAnyIn_of_wide hnd (by rintro ⟨a', w', h⟩; exact h) _ _ _ _ (wpAny_of_held _ _ _ _ (h hS))))
set_option maxRecDepth 100000 in
set_option maxHeartbeats 4000000 in
set_option linter.unusedSimpArgs false in
theorem shl_any {u : Value} {xs : List Int} {a : Option Addr} {capa : Nat} {w : World} (n₀ : Int) (h1 : Arg w u xs a capa) (hx : xs.length ≤ 268435455) (hn1 : -9223372036854775808 ≤ n₀) (hn2 : n₀ ≤ 8589934592) :
    Calls Tryz.prog 275 #[u, .int .i64 n₀] w fun e w' => ∃ r zs, e = .returned r ∧ Res w.heap.size w' r zs (val xs * 2 ^ n₀.toNat) ∧ zs.length ≤ xs.length + n₀.toNat / 32 + 1 ∧ Below w.heap.size w w' := by
  obtain ⟨rfl, hl, hcap, hwf⟩ := h1
  obtain ⟨wh, q, e1, e2, e3, hq, _⟩ := shift_parts n₀ (by omega)
  have hwh : wh ≤ 268435456 := by omega
  have hta := trim_le xs
  have hdiv : n₀.toNat / 32 = wh := by omega
  have sp := split_any n₀ w hn1 (by omega)
  rw [e1, e2] at sp
  have hval : val xs * 2 ^ n₀.toNat = 4294967296 ^ wh * (val (trim xs) * 2 ^ q) := by rw [e3, Int.pow_add, ← pow_limb, val_trim]; exact Int.mul_left_comm _ _ _
  rw [hval, hdiv]
  have htr := trim_full xs
  have htl := trim_length xs
  have hwt := hwf.trim
  have hlt : Lim w a (trim xs) := hl.take _
  generalize trim xs = ys at *
  have hta2 : ys.length ≤ xs.length := by omega
  have HM := Lib.hid htl
  have hcapy : ys.length ≤ capa := by omega
  clear hval hdiv e1 e2 e3 htl hta
  obtain ⟨n, hn⟩ : ∃ n : Nat, Hid (3 ≤ n) := ⟨3, Nat.le_refl 3⟩
  refine (callsIn_wide (n := n)).1 ?_
  refine callsIn_of_wp_marks Tryz.func275 rfl trivial ?_ rfl
  simp only [Tryz.ntmps275, List.size_toArray, List.length_cons, List.length_nil, Nat.reduceAdd, Nat.reduceSub, Array.replicate_succ, Array.replicate_zero, List.push_toArray, List.append_toArray, List.nil_append, List.cons_append]
  gi_wp2_with fail
  refine wideCall (sp.mono ?_)
  rintro e w' ⟨rfl, rfl⟩
  clear sp
  have bB0 := Boxed.new w 3 (.int .i64 (0 : Int))
  have bC0 := bB0.cell
  have bF0 := bB0.frozen
  gi_wp2_with fail
  clear bB0 bC0 bF0
  have bQ := Boxed.new w 3 (.int .i64 (q : Int))
  have hV : Below w.heap.size w (w.alloc (Obj.cells #[Value.int IntKind.i64 (q : Int)] 3)) := (Below.refl _ w).alloc (Nat.le_refl _) _
  have hsV : (w.alloc (Obj.cells #[Value.int IntKind.i64 (q : Int)] 3)).heap.size = w.heap.size + 1 := by simp
  generalize w.alloc (Obj.cells #[Value.int IntKind.i64 (q : Int)] 3) = V at *
  have hlV := hl.later hV
  have hltV := hlt.later hV
  refine wideCall ((cut_any a xs capa _ hlV (by unfold maxLen; omega) hcap).mono ?_)
  rintro e w' ⟨rfl, rfl⟩
  rw [← HM.out]
  by_cases hz : ys.length = 0
  · have he := List.eq_nil_of_length_eq_zero hz
    subst he
    gi_wp2_with fail
    refine ⟨_, results_tmp rfl _ _ _, .slice none 0 0, [], rfl, ⟨World.ownsRow_nil _ _ _ _, Wf.nil, rfl, by simp [val]⟩, by simp, hV⟩
  · have hmz : ((ys.length : Int) == 0) = false := by simp; intro h; subst h; exact hz rfl
    have hbig : decide (536870911 - (ys.length : Int) < (wh : Int)) = false := decide_eq_false (by omega)
    obtain ⟨cp, hcp⟩ : ∃ cp, wh + ys.length + 1 = cp := ⟨_, rfl⟩
    have hcpi : (wh : Int) + (ys.length : Int) + 1 = (cp : Int) := by omega
    have hmk := make_runN wh cp (by omega) (by omega)
    gi_wp2_with fail
    refine wideCall ((carrier_any _ _).mono ?_)
    rintro e w' ⟨rfl, rfl⟩
    have k1 := (((Blk.made V cp).alloc (Obj.cells #[Value.slice (some ⟨w.heap.size + 1, 0, none⟩) wh cp] 91)).alloc (Obj.cells #[Value.int .u64 0] 239))
    have k2 := (Boxed.new (V.alloc (Obj.cells (madeCells #[Value.int .u32 0] cp) 96)) 91 (Value.slice (some ⟨w.heap.size + 1, 0, none⟩) wh cp)).alloc (Obj.cells #[Value.int .u64 0] 239)
    have k3 := Boxed.new ((V.alloc (Obj.cells (madeCells #[Value.int .u32 0] cp) 96)).alloc (Obj.cells #[Value.slice (some ⟨w.heap.size + 1, 0, none⟩) wh cp] 91)) 239 (.int .u64 0)
    have k4 : Below V.heap.size V (((V.alloc (Obj.cells (madeCells #[Value.int .u32 0] cp) 96)).alloc (Obj.cells #[Value.slice (some ⟨w.heap.size + 1, 0, none⟩) wh cp] 91)).alloc (Obj.cells #[Value.int .u64 0] 239)) := (((Below.refl _ V).alloc (Nat.le_refl _) _).alloc (by simp) _).alloc (by simp; omega) _
    have k5 : (((V.alloc (Obj.cells (madeCells #[Value.int .u32 0] cp) 96)).alloc (Obj.cells #[Value.slice (some ⟨w.heap.size + 1, 0, none⟩) wh cp] 91)).alloc (Obj.cells #[Value.int .u64 0] 239)).heap.size = w.heap.size + 1 + 1 + 1 + 1 := by simp [hsV]
    simp only [World.size_alloc, hsV] at k1 k2 k3 k4
    simp only [World.size_alloc, hsV]
    generalize (((V.alloc (Obj.cells (madeCells #[Value.int .u32 0] cp) 96)).alloc (Obj.cells #[Value.slice (some ⟨w.heap.size + 1, 0, none⟩) wh cp] 91)).alloc (Obj.cells #[Value.int .u64 0] 239)) = W3 at *
    have k6 := Boxed.new W3 307 .nilFunc
    rw [k5] at k6
    have k6c := k6.cell
    have k6f := k6.frozen
    have K5 := Lib.hid k5
    have k5' := k5
    clear k5
    gi_wp2_with fail
    refine wideCall ((limbs_any a ys.length capa _).mono ?_)
    rintro e w' ⟨rfl, rfl⟩
    gi_wp2_with fail
    have j1 := (k1.alloc (Obj.cells #[Value.func (.func 291) #[] #[.pointer (some ⟨w.heap.size + 1 + 1 + 1, 0, none⟩)]] 307)).alloc (Obj.cells #[Value.slice a ys.length capa] 91)
    have j2 := (k2.alloc (Obj.cells #[Value.func (.func 291) #[] #[.pointer (some ⟨w.heap.size + 1 + 1 + 1, 0, none⟩)]] 307)).alloc (Obj.cells #[Value.slice a ys.length capa] 91)
    have j3 := (k3.alloc (Obj.cells #[Value.func (.func 291) #[] #[.pointer (some ⟨w.heap.size + 1 + 1 + 1, 0, none⟩)]] 307)).alloc (Obj.cells #[Value.slice a ys.length capa] 91)
    have j4 := (Boxed.new W3 307 (Value.func (.func 291) #[] #[.pointer (some ⟨w.heap.size + 1 + 1 + 1, 0, none⟩)])).alloc (Obj.cells #[Value.slice a ys.length capa] 91)
    have j5 := Boxed.new (W3.alloc (Obj.cells #[Value.func (.func 291) #[] #[.pointer (some ⟨w.heap.size + 1 + 1 + 1, 0, none⟩)]] 307)) 91 (Value.slice a ys.length capa)
    have j6 : Below (w.heap.size + 1) V ((W3.alloc (Obj.cells #[Value.func (.func 291) #[] #[.pointer (some ⟨w.heap.size + 1 + 1 + 1, 0, none⟩)]] 307)).alloc (Obj.cells #[Value.slice a ys.length capa] 91)) := (k4.alloc (by omega) _).alloc (by simp; omega) _
    have j7 : ((W3.alloc (Obj.cells #[Value.func (.func 291) #[] #[.pointer (some ⟨w.heap.size + 1 + 1 + 1, 0, none⟩)]] 307)).alloc (Obj.cells #[Value.slice a ys.length capa] 91)).heap.size = w.heap.size + 6 := by simp; omega
    rw [k5'] at j4
    rw [World.size_alloc, k5'] at j5
    generalize ((W3.alloc (Obj.cells #[Value.func (.func 291) #[] #[.pointer (some ⟨w.heap.size + 1 + 1 + 1, 0, none⟩)]] 307)).alloc (Obj.cells #[Value.slice a ys.length capa] 91)) = W5 at *
    clear k1 k2 k3 k4 k6 k6c k6f K5 k5' hmk
    have h3 : 3 ≤ n := hn
    refine wpIn_rangeFunc_ownF rfl (by omega) (gf := 290) (lb := #[.pointer (some ⟨w.heap.size + 1 + 1 + 1 + 1 + 1, 0, none⟩)]) rfl trivial (enters_of Tryz.func290 (by kernel_rfl) rfl)
      (limbs_stops (n - 1) (w.heap.size + 1 + 1 + 1 + 1 + 1) (w.heap.size + 1) a ys capa (by omega) hcapy (fun hne p hp => by have := hlt.lt hne p hp; omega) _ (by omega) j5.cell (hltV.later (hsV ▸ j6))) belowK_t (belowK_b (by omega)) (Below.refl _ _) (fun _ => rfl)
      (fun (pre : List (Fin (trimN ys ys.length))) X => (((((Blk X (w.heap.size + 1) (List.replicate wh 0 ++ (shlOf q ys (pre.map Fin.val)).1 ++ List.replicate (cp - (wh + pre.length)) 0) ∧ Boxed X (w.heap.size + 1 + 1) 91 (.slice (some ⟨w.heap.size + 1, 0, none⟩) (wh + pre.length) cp)) ∧ Boxed X (w.heap.size + 1 + 1 + 1) 239 (.int .u64 (shlOf q ys (pre.map Fin.val)).2)) ∧
        Boxed X (w.heap.size + 1 + 1 + 1 + 1) 307 (Value.func (.func 291) #[] #[.pointer (some ⟨w.heap.size + 1 + 1 + 1, 0, none⟩)])) ∧ Below (w.heap.size + 1) V X)))
      (fun _ _ _ => False)
      (OwnFrom.and (Own.from (Own.and2 (Own.and2 (Own.and2 (blk_own _ _) (boxed_own _ _ _)) (boxed_own _ _ _)) (boxed_own _ _ _)) _) (ownFrom_below (by omega) (by omega)))
      (fun _ _ _ _ _ hs _ _ => hs)
      ⟨⟨⟨⟨by simpa [shlOf, ← hcp, List.replicate_append_replicate, Nat.add_assoc] using j1, by simpa using j2⟩, j3⟩, j4⟩, j6⟩
      (fun (y : Fin (trimN ys ys.length)) => { tmps := #[.slice a ys.length capa, .int .i64 n₀, undef, undef, .slice none 0 0, .int .i64 (wh : Int), .pointer (some ⟨w.heap.size, 0, none⟩), .pointer (some ⟨w.heap.size + 1 + 1, 0, none⟩), .pointer (some ⟨w.heap.size + 1 + 1 + 1 + 1, 0, none⟩), undef, .int .u32 (ys[y.val]?.getD 0), .tuple #[.int .i64 (wh : Int), .int .i64 (q : Int)], .int .i64 n₀, .tuple #[.int .i64 (wh : Int), .int .i64 (q : Int)], .int .i64 (wh : Int), .int .i64 (q : Int), .slice a xs.length capa, .slice a ys.length capa, .slice a ys.length capa, .int .i64 (ys.length : Int), .bool false, .bool false, .int .i64 (wh : Int), .slice a ys.length capa, .int .i64 (ys.length : Int), .int .i64 (536870911 - (ys.length : Int)), .bool false, .bool false, .int .i64 (wh : Int), .int .i64 (wh : Int), .slice a ys.length capa, .int .i64 (ys.length : Int), .int .i64 ((wh : Int) + (ys.length : Int)), .int .i64 (cp : Int), .slice (some ⟨w.heap.size + 1, 0, none⟩) wh cp, (Value.func (.func 291) #[] #[.pointer (some ⟨w.heap.size + 1 + 1 + 1, 0, none⟩)]), .slice a ys.length capa, .func (.func 290) #[] #[.pointer (some ⟨w.heap.size + 1 + 1 + 1 + 1 + 1, 0, none⟩)], .int .i64 (y.val : Int), .int .u32 (ys[y.val]?.getD 0), undef, undef, undef, undef, undef, undef, undef, undef, undef, undef, undef, undef, undef, undef, undef, undef], defers := [] }) ?assign ?body ?done ?stop
    case assign =>
      intro l y X K hK
      simp only [limbAt]
      gi_wp2
      exact hK
    case body =>
      rintro l pre ⟨k, hk⟩ X ⟨⟨⟨⟨hblk, q1⟩, q2⟩, q3⟩, hB⟩ hlen
      have hkm : k < ys.length := by omega
      obtain ⟨ok1, okw, ok2, ok3⟩ := shlOf_ok q ys hwt hq (pre.map Fin.val)
      obtain ⟨st, hst⟩ : ∃ st, shlOf q ys (pre.map Fin.val) = st := ⟨_, rfl⟩
      rw [hst] at hblk q2 ok1 okw ok2 ok3
      obtain ⟨zs, c⟩ := st
      obtain ⟨ln, hln⟩ : ∃ ln, pre.length = ln := ⟨_, rfl⟩
      rw [hln] at hblk q1
      have hlnm : ln < ys.length := by omega
      obtain ⟨x, hxk⟩ : ∃ x, ys.getD k 0 = x := ⟨_, rfl⟩
      have bx : 0 ≤ x ∧ x < 4294967296 := hxk ▸ hwt.getD k
      have hp := shl_part bx hq
      obtain ⟨y, hy⟩ : ∃ y, x * 2 ^ q = y := ⟨_, rfl⟩
      rw [hy] at hp
      obtain ⟨p0, p1, p2⟩ := hp
      obtain ⟨bx0, bx1⟩ := bx
      have hyb : y < 18446744069414584320 := by omega
      have hxk2 : ys[k]?.getD 0 = x := hxk
      simp only [hxk2]
      simp only [List.length_map] at ok1
      simp only at hblk q2 ok1 okw ok2 ok3
      have zl : zs.length = ln := by omega
      have hwr : IntKind.u64.wrap (IntKind.u64.wrap x * 2 ^ q) = y := by rw [wrap_u64 bx0 (by omega), hy, wrap_u64 p0 (by omega)]
      have HWR := Lib.hid hwr
      have hset := hblk.set (wh + ln) ((c + y) % 4294967296)
      have eset : (List.replicate wh 0 ++ zs ++ List.replicate (cp - (wh + ln)) 0).set (wh + ln) ((c + y) % 4294967296) = List.replicate wh 0 ++ (zs ++ [(c + y) % 4294967296]) ++ List.replicate (cp - (wh + (ln + 1))) 0 := by
        rw [set_mid _ _ _ _ (by simp [zl]) (by omega), List.append_assoc (List.replicate wh 0) zs]; rfl
      obtain ⟨zz, hzz⟩ : ∃ zz, List.replicate wh 0 ++ zs ++ List.replicate (cp - (wh + ln)) 0 = zz := ⟨_, rfl⟩
      have hzl : zz.length = cp := by rw [← hzz]; simp [zl]; omega
      rw [hzz] at hblk eset
      have c1 := q1.cell
      have c3 := q3.cell
      have bX : Boxed X w.heap.size 3 (.int .i64 (q : Int)) := (hB.block w.heap.size (by omega)).trans bQ
      have c0 := bX.cell
      have hsX := hB.size
      have es : shlOf q ys ((pre ++ [(⟨k, hk⟩ : Fin (trimN ys ys.length))]).map Fin.val) = (zs ++ [(c + y) % 4294967296], (c + y) / 4294967296) := by
        rw [List.map_append, List.map_cons, List.map_nil, shlOf_snoc, hst]
        simp only [shlStep, hxk, hy]
      have fin : ∀ w2 : World, X.drew.grownBy w2 (some (w.heap.size + 1 + 1 + 1)) → w2.heap[w.heap.size + 1 + 1 + 1]? = some (.cells #[.int .u64 ((c + y) / 4294967296)] 239 (0, 0)) →
          KeepsOthers X (((w2.alloc (Obj.cells #[Value.int .u32 ((c + y) % 4294967296)] 96)).setCell ⟨w.heap.size + 1, wh + ln, none⟩ (.int .u32 ((c + y) % 4294967296))).setCell ⟨w.heap.size + 1 + 1, 0, none⟩ (.slice (some ⟨w.heap.size + 1, 0, none⟩) (wh + ln + 1) cp)) ∧ Below (w.heap.size + 1) X (((w2.alloc (Obj.cells #[Value.int .u32 ((c + y) % 4294967296)] 96)).setCell ⟨w.heap.size + 1, wh + ln, none⟩ (.int .u32 ((c + y) % 4294967296))).setCell ⟨w.heap.size + 1 + 1, 0, none⟩ (.slice (some ⟨w.heap.size + 1, 0, none⟩) (wh + ln + 1) cp)) ∧
          ((((Blk (((w2.alloc (Obj.cells #[Value.int .u32 ((c + y) % 4294967296)] 96)).setCell ⟨w.heap.size + 1, wh + ln, none⟩ (.int .u32 ((c + y) % 4294967296))).setCell ⟨w.heap.size + 1 + 1, 0, none⟩ (.slice (some ⟨w.heap.size + 1, 0, none⟩) (wh + ln + 1) cp)) (w.heap.size + 1) (List.replicate wh 0 ++ (shlOf q ys ((pre ++ [(⟨k, hk⟩ : Fin (trimN ys ys.length))]).map Fin.val)).1 ++ List.replicate (cp - (wh + (pre ++ [(⟨k, hk⟩ : Fin (trimN ys ys.length))]).length)) 0) ∧
            Boxed (((w2.alloc (Obj.cells #[Value.int .u32 ((c + y) % 4294967296)] 96)).setCell ⟨w.heap.size + 1, wh + ln, none⟩ (.int .u32 ((c + y) % 4294967296))).setCell ⟨w.heap.size + 1 + 1, 0, none⟩ (.slice (some ⟨w.heap.size + 1, 0, none⟩) (wh + ln + 1) cp)) (w.heap.size + 1 + 1) 91 (.slice (some ⟨w.heap.size + 1, 0, none⟩) (wh + (pre ++ [(⟨k, hk⟩ : Fin (trimN ys ys.length))]).length) cp)) ∧
            Boxed (((w2.alloc (Obj.cells #[Value.int .u32 ((c + y) % 4294967296)] 96)).setCell ⟨w.heap.size + 1, wh + ln, none⟩ (.int .u32 ((c + y) % 4294967296))).setCell ⟨w.heap.size + 1 + 1, 0, none⟩ (.slice (some ⟨w.heap.size + 1, 0, none⟩) (wh + ln + 1) cp)) (w.heap.size + 1 + 1 + 1) 239 (.int .u64 (shlOf q ys ((pre ++ [(⟨k, hk⟩ : Fin (trimN ys ys.length))]).map Fin.val)).2)) ∧
            Boxed (((w2.alloc (Obj.cells #[Value.int .u32 ((c + y) % 4294967296)] 96)).setCell ⟨w.heap.size + 1, wh + ln, none⟩ (.int .u32 ((c + y) % 4294967296))).setCell ⟨w.heap.size + 1 + 1, 0, none⟩ (.slice (some ⟨w.heap.size + 1, 0, none⟩) (wh + ln + 1) cp)) (w.heap.size + 1 + 1 + 1 + 1) 307 (Value.func (.func 291) #[] #[.pointer (some ⟨w.heap.size + 1 + 1 + 1, 0, none⟩)])) ∧ Below (w.heap.size + 1) V (((w2.alloc (Obj.cells #[Value.int .u32 ((c + y) % 4294967296)] 96)).setCell ⟨w.heap.size + 1, wh + ln, none⟩ (.int .u32 ((c + y) % 4294967296))).setCell ⟨w.heap.size + 1 + 1, 0, none⟩ (.slice (some ⟨w.heap.size + 1, 0, none⟩) (wh + ln + 1) cp))) := fun w2 hgr hcar => by
        have hko : KeepsOthers X w2 := (KeepsOthers.drew X).trans (KeepsOthers.of_grownBy hgr (fun j o ej hj => by cases ej; rw [show X.drew.heap[w.heap.size + 1 + 1 + 1]? = _ from q2] at hj; cases hj; rfl))
        have hbo : Below (w.heap.size + 1) X w2 := (Below.refl _ X).drew.grown hgr (by have := hgr.size; show w.heap.size + 1 ≤ X.heap.size; omega) (fun j ej => by cases ej; omega)
        have hsz2 : X.heap.size ≤ w2.heap.size := hgr.size
        have hbo5 : Below (w.heap.size + 1) X (((w2.alloc (Obj.cells #[Value.int .u32 ((c + y) % 4294967296)] 96)).setCell ⟨w.heap.size + 1, wh + ln, none⟩ (.int .u32 ((c + y) % 4294967296))).setCell ⟨w.heap.size + 1 + 1, 0, none⟩ (.slice (some ⟨w.heap.size + 1, 0, none⟩) (wh + ln + 1) cp)) := ((hbo.alloc (by omega) _).setCell (p := ⟨w.heap.size + 1, wh + ln, none⟩) (Nat.le_refl _) _).setCell (p := ⟨w.heap.size + 1 + 1, 0, none⟩) (by simp <;> omega) _
        refine ⟨((hko.trans (KeepsOthers.alloc _ _)).trans (KeepsOthers.setCell _ _ _)).trans (KeepsOthers.setCell _ _ _), hbo5, ?_⟩
        have hb3 : Blk (w2.alloc (Obj.cells #[Value.int .u32 ((c + y) % 4294967296)] 96)) (w.heap.size + 1) zz := (Blk.grown (w := X.drew) hblk hgr (by simp <;> omega)).alloc _
        have hb4 := hb3.set (wh + ln) ((c + y) % 4294967296)
        rw [eset] at hb4
        have b7 : Boxed ((w2.alloc (Obj.cells #[Value.int .u32 ((c + y) % 4294967296)] 96)).setCell ⟨w.heap.size + 1, wh + ln, none⟩ (.int .u32 ((c + y) % 4294967296))) (w.heap.size + 1 + 1) 91 (.slice (some ⟨w.heap.size + 1, 0, none⟩) (wh + ln) cp) := Boxed.far ((Boxed.kept (W := X.drew) q1 hgr (by simp <;> omega)).alloc _) (by simp <;> omega) _
        rw [es]
        have el : (pre ++ [(⟨k, hk⟩ : Fin (trimN ys ys.length))]).length = ln + 1 := by simp [hln]
        rw [el]
        refine ⟨⟨⟨⟨?_, Boxed.set _ b7⟩, ?_⟩, ?_⟩, hB.trans hbo5⟩
        · exact (Below.heap_setCell _ _ _ _ (by simp <;> omega)).trans hb4
        · exact Boxed.far (Boxed.far (Boxed.alloc hcar _) (by simp <;> omega) _) (by simp <;> omega) _
        · exact Boxed.far (Boxed.far (Boxed.alloc (Boxed.kept (W := X.drew) q3 hgr (by simp <;> omega)) _) (by simp <;> omega) _) (by simp <;> omega) _
      have FIN := Lib.hid fin
      have HX := Lib.hid hxk
      have HY := Lib.hid hy
      have HS := Lib.hid hst
      clear fin hxk hxk2 hy hst hset eset hzz es hwr
      refine wpIn_block ?_
      refine region_round (fun X' => X'.cell? ⟨w.heap.size + 1 + 1 + 1 + 1, 0, none⟩ = some (Value.func (.func 291) #[] #[.pointer (some ⟨w.heap.size + 1 + 1 + 1, 0, none⟩)]) ∧ X'.cell? ⟨w.heap.size, 0, none⟩ = some (.int .i64 (q : Int)))
        (by kernel_rfl) (by kernel_rfl) (by rintro ⟨a', w', h⟩; exact h) ⟨c3, c0⟩ (fun hHeld => ?_)
      refine todo [1, 2, 3, 4, 5] ?_
      iterate 5
       refine todoH (v := ?_) rfl (by kernel_rfl) (fun _ _ _ h => h) (by assumption) (Or.inl ⟨by rfl, ?_⟩) ?_
       rotate_left
       · intro w hSw; (try dsimp only at hSw); go_simp; (try with_reducible rfl)
       try simp only [Act.put, List.getElem_toArray, List.getElem_cons_succ, List.getElem_cons_zero, List.setIfInBounds_toArray, List.set_cons_zero, List.set_cons_succ]
      refine todone ?_
      rw [HWR.out]
      refine wpAnyH_ready (rs := [0, 6]) (by kernel_rfl) (by simp) ?_
      refine AllReadyH.cons rfl (fun K hK => ?x1) (AllReadyH.cons rfl (fun K hK => ?y1) AllReadyH.nil)
      case x1 =>
        go_simp
        refine hK.out _ _ ?kc2 (fun hHeld => ?mc2)
        case kc2 =>
          try dsimp only
          exact hHeld
        clear hK K
        try simp only [Act.put, List.setIfInBounds_toArray, List.set_cons_zero, List.set_cons_succ]
        refine wpAnyH_ready (rs := [6]) (by kernel_rfl) (by simp) ?_
        refine AllReadyH.cons rfl (fun K hK => ?s2) AllReadyH.nil
        go_simp
        refine hK.out _ _ ?kc3 (fun hHeld => ?mc3)
        case kc3 =>
          try dsimp only
          simp [*, World.cell?_alloc_some]
        clear hK K
        try simp only [Act.put, List.setIfInBounds_toArray, List.set_cons_zero, List.set_cons_succ]
        refine wpAnyH_ready (rs := [7]) (by kernel_rfl) (by simp) ?_
        refine AllReadyH.cons rfl (fun K hK => ?s3) AllReadyH.nil
        go_simp
        refine (carry1 c y (w.heap.size + 1 + 1 + 1) X.drew ok2 p0 (by omega) q2).mono ?_
        rintro e w2 ⟨rfl, hcar2, hgr⟩
        go_simp
        refine hK.out _ _ ?kc4 (fun hHeld => ?mc4)
        case kc4 =>
          try dsimp only
          exact ⟨hgr.cell c3 (by simp <;> omega), hgr.cell c0 (by simp <;> omega)⟩
        clear hK K
        try simp only [Act.put, List.setIfInBounds_toArray, List.set_cons_zero, List.set_cons_succ]
        refine wpAnyH_ready (rs := [8]) (by kernel_rfl) (by simp) ?_
        refine AllReadyH.cons rfl (fun K hK => ?s4) AllReadyH.nil
        go_simp
        refine hK.out _ _ ?kc5 (fun hHeld => ?mc5)
        case kc5 =>
          try dsimp only
          simp [*, World.cell?_alloc_some]
        clear hK K
        try simp only [Act.put, List.setIfInBounds_toArray, List.set_cons_zero, List.set_cons_succ]
        refine wpAnyH_ready (rs := [9]) (by kernel_rfl) (by simp) ?_
        refine AllReadyH.cons rfl (fun K hK => ?s5) AllReadyH.nil
        have hblk3 : Blk (w2.alloc (Obj.cells #[Value.int .u32 ((c + y) % 4294967296)] 96)) (w.heap.size + 1) zz := (Blk.grown (w := X.drew) hblk hgr (by simp <;> omega)).alloc _
        refine step_append_limb rfl (.tmp 40) (.tmp 48) rfl (w.heap.size + 1) (wh + ln) cp w2.heap.size zz ((c + y) % 4294967296) hblk3 hzl (by omega) rfl rfl (Boxed.new w2 96 (.int .u32 ((c + y) % 4294967296))).cell ?_
        refine hK.out _ _ ?kc6 (fun hHeld => ?mc6)
        case kc6 =>
          try dsimp only
          exact ⟨(World.cell?_setCell_far _ _ _ _ (by simp <;> omega)).trans hHeld.1, (World.cell?_setCell_far _ _ _ _ (by simp <;> omega)).trans hHeld.2⟩
        clear hK K
        try simp only [Act.put, List.setIfInBounds_toArray, List.set_cons_zero, List.set_cons_succ]
        refine wpAnyH_ready (rs := [10]) (by kernel_rfl) (by simp) ?_
        refine AllReadyH.cons rfl (fun K hK => ?s6) AllReadyH.nil
        have b7 : Boxed ((w2.alloc (Obj.cells #[Value.int .u32 ((c + y) % 4294967296)] 96)).setCell ⟨w.heap.size + 1, wh + ln, none⟩ (.int .u32 ((c + y) % 4294967296))) (w.heap.size + 1 + 1) 91 (Value.slice (some ⟨w.heap.size + 1, 0, none⟩) (wh + ln) cp) := Boxed.far ((Boxed.kept (W := X.drew) q1 hgr (by simp <;> omega)).alloc _) (by simp <;> omega) _
        have b7c := b7.cell
        have b7f := b7.frozen
        go_simp
        refine hK.out _ _ ?kc7 (fun hHeld => ?mc7)
        case kc7 =>
          try dsimp only
          exact ⟨(World.cell?_setCell_far _ _ _ _ (by simp <;> omega)).trans hHeld.1, (World.cell?_setCell_far _ _ _ _ (by simp <;> omega)).trans hHeld.2⟩
        clear hK K
        try simp only [Act.put, List.setIfInBounds_toArray, List.set_cons_zero, List.set_cons_succ]
        refine wpAnyH_done (by kernel_rfl) ?_ _
        exact FIN.out w2 hgr hcar2
      case y1 =>
        go_simp
        refine hK.out _ _ ?kc8 (fun hHeld => ?mc8)
        case kc8 =>
          try dsimp only
          simp [*, World.cell?_alloc_some]
        clear hK K
        try simp only [Act.put, List.setIfInBounds_toArray, List.set_cons_zero, List.set_cons_succ]
        refine wpAnyH_ready (rs := [0, 7]) (by kernel_rfl) (by simp) ?_
        refine AllReadyH.cons rfl (fun K hK => ?x9) (AllReadyH.cons rfl (fun K hK => ?y9) AllReadyH.nil)
        case x9 =>
          have c1a : (X.alloc (Obj.cells #[Value.int .u64 y] 239)).drew.cell? ⟨w.heap.size + 1 + 1, 0, none⟩ = some (Value.slice (some ⟨w.heap.size + 1, 0, none⟩) (wh + ln) cp) := (Boxed.alloc q1 _).cell
          go_simp
          refine hK.out _ _ ?kc10 (fun hHeld => ?mc10)
          case kc10 =>
            try dsimp only
            exact hHeld
          clear hK K
          try simp only [Act.put, List.setIfInBounds_toArray, List.set_cons_zero, List.set_cons_succ]
          refine wpAnyH_ready (rs := [7]) (by kernel_rfl) (by simp) ?_
          refine AllReadyH.cons rfl (fun K hK => ?s10) AllReadyH.nil
          go_simp
          refine (carry1 c y (w.heap.size + 1 + 1 + 1) X.drew ok2 p0 (by omega) q2).mono ?_
          rintro e w2 ⟨rfl, hcar2, hgr⟩
          go_simp
          refine hK.out _ _ ?kc11 (fun hHeld => ?mc11)
          case kc11 =>
            try dsimp only
            exact ⟨hgr.cell c3 (by simp <;> omega), hgr.cell c0 (by simp <;> omega)⟩
          clear hK K
          try simp only [Act.put, List.setIfInBounds_toArray, List.set_cons_zero, List.set_cons_succ]
          refine wpAnyH_ready (rs := [8]) (by kernel_rfl) (by simp) ?_
          refine AllReadyH.cons rfl (fun K hK => ?s11) AllReadyH.nil
          go_simp
          refine hK.out _ _ ?kc12 (fun hHeld => ?mc12)
          case kc12 =>
            try dsimp only
            simp [*, World.cell?_alloc_some]
          clear hK K
          try simp only [Act.put, List.setIfInBounds_toArray, List.set_cons_zero, List.set_cons_succ]
          refine wpAnyH_ready (rs := [9]) (by kernel_rfl) (by simp) ?_
          refine AllReadyH.cons rfl (fun K hK => ?s12) AllReadyH.nil
          have hblk3 : Blk (w2.alloc (Obj.cells #[Value.int .u32 ((c + y) % 4294967296)] 96)) (w.heap.size + 1) zz := (Blk.grown (w := X.drew) hblk hgr (by simp <;> omega)).alloc _
          refine step_append_limb rfl (.tmp 40) (.tmp 48) rfl (w.heap.size + 1) (wh + ln) cp w2.heap.size zz ((c + y) % 4294967296) hblk3 hzl (by omega) rfl rfl (Boxed.new w2 96 (.int .u32 ((c + y) % 4294967296))).cell ?_
          refine hK.out _ _ ?kc13 (fun hHeld => ?mc13)
          case kc13 =>
            try dsimp only
            exact ⟨(World.cell?_setCell_far _ _ _ _ (by simp <;> omega)).trans hHeld.1, (World.cell?_setCell_far _ _ _ _ (by simp <;> omega)).trans hHeld.2⟩
          clear hK K
          try simp only [Act.put, List.setIfInBounds_toArray, List.set_cons_zero, List.set_cons_succ]
          refine wpAnyH_ready (rs := [10]) (by kernel_rfl) (by simp) ?_
          refine AllReadyH.cons rfl (fun K hK => ?s13) AllReadyH.nil
          have b7 : Boxed ((w2.alloc (Obj.cells #[Value.int .u32 ((c + y) % 4294967296)] 96)).setCell ⟨w.heap.size + 1, wh + ln, none⟩ (.int .u32 ((c + y) % 4294967296))) (w.heap.size + 1 + 1) 91 (Value.slice (some ⟨w.heap.size + 1, 0, none⟩) (wh + ln) cp) := Boxed.far ((Boxed.kept (W := X.drew) q1 hgr (by simp <;> omega)).alloc _) (by simp <;> omega) _
          have b7c := b7.cell
          have b7f := b7.frozen
          go_simp
          refine hK.out _ _ ?kc14 (fun hHeld => ?mc14)
          case kc14 =>
            try dsimp only
            exact ⟨(World.cell?_setCell_far _ _ _ _ (by simp <;> omega)).trans hHeld.1, (World.cell?_setCell_far _ _ _ _ (by simp <;> omega)).trans hHeld.2⟩
          clear hK K
          try simp only [Act.put, List.setIfInBounds_toArray, List.set_cons_zero, List.set_cons_succ]
          refine wpAnyH_done (by kernel_rfl) ?_ _
          exact FIN.out w2 hgr hcar2
        case y9 =>
          go_simp
          refine (carry1 c y (w.heap.size + 1 + 1 + 1) X.drew ok2 p0 (by omega) q2).mono ?_
          rintro e w2 ⟨rfl, hcar2, hgr⟩
          go_simp
          refine hK.out _ _ ?kc15 (fun hHeld => ?mc15)
          case kc15 =>
            try dsimp only
            exact ⟨hgr.cell c3 (by simp <;> omega), hgr.cell c0 (by simp <;> omega)⟩
          clear hK K
          try simp only [Act.put, List.setIfInBounds_toArray, List.set_cons_zero, List.set_cons_succ]
          refine wpAnyH_ready (rs := [0, 8]) (by kernel_rfl) (by simp) ?_
          refine AllReadyH.cons rfl (fun K hK => ?x16) (AllReadyH.cons rfl (fun K hK => ?y16) AllReadyH.nil)
          case x16 =>
            have c1a := hgr.cell c1 (by simp <;> omega)
            go_simp
            refine hK.out _ _ ?kc17 (fun hHeld => ?mc17)
            case kc17 =>
              try dsimp only
              exact hHeld
            clear hK K
            try simp only [Act.put, List.setIfInBounds_toArray, List.set_cons_zero, List.set_cons_succ]
            refine wpAnyH_ready (rs := [8]) (by kernel_rfl) (by simp) ?_
            refine AllReadyH.cons rfl (fun K hK => ?s17) AllReadyH.nil
            go_simp
            refine hK.out _ _ ?kc18 (fun hHeld => ?mc18)
            case kc18 =>
              try dsimp only
              simp [*, World.cell?_alloc_some]
            clear hK K
            try simp only [Act.put, List.setIfInBounds_toArray, List.set_cons_zero, List.set_cons_succ]
            refine wpAnyH_ready (rs := [9]) (by kernel_rfl) (by simp) ?_
            refine AllReadyH.cons rfl (fun K hK => ?s18) AllReadyH.nil
            have hblk3 : Blk (w2.alloc (Obj.cells #[Value.int .u32 ((c + y) % 4294967296)] 96)) (w.heap.size + 1) zz := (Blk.grown (w := X.drew) hblk hgr (by simp <;> omega)).alloc _
            refine step_append_limb rfl (.tmp 40) (.tmp 48) rfl (w.heap.size + 1) (wh + ln) cp w2.heap.size zz ((c + y) % 4294967296) hblk3 hzl (by omega) rfl rfl (Boxed.new w2 96 (.int .u32 ((c + y) % 4294967296))).cell ?_
            refine hK.out _ _ ?kc19 (fun hHeld => ?mc19)
            case kc19 =>
              try dsimp only
              exact ⟨(World.cell?_setCell_far _ _ _ _ (by simp <;> omega)).trans hHeld.1, (World.cell?_setCell_far _ _ _ _ (by simp <;> omega)).trans hHeld.2⟩
            clear hK K
            try simp only [Act.put, List.setIfInBounds_toArray, List.set_cons_zero, List.set_cons_succ]
            refine wpAnyH_ready (rs := [10]) (by kernel_rfl) (by simp) ?_
            refine AllReadyH.cons rfl (fun K hK => ?s19) AllReadyH.nil
            have b7 : Boxed ((w2.alloc (Obj.cells #[Value.int .u32 ((c + y) % 4294967296)] 96)).setCell ⟨w.heap.size + 1, wh + ln, none⟩ (.int .u32 ((c + y) % 4294967296))) (w.heap.size + 1 + 1) 91 (Value.slice (some ⟨w.heap.size + 1, 0, none⟩) (wh + ln) cp) := Boxed.far ((Boxed.kept (W := X.drew) q1 hgr (by simp <;> omega)).alloc _) (by simp <;> omega) _
            have b7c := b7.cell
            have b7f := b7.frozen
            go_simp
            refine hK.out _ _ ?kc20 (fun hHeld => ?mc20)
            case kc20 =>
              try dsimp only
              exact ⟨(World.cell?_setCell_far _ _ _ _ (by simp <;> omega)).trans hHeld.1, (World.cell?_setCell_far _ _ _ _ (by simp <;> omega)).trans hHeld.2⟩
            clear hK K
            try simp only [Act.put, List.setIfInBounds_toArray, List.set_cons_zero, List.set_cons_succ]
            refine wpAnyH_done (by kernel_rfl) ?_ _
            exact FIN.out w2 hgr hcar2
          case y16 =>
            go_simp
            refine hK.out _ _ ?kc21 (fun hHeld => ?mc21)
            case kc21 =>
              try dsimp only
              simp [*, World.cell?_alloc_some]
            clear hK K
            try simp only [Act.put, List.setIfInBounds_toArray, List.set_cons_zero, List.set_cons_succ]
            refine wpAnyH_ready (rs := [0]) (by kernel_rfl) (by simp) ?_
            refine AllReadyH.cons rfl (fun K hK => ?s21) AllReadyH.nil
            have c1a : (w2.alloc (Obj.cells #[Value.int .u32 ((c + y) % 4294967296)] 96)).cell? ⟨w.heap.size + 1 + 1, 0, none⟩ = some (Value.slice (some ⟨w.heap.size + 1, 0, none⟩) (wh + ln) cp) := (Boxed.alloc (Boxed.kept (W := X.drew) q1 hgr (by simp <;> omega)) _).cell
            go_simp
            refine hK.out _ _ ?kc22 (fun hHeld => ?mc22)
            case kc22 =>
              try dsimp only
              exact hHeld
            clear hK K
            try simp only [Act.put, List.setIfInBounds_toArray, List.set_cons_zero, List.set_cons_succ]
            refine wpAnyH_ready (rs := [9]) (by kernel_rfl) (by simp) ?_
            refine AllReadyH.cons rfl (fun K hK => ?s22) AllReadyH.nil
            have hblk3 : Blk (w2.alloc (Obj.cells #[Value.int .u32 ((c + y) % 4294967296)] 96)) (w.heap.size + 1) zz := (Blk.grown (w := X.drew) hblk hgr (by simp <;> omega)).alloc _
            refine step_append_limb rfl (.tmp 40) (.tmp 48) rfl (w.heap.size + 1) (wh + ln) cp w2.heap.size zz ((c + y) % 4294967296) hblk3 hzl (by omega) rfl rfl (Boxed.new w2 96 (.int .u32 ((c + y) % 4294967296))).cell ?_
            refine hK.out _ _ ?kc23 (fun hHeld => ?mc23)
            case kc23 =>
              try dsimp only
              exact ⟨(World.cell?_setCell_far _ _ _ _ (by simp <;> omega)).trans hHeld.1, (World.cell?_setCell_far _ _ _ _ (by simp <;> omega)).trans hHeld.2⟩
            clear hK K
            try simp only [Act.put, List.setIfInBounds_toArray, List.set_cons_zero, List.set_cons_succ]
            refine wpAnyH_ready (rs := [10]) (by kernel_rfl) (by simp) ?_
            refine AllReadyH.cons rfl (fun K hK => ?s23) AllReadyH.nil
            have b7 : Boxed ((w2.alloc (Obj.cells #[Value.int .u32 ((c + y) % 4294967296)] 96)).setCell ⟨w.heap.size + 1, wh + ln, none⟩ (.int .u32 ((c + y) % 4294967296))) (w.heap.size + 1 + 1) 91 (Value.slice (some ⟨w.heap.size + 1, 0, none⟩) (wh + ln) cp) := Boxed.far ((Boxed.kept (W := X.drew) q1 hgr (by simp <;> omega)).alloc _) (by simp <;> omega) _
            have b7c := b7.cell
            have b7f := b7.frozen
            go_simp
            refine hK.out _ _ ?kc24 (fun hHeld => ?mc24)
            case kc24 =>
              try dsimp only
              exact ⟨(World.cell?_setCell_far _ _ _ _ (by simp <;> omega)).trans hHeld.1, (World.cell?_setCell_far _ _ _ _ (by simp <;> omega)).trans hHeld.2⟩
            clear hK K
            try simp only [Act.put, List.setIfInBounds_toArray, List.set_cons_zero, List.set_cons_succ]
            refine wpAnyH_done (by kernel_rfl) ?_ _
            exact FIN.out w2 hgr hcar2
    case done =>
      rintro D ks X hD hup ⟨⟨⟨⟨hblk, q1⟩, q2⟩, q3⟩, hB⟩ hK
      have hkl : ks.length = ys.length := by have := hup.length; omega
      obtain ⟨ok1, okw, ok2, ok3⟩ := shlOf_ok q ys hwt hq (ks.map Fin.val)
      have hv := val_shlOf q ys ys.length
      rw [show ks.map Fin.val = List.range ys.length from by rw [hup, htr]] at ok1 okw ok2 ok3 hblk q2
      rw [hkl] at hblk q1
      obtain ⟨st, hst⟩ : ∃ st, shlOf q ys (List.range ys.length) = st := ⟨_, rfl⟩
      rw [hst] at hblk q2 ok1 okw ok2 ok3 hv
      obtain ⟨zs, c⟩ := st
      simp only [List.take_length] at hv
      simp only at hblk q2 okw ok2 ok3
      obtain ⟨zl, hv⟩ := hv
      have hc := (shl_part (x := 0) (by omega) hq).2.2
      have hzl : (List.replicate wh 0 ++ zs ++ List.replicate (cp - (wh + ys.length)) 0).length = cp := by simp [zl]; omega
      have eset : (List.replicate wh 0 ++ zs ++ List.replicate (cp - (wh + ys.length)) 0).set (wh + ys.length) (c % 4294967296) = List.replicate wh 0 ++ zs ++ [c % 4294967296] := by
        rw [set_mid _ _ _ _ (by simp [zl]) (by omega), show cp - (wh + ys.length + 1) = 0 from by omega]; simp
      obtain ⟨zz, hzz⟩ : ∃ zz, List.replicate wh 0 ++ zs ++ List.replicate (cp - (wh + ys.length)) 0 = zz := ⟨_, rfl⟩
      rw [hzz] at hblk hzl eset
      have hL : val (List.replicate wh 0 ++ zs ++ [c % 4294967296]) = 4294967296 ^ wh * (val ys * 2 ^ q) := by
        rw [← hv, val_append, val_append, val_zeros, List.length_append, List.length_replicate, zl, Int.pow_add, Int.emod_eq_of_lt ok2 (by omega), Int.mul_add]
        simp only [val, Int.mul_zero, Int.add_zero, Int.zero_add, Int.mul_assoc]
      have wL : Wf (List.replicate wh 0 ++ zs ++ [c % 4294967296]) := ((Wf.zeros wh).append okw).append (wf1 (by omega))
      have c1 := q1.cell
      have c3 := q3.cell
      have num : ∀ w2 : World, X.drew.grownBy w2 (some (w.heap.size + 1 + 1 + 1)) → Num w.heap.size ((w2.alloc (Obj.cells #[Value.int .u32 (c % 4294967296)] 96)).setCell ⟨w.heap.size + 1, wh + ys.length, none⟩ (.int .u32 (c % 4294967296))) (.slice (some ⟨w.heap.size + 1, 0, none⟩) (wh + ys.length + 1) cp) (List.replicate wh 0 ++ zs ++ [c % 4294967296]) ∧ Below w.heap.size w ((w2.alloc (Obj.cells #[Value.int .u32 (c % 4294967296)] 96)).setCell ⟨w.heap.size + 1, wh + ys.length, none⟩ (.int .u32 (c % 4294967296))) ∧ KeepsOthers X ((w2.alloc (Obj.cells #[Value.int .u32 (c % 4294967296)] 96)).setCell ⟨w.heap.size + 1, wh + ys.length, none⟩ (.int .u32 (c % 4294967296))) := fun w2 hgr => by
        have hb3 : Blk (w2.alloc (Obj.cells #[Value.int .u32 (c % 4294967296)] 96)) (w.heap.size + 1) zz := (Blk.grown (w := X.drew) hblk hgr (by simp <;> omega)).alloc _
        have hb4 := hb3.set (wh + ys.length) (c % 4294967296)
        have hl4 : (zz.set (wh + ys.length) (c % 4294967296)).length = cp := by rw [List.length_set]; exact hzl
        have h := Num.ofBlk (base := w.heap.size) hb4 (by omega) (wh + ys.length + 1) (by omega) (by rw [hl4]; unfold maxLen; omega)
        rw [hl4, List.take_of_length_le (by omega), eset] at h
        have hsz2 : X.heap.size ≤ w2.heap.size := hgr.size
        have hsX := hB.size
        have hko : KeepsOthers X w2 := (KeepsOthers.drew X).trans (KeepsOthers.of_grownBy hgr (fun j o ej hj => by cases ej; rw [show X.drew.heap[w.heap.size + 1 + 1 + 1]? = _ from q2] at hj; cases hj; rfl))
        have hbo : Below (w.heap.size + 1) X w2 := (Below.refl _ X).drew.grown hgr (by show w.heap.size + 1 ≤ X.heap.size; omega) (fun j ej => by cases ej; omega)
        refine ⟨h, (hV.trans (hB.mono (by omega))).trans (Below.mono ((hbo.alloc (by omega) _).setCell (p := ⟨w.heap.size + 1, wh + ys.length, none⟩) (Nat.le_refl _) _) (by omega)), (hko.trans (KeepsOthers.alloc _ _)).trans (KeepsOthers.setCell _ _ _)⟩
      have NUM := Lib.hid num
      have HV := Lib.hid hv
      have HLL := Lib.hid hL
      clear num hv hL eset hzz hst
      gi_wp2_with fail
      refine region_wide (fun X' => X'.cell? ⟨w.heap.size + 1 + 1 + 1 + 1, 0, none⟩ = some (Value.func (.func 291) #[] #[.pointer (some ⟨w.heap.size + 1 + 1 + 1, 0, none⟩)]) ∧ X'.cell? ⟨w.heap.size + 1 + 1, 0, none⟩ = some (.slice (some ⟨w.heap.size + 1, 0, none⟩) (wh + ys.length) cp))
        (by kernel_rfl) (by kernel_rfl) ⟨c3, c1⟩ (fun hHeld => ?_)
      refine todo [0, 1] ?_
      iterate 2
       refine todoH (v := ?_) rfl (by kernel_rfl) (fun _ _ _ h => h) (by assumption) (Or.inl ⟨by rfl, ?_⟩) ?_
       rotate_left
       · intro w hSw; (try dsimp only at hSw); go_simp; (try with_reducible rfl)
       try simp only [Act.put, List.getElem_toArray, List.getElem_cons_succ, List.getElem_cons_zero, List.setIfInBounds_toArray, List.set_cons_zero, List.set_cons_succ]
      refine todone ?_
      refine wpAnyH_ready (rs := [2]) (by kernel_rfl) (by simp) ?_
      refine AllReadyH.cons rfl (fun K hK => ?sd25) AllReadyH.nil
      go_simp
      refine (carry0 c (w.heap.size + 1 + 1 + 1) X.drew ok2 (by omega) q2).mono ?_
      rintro e w2 ⟨rfl, hcar2, hgr⟩
      go_simp
      refine hK.out _ _ ?kd25 (fun hHeld => ?md25)
      case kd25 =>
        try dsimp only
        exact ⟨hgr.cell c3 (by simp <;> omega), hgr.cell c1 (by simp <;> omega)⟩
      clear hK K
      try simp only [Act.put, List.setIfInBounds_toArray, List.set_cons_zero, List.set_cons_succ]
      refine wpAnyH_ready (rs := [3]) (by kernel_rfl) (by simp) ?_
      refine AllReadyH.cons rfl (fun K hK => ?sd26) AllReadyH.nil
      go_simp
      refine hK.out _ _ ?kd26 (fun hHeld => ?md26)
      case kd26 =>
        try dsimp only
        simp [*, World.cell?_alloc_some]
      clear hK K
      try simp only [Act.put, List.setIfInBounds_toArray, List.set_cons_zero, List.set_cons_succ]
      refine wpAnyH_ready (rs := [4]) (by kernel_rfl) (by simp) ?_
      refine AllReadyH.cons rfl (fun K hK => ?sd27) AllReadyH.nil
      have hblk3 : Blk (w2.alloc (Obj.cells #[Value.int .u32 (c % 4294967296)] 96)) (w.heap.size + 1) zz := (Blk.grown (w := X.drew) hblk hgr (by simp <;> omega)).alloc _
      refine step_append_limb rfl (.tmp 50) (.tmp 53) rfl (w.heap.size + 1) (wh + ys.length) cp w2.heap.size zz (c % 4294967296) hblk3 hzl (by omega) rfl rfl (Boxed.new w2 96 (.int .u32 (c % 4294967296))).cell ?_
      refine hK.out _ _ ?kd27 (fun hHeld => ?md27)
      case kd27 =>
        try dsimp only
        exact ⟨(World.cell?_setCell_far _ _ _ _ (by simp <;> omega)).trans hHeld.1, (World.cell?_setCell_far _ _ _ _ (by simp <;> omega)).trans hHeld.2⟩
      clear hK K
      try simp only [Act.put, List.setIfInBounds_toArray, List.set_cons_zero, List.set_cons_succ]
      refine wpAnyH_ready (rs := [5]) (by kernel_rfl) (by simp) ?_
      refine AllReadyH.cons rfl (fun K hK => ?sd28) AllReadyH.nil
      obtain ⟨hnum, hbl, hko⟩ := NUM.out w2 hgr
      rw [hcp] at hnum
      go_simp
      refine (cut_num hnum).mono ?_
      rintro e w3 ⟨u, rfl, hu, rfl⟩
      go_simp
      refine hK.out _ _ ?kd28 (fun hHeld => ?md28)
      case kd28 =>
        try dsimp only
        exact hHeld
      clear hK K
      try simp only [Act.put, List.setIfInBounds_toArray, List.set_cons_zero, List.set_cons_succ]
      refine wpAnyH_ready (rs := [6]) (by kernel_rfl) (by simp) ?_
      refine AllReadyH.cons rfl (fun K hK => ?sd29) AllReadyH.nil
      go_simp
      refine hK.out _ _ ?kd29 (fun hHeld => ?md29)
      case kd29 =>
        try dsimp only
        exact hHeld
      clear hK K
      try simp only [Act.put, List.setIfInBounds_toArray, List.set_cons_zero, List.set_cons_succ]
      refine wpAnyH_done (by kernel_rfl) ?_ _
      dsimp only [Straight]
      gi_wp2_with fail
      have hK2 := hko.same D _ hK rfl
      clear hnum hblk3 hHeld hgr
      generalize ((w2.alloc (Obj.cells #[Value.int .u32 (c % 4294967296)] 96)).setCell ⟨w.heap.size + 1, wh + ys.length, none⟩ (.int .u32 (c % 4294967296))) = U at *
      refine ⟨by simp, .inl ⟨_, _, rfl, run_takeDeferred hK2, ?_⟩⟩
      refine ⟨_, results_tmp rfl _ _ _, u, trim (List.replicate wh 0 ++ zs ++ [c % 4294967296]), rfl, ⟨?_, wL.trim, trim_full _, by rw [val_trim, HLL.out]⟩, ?_, hbl.trans (belowK_b (w := w) (Nat.le_refl _) U D _ _ (by omega) hK2 rfl rfl)⟩
      · exact ownsRow_putObj hu (.deferred none) hK2 rfl
      · have h := trim_len_le (List.replicate wh 0 ++ zs ++ [c % 4294967296])
        simp only [List.length_append, List.length_replicate, List.length_cons, List.length_nil] at h
        omega
    case stop =>
      rintro D c pre X _ _ h _
      exact h.elim
end
end Go.Proofs.YtjgiacghlkkjfaaGreatDoor
