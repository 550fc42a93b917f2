/-
  Rational numbers in memory: what comes in, what comes out, the reference's; whole numbers with a sign.
-/
import Derived.Test.YtooglnhlhgmhdaaGreatG1
import Derived.Deep.RegionLaw
import Derived.WalkMore
namespace Go.Proofs.YtooglnhlhgmhdaaGreat
set_option maxRecDepth 100000
section
open Go.RowKit Go.Shelf
attribute [local go_sem] Oper.semAt_some
/-- limbs that are shifted up one by one: what is written, the carry -/
def shlStep (q : Nat) (xs : List Int) (s : List Int × Int) (k : Nat) : List Int × Int :=
  (s.1 ++ [(s.2 + xs.getD k 0 * 2 ^ q) % 4294967296], (s.2 + xs.getD k 0 * 2 ^ q) / 4294967296)
def shlOf (q : Nat) (xs : List Int) (ks : List Nat) : List Int × Int := ks.foldl (shlStep q xs) ([], 0)
theorem shlOf_snoc (q : Nat) (xs : List Int) (ks : List Nat) (k : Nat) : shlOf q xs (ks ++ [k]) = shlStep q xs (shlOf q xs ks) k := by simp [shlOf]
theorem shl_part {x : Int} {q : Nat} (hx : 0 ≤ x ∧ x < 4294967296) (hq : q < 32) : 0 ≤ x * 2 ^ q ∧ x * 2 ^ q ≤ 4294967295 * 2 ^ q ∧ (2 : Int) ^ q ≤ 2147483648 := by
  have hp := two_pos q
  refine ⟨Int.mul_nonneg hx.1 (by omega), Int.mul_le_mul_of_nonneg_right (by omega) (by omega), ?_⟩
  exact two_mono (show q ≤ 31 by omega)
theorem shlOf_ok (q : Nat) (xs : List Int) (hx : Wf xs) (hq : q < 32) (ks : List Nat) : (shlOf q xs ks).1.length = ks.length ∧ Wf (shlOf q xs ks).1 ∧ 0 ≤ (shlOf q xs ks).2 ∧ (shlOf q xs ks).2 < 2 ^ q := by
  suffices h : ∀ (ks : List Nat) (s : List Int × Int), Wf s.1 ∧ 0 ≤ s.2 ∧ s.2 < 2 ^ q → ((ks.foldl (shlStep q xs) s).1.length = s.1.length + ks.length ∧ Wf (ks.foldl (shlStep q xs) s).1 ∧ 0 ≤ (ks.foldl (shlStep q xs) s).2 ∧ (ks.foldl (shlStep q xs) s).2 < 2 ^ q) from by
    have h2 := h ks ([], 0) ⟨Wf.nil, by simp, two_pos q⟩
    simpa [shlOf] using h2
  intro ks
  induction ks with
  | nil => intro s h; exact ⟨by simp, h⟩
  | cons k ks ih =>
    intro s ⟨g1, g2, g3⟩
    have hp := shl_part (hx.getD k) hq
    have h := ih (shlStep q xs s k) ⟨g1.append (Wf.cons (by omega) Wf.nil), by simp only [shlStep]; omega, by simp only [shlStep]; omega⟩
    refine ⟨?_, h.2⟩
    rw [List.foldl_cons, h.1]
    simp [shlStep]
    omega
theorem val_shlOf (q : Nat) (xs : List Int) (k : Nat) : (shlOf q xs (List.range k)).1.length = k ∧ val (shlOf q xs (List.range k)).1 + 4294967296 ^ k * (shlOf q xs (List.range k)).2 = val (xs.take k) * 2 ^ q := by
  induction k with
  | zero => simp [shlOf, val]
  | succ k ih =>
    obtain ⟨il, ih⟩ := ih
    rw [List.range_succ, shlOf_snoc, val_take_succ]
    simp only [shlStep]
    refine ⟨by simp [il], ?_⟩
    rw [val_append, il]
    have hm : ∀ s : Int, s % 4294967296 + 4294967296 * (s / 4294967296) = s := fun s => by omega
    have hm := hm ((shlOf q xs (List.range k)).2 + xs.getD k 0 * 2 ^ q)
    simp only [Int.pow_succ, val]
    rw [Int.add_mul, ← ih, Int.mul_assoc, Int.mul_assoc]
    generalize (shlOf q xs (List.range k)).2 = c at *
    generalize xs.getD k 0 * 2 ^ q = y at *
    generalize (4294967296 : Int) ^ k = P at *
    generalize (c + y) % 4294967296 = r at *
    generalize (c + y) / 4294967296 = t at *
    have h2 : P * (r + 4294967296 * t) = P * (c + y) := by rw [hm]
    rw [Int.mul_add, Int.mul_add] at h2
    simp only [Int.mul_zero, Int.add_zero]
    omega
/-- one limb behind a row that has room -/
theorem step_append_limb {ops : Array Oper} {o : Oper} {a : Act} {w : World} {K : Act → World → Prop} {Q : Exit → Act → World → Prop} {E : Prop} (hg : o.guard = none) (s x : Operand)
    (hop : o.op = Op.call { callee := Callee.builtin Builtin.append, args := #[s, x], argTypes := #[56, 56] }) (g n cap p : Nat) (zs : List Int) (d : Int) (h : Blk w g zs) (hc : zs.length = cap) (hn : n < cap)
    (hs : a.eval s = .slice (some ⟨g, 0, none⟩) n cap) (hx : a.eval x = .slice (some ⟨p, 0, none⟩) 1 1) (hp : w.cell? ⟨p, 0, none⟩ = some (.int .u32 d))
    (hK : K (a.put o.dst (.slice (some ⟨g, 0, none⟩) (n + 1) cap)) (w.setCell ⟨g, n, none⟩ (.int .u32 d))) :
    if Region.wanted o (yielded ops a.tmps) = true then Oper.wp Tryz.prog o a w K Q else E := by
  obtain ⟨i0, hi, hz0, hz1, hz2⟩ := info_parts infoLimb
  refine step_append_room hg s x 56 hop 63 i0 1 Tryz.underlying56 hi hz1 g 0 n cap hs ⟨p, 0, none⟩ 1 1 [.int .u32 d] hx rfl ?_ (by simp [Value.oneCell']) (by omega) ?_ ?_
  · intro j u hj
    match j, hj with
    | 0, hj =>
      simp at hj
      subst hj
      exact hp
    | j + 1, hj => simp at hj
  · intro j hj
    have hj0 : j = 0 := by simpa using hj
    subst hj0
    rw [show (0 : Nat) + n * 1 + 0 = n from by omega]
    exact ⟨by rw [h.cell n (by omega)]; rfl, h.free n⟩
  · rw [show (0 : Nat) + n * 1 = n from by omega]
    exact hK
theorem wpIn_of_wp_wide {n : Nat} {P : Program} {o : Oper} {a : Act} {w : World} {K : Act → World → Prop} {Q : Exit → Act → World → Prop} (hnd : ∀ c, o.op ≠ .defer c)
    (h : o.wp P a w K Q) : o.wpIn Fence.wide n P a w K Q := by
  unfold Oper.wpIn
  refine ⟨fun _ _ => trivial, ?_⟩
  rw [Oper.semAt_eq _ _ _ hnd]
  unfold Oper.wp at h
  generalize (execOp a.eval o).run P w = r at *
  cases r with
  | ok x w' =>
    cases x with
    | value v => exact h
    | skip => exact h
    | defer d => exact h
    | enter f args => exact ⟨(fun h => by cases h), callsIn_wide.2 h⟩
    | row r args => exact ⟨(fun h => by cases h), fun c cs _ => let ⟨v, w', r, s⟩ := h c cs; ⟨v, w', r, stepsIn_wide.2 s⟩⟩
    | _ => exact h.elim
  | halt x w' => cases x <;> exact h
theorem wpAnyIn_of_wide {n : Nat} {P : Program} {md : Region.Mode} {ops : Array Oper} {Q : Exit → Act → World → Prop} (hnd : noDefer ops = true) (hLO : ¬ LetsOut Q) :
    ∀ (fuel : Nat) (listed : Array Bool) (a : Act) (w : World), wpAny P md ops Q fuel listed a w → wpAnyIn Fence.wide n P md ops Q fuel listed a w
  | 0, _, _, _, h => h
  | fuel + 1, _, _, _, h => ⟨h.1, fun i hi => by
    have h2 := h.2 i hi
    unfold wpOp at h2
    unfold wpOpIn
    split
    · rename_i he
      rw [he] at h2
      exact wpAnyIn_of_wide hnd hLO fuel _ _ _ h2
    · rename_i o ho
      simp only [ho] at h2
      split
      · rename_i hw
        simp only [hw, if_true] at h2
        rcases h2 with h2 | h2
        · exact wpIn_of_wp_wide (fun c => noDefer_spec hnd ho c) (Oper.wp_mono (fun a w ha => wpAnyIn_of_wide hnd hLO fuel _ a w ha) h2)
        · exact absurd h2.2 hLO
      · rename_i hw
        simp only [hw] at h2
        exact ⟨fun _ _ => trivial, wpAnyIn_of_wide hnd hLO fuel _ _ _ h2⟩⟩
/-- only the normal way out -/
def Straight (Q : Exit → Act → World → Prop) : Exit → Act → World → Prop
  | .normal, a, w => Q .normal a w
  | _, _, _ => False
theorem straight_mono {Q : Exit → Act → World → Prop} : ∀ e a w, Straight Q e a w → Q e a w := by
  intro e a w h
  cases e with
  | normal => exact h
  | _ => exact h.elim
theorem region_wide {n id : Nat} {P : Program} {ops : Array Oper} {Q : Exit → Act → World → Prop} {a : Act} {w : World} (S : World → Prop) (hm : P.follows .mixedOrders = true) (hnd : noDefer ops = true)
    (hS : S w.drew) (h : S w.drew → wpAnyH P .any ops (Straight Q) S ops.size (Array.replicate ops.size false) a w.drew) : (Code.region id ops true).wpIn Fence.wide n P Q a w :=
  Code.wpIn_mono straight_mono (wpIn_region_any hm (wpAnyIn_of_wide hnd (by rintro ⟨a', w', h⟩; exact h) _ _ _ _ (wpAny_of_held _ _ _ _ (h hS))))
set_option maxRecDepth 100000 in
set_option maxHeartbeats 4000000 in
set_option linter.unusedSimpArgs false in
theorem shl_any {u : Value} {xs : List Int} {a : Option Addr} {capa : Nat} {w : World} (n₀ : Int) (h1 : Arg w u xs a capa) (hx : xs.length ≤ 268435455) (hn1 : -9223372036854775808 ≤ n₀) (hn2 : n₀ ≤ 8589934592) :
    Calls Tryz.prog 157 #[u, .int .i64 n₀] w fun e w' => ∃ r zs, e = .returned r ∧ Res w.heap.size w' r zs (val xs * 2 ^ n₀.toNat) ∧ zs.length ≤ xs.length + n₀.toNat / 32 + 1 ∧ Below w.heap.size w w' := by
  obtain ⟨rfl, hl, hcap, hwf⟩ := h1
  obtain ⟨wh, q, e1, e2, e3, hq, _⟩ := shift_parts n₀ (by omega)
  have hwh : wh ≤ 268435456 := by omega
  have hta := trim_le xs
  have hdiv : n₀.toNat / 32 = wh := by omega
  have sp := split_any n₀ w hn1 (by omega)
  rw [e1, e2] at sp
  have hval : val xs * 2 ^ n₀.toNat = 4294967296 ^ wh * (val (trim xs) * 2 ^ q) := by rw [e3, Int.pow_add, ← pow_limb, val_trim]; exact Int.mul_left_comm _ _ _
  rw [hval, hdiv]
  have htr := trim_full xs
  have htl := trim_length xs
  have hwt := hwf.trim
  have hlt : Lim w a (trim xs) := hl.take _
  generalize trim xs = ys at *
  have hta2 : ys.length ≤ xs.length := by omega
  have HM := Lib.hid htl
  have hcapy : ys.length ≤ capa := by omega
  clear hval hdiv e1 e2 e3 htl hta
  obtain ⟨n, hn⟩ : ∃ n : Nat, Hid (3 ≤ n) := ⟨3, Nat.le_refl 3⟩
  refine (callsIn_wide (n := n)).1 ?_
  refine callsIn_of_wp_marks Tryz.func157 rfl trivial ?_ rfl
  simp only [Tryz.ntmps157, List.size_toArray, List.length_cons, List.length_nil, Nat.reduceAdd, Nat.reduceSub, Array.replicate_succ, Array.replicate_zero, List.push_toArray, List.append_toArray, List.nil_append, List.cons_append]
  gi_wp2_with fail
  refine wideCall (sp.mono ?_)
  rintro e w' ⟨rfl, rfl⟩
  clear sp
  have bB0 := Boxed.new w 3 (.int .i64 (0 : Int))
  have bC0 := bB0.cell
  have bF0 := bB0.frozen
  gi_wp2_with fail
  clear bB0 bC0 bF0
  have bQ := Boxed.new w 3 (.int .i64 (q : Int))
  have hV : Below w.heap.size w (w.alloc (Obj.cells #[Value.int IntKind.i64 (q : Int)] 3)) := (Below.refl _ w).alloc (Nat.le_refl _) _
  have hsV : (w.alloc (Obj.cells #[Value.int IntKind.i64 (q : Int)] 3)).heap.size = w.heap.size + 1 := by simp
  generalize w.alloc (Obj.cells #[Value.int IntKind.i64 (q : Int)] 3) = V at *
  have hlV := hl.later hV
  have hltV := hlt.later hV
  refine wideCall ((cut_any a xs capa _ hlV (by unfold maxLen; omega) hcap).mono ?_)
  rintro e w' ⟨rfl, rfl⟩
  rw [← HM.out]
  by_cases hz : ys.length = 0
  · have he := List.eq_nil_of_length_eq_zero hz
    subst he
    gi_wp2_with fail
    refine ⟨_, results_tmp rfl _ _ _, .slice none 0 0, [], rfl, ⟨World.ownsRow_nil _ _ _ _, Wf.nil, rfl, by simp [val]⟩, by simp, hV⟩
  · have hmz : ((ys.length : Int) == 0) = false := by simp; intro h; subst h; exact hz rfl
    have hbig : decide (536870911 - (ys.length : Int) < (wh : Int)) = false := decide_eq_false (by omega)
    obtain ⟨cp, hcp⟩ : ∃ cp, wh + ys.length + 1 = cp := ⟨_, rfl⟩
    have hcpi : (wh : Int) + (ys.length : Int) + 1 = (cp : Int) := by omega
    have hmk := make_runN wh cp (by omega) (by omega)
    gi_wp2_with fail
    refine wideCall ((carrier_any _ _).mono ?_)
    rintro e w' ⟨rfl, rfl⟩
    have k1 := (((Blk.made V cp).alloc (Obj.cells #[Value.slice (some ⟨w.heap.size + 1, 0, none⟩) wh cp] 56)).alloc (Obj.cells #[Value.int .u64 0] 145))
    have k2 := (Boxed.new (V.alloc (Obj.cells (madeCells #[Value.int .u32 0] cp) 63)) 56 (Value.slice (some ⟨w.heap.size + 1, 0, none⟩) wh cp)).alloc (Obj.cells #[Value.int .u64 0] 145)
    have k3 := Boxed.new ((V.alloc (Obj.cells (madeCells #[Value.int .u32 0] cp) 63)).alloc (Obj.cells #[Value.slice (some ⟨w.heap.size + 1, 0, none⟩) wh cp] 56)) 145 (.int .u64 0)
    have k4 : Below V.heap.size V (((V.alloc (Obj.cells (madeCells #[Value.int .u32 0] cp) 63)).alloc (Obj.cells #[Value.slice (some ⟨w.heap.size + 1, 0, none⟩) wh cp] 56)).alloc (Obj.cells #[Value.int .u64 0] 145)) := (((Below.refl _ V).alloc (Nat.le_refl _) _).alloc (by simp) _).alloc (by simp; omega) _
    have k5 : (((V.alloc (Obj.cells (madeCells #[Value.int .u32 0] cp) 63)).alloc (Obj.cells #[Value.slice (some ⟨w.heap.size + 1, 0, none⟩) wh cp] 56)).alloc (Obj.cells #[Value.int .u64 0] 145)).heap.size = w.heap.size + 1 + 1 + 1 + 1 := by simp [hsV]
    simp only [World.size_alloc, hsV] at k1 k2 k3 k4
    simp only [World.size_alloc, hsV]
    generalize (((V.alloc (Obj.cells (madeCells #[Value.int .u32 0] cp) 63)).alloc (Obj.cells #[Value.slice (some ⟨w.heap.size + 1, 0, none⟩) wh cp] 56)).alloc (Obj.cells #[Value.int .u64 0] 145)) = W3 at *
    have k6 := Boxed.new W3 182 .nilFunc
    rw [k5] at k6
    have k6c := k6.cell
    have k6f := k6.frozen
    have K5 := Lib.hid k5
    have k5' := k5
    clear k5
    gi_wp2_with fail
    refine wideCall ((limbs_any a ys.length capa _).mono ?_)
    rintro e w' ⟨rfl, rfl⟩
    gi_wp2_with fail
    have j1 := (k1.alloc (Obj.cells #[Value.func (.func 161) #[] #[.pointer (some ⟨w.heap.size + 1 + 1 + 1, 0, none⟩)]] 182)).alloc (Obj.cells #[Value.slice a ys.length capa] 56)
    have j2 := (k2.alloc (Obj.cells #[Value.func (.func 161) #[] #[.pointer (some ⟨w.heap.size + 1 + 1 + 1, 0, none⟩)]] 182)).alloc (Obj.cells #[Value.slice a ys.length capa] 56)
    have j3 := (k3.alloc (Obj.cells #[Value.func (.func 161) #[] #[.pointer (some ⟨w.heap.size + 1 + 1 + 1, 0, none⟩)]] 182)).alloc (Obj.cells #[Value.slice a ys.length capa] 56)
    have j4 := (Boxed.new W3 182 (Value.func (.func 161) #[] #[.pointer (some ⟨w.heap.size + 1 + 1 + 1, 0, none⟩)])).alloc (Obj.cells #[Value.slice a ys.length capa] 56)
    have j5 := Boxed.new (W3.alloc (Obj.cells #[Value.func (.func 161) #[] #[.pointer (some ⟨w.heap.size + 1 + 1 + 1, 0, none⟩)]] 182)) 56 (Value.slice a ys.length capa)
    have j6 : Below (w.heap.size + 1) V ((W3.alloc (Obj.cells #[Value.func (.func 161) #[] #[.pointer (some ⟨w.heap.size + 1 + 1 + 1, 0, none⟩)]] 182)).alloc (Obj.cells #[Value.slice a ys.length capa] 56)) := (k4.alloc (by omega) _).alloc (by simp; omega) _
    have j7 : ((W3.alloc (Obj.cells #[Value.func (.func 161) #[] #[.pointer (some ⟨w.heap.size + 1 + 1 + 1, 0, none⟩)]] 182)).alloc (Obj.cells #[Value.slice a ys.length capa] 56)).heap.size = w.heap.size + 6 := by simp; omega
    rw [k5'] at j4
    rw [World.size_alloc, k5'] at j5
    generalize ((W3.alloc (Obj.cells #[Value.func (.func 161) #[] #[.pointer (some ⟨w.heap.size + 1 + 1 + 1, 0, none⟩)]] 182)).alloc (Obj.cells #[Value.slice a ys.length capa] 56)) = W5 at *
    clear k1 k2 k3 k4 k6 k6c k6f K5 k5' hmk
    have h3 : 3 ≤ n := hn
    refine wpIn_rangeFunc_ownF rfl (by omega) (gf := 160) (lb := #[.pointer (some ⟨w.heap.size + 1 + 1 + 1 + 1 + 1, 0, none⟩)]) rfl trivial (enters_of Tryz.func160 (by kernel_rfl) rfl)
      (limbs_stops (n - 1) (w.heap.size + 1 + 1 + 1 + 1 + 1) (w.heap.size + 1) a ys capa (by omega) hcapy (fun hne p hp => by have := hlt.lt hne p hp; omega) _ (by omega) j5.cell (hltV.later (hsV ▸ j6))) belowK_t (belowK_b (by omega)) (Below.refl _ _) (fun _ => rfl)
      (fun (pre : List (Fin (trimN ys ys.length))) X => (((((Blk X (w.heap.size + 1) (List.replicate wh 0 ++ (shlOf q ys (pre.map Fin.val)).1 ++ List.replicate (cp - (wh + pre.length)) 0) ∧ Boxed X (w.heap.size + 1 + 1) 56 (.slice (some ⟨w.heap.size + 1, 0, none⟩) (wh + pre.length) cp)) ∧ Boxed X (w.heap.size + 1 + 1 + 1) 145 (.int .u64 (shlOf q ys (pre.map Fin.val)).2)) ∧
        Boxed X (w.heap.size + 1 + 1 + 1 + 1) 182 (Value.func (.func 161) #[] #[.pointer (some ⟨w.heap.size + 1 + 1 + 1, 0, none⟩)])) ∧ Below (w.heap.size + 1) V X)))
      (fun _ _ _ => False)
      (OwnFrom.and (Own.from (Own.and2 (Own.and2 (Own.and2 (blk_own _ _) (boxed_own _ _ _)) (boxed_own _ _ _)) (boxed_own _ _ _)) _) (ownFrom_below (by omega) (by omega)))
      (fun _ _ _ _ _ hs _ _ => hs)
      ⟨⟨⟨⟨by simpa [shlOf, ← hcp, List.replicate_append_replicate, Nat.add_assoc] using j1, by simpa using j2⟩, j3⟩, j4⟩, j6⟩
      (fun (y : Fin (trimN ys ys.length)) => { tmps := #[.slice a ys.length capa, .int .i64 n₀, undef, undef, .slice none 0 0, .int .i64 (wh : Int), .pointer (some ⟨w.heap.size, 0, none⟩), .pointer (some ⟨w.heap.size + 1 + 1, 0, none⟩), .pointer (some ⟨w.heap.size + 1 + 1 + 1 + 1, 0, none⟩), undef, .int .u32 (ys[y.val]?.getD 0), .tuple #[.int .i64 (wh : Int), .int .i64 (q : Int)], .int .i64 n₀, .tuple #[.int .i64 (wh : Int), .int .i64 (q : Int)], .int .i64 (wh : Int), .int .i64 (q : Int), .slice a xs.length capa, .slice a ys.length capa, .slice a ys.length capa, .int .i64 (ys.length : Int), .bool false, .bool false, .int .i64 (wh : Int), .slice a ys.length capa, .int .i64 (ys.length : Int), .int .i64 (536870911 - (ys.length : Int)), .bool false, .bool false, .int .i64 (wh : Int), .int .i64 (wh : Int), .slice a ys.length capa, .int .i64 (ys.length : Int), .int .i64 ((wh : Int) + (ys.length : Int)), .int .i64 (cp : Int), .slice (some ⟨w.heap.size + 1, 0, none⟩) wh cp, (Value.func (.func 161) #[] #[.pointer (some ⟨w.heap.size + 1 + 1 + 1, 0, none⟩)]), .slice a ys.length capa, .func (.func 160) #[] #[.pointer (some ⟨w.heap.size + 1 + 1 + 1 + 1 + 1, 0, none⟩)], .int .i64 (y.val : Int), .int .u32 (ys[y.val]?.getD 0), undef, undef, undef, undef, undef, undef, undef, undef, undef, undef, undef, undef, undef, undef, undef, undef], defers := [] }) ?assign ?body ?done ?stop
    case assign =>
      intro l y X K hK
      simp only [limbAt]
      gi_wp2
      exact hK
    case body =>
      rintro l pre ⟨k, hk⟩ X ⟨⟨⟨⟨hblk, q1⟩, q2⟩, q3⟩, hB⟩ hlen
      have hkm : k < ys.length := by omega
      obtain ⟨ok1, okw, ok2, ok3⟩ := shlOf_ok q ys hwt hq (pre.map Fin.val)
      obtain ⟨st, hst⟩ : ∃ st, shlOf q ys (pre.map Fin.val) = st := ⟨_, rfl⟩
      rw [hst] at hblk q2 ok1 okw ok2 ok3
      obtain ⟨zs, c⟩ := st
      obtain ⟨ln, hln⟩ : ∃ ln, pre.length = ln := ⟨_, rfl⟩
      rw [hln] at hblk q1
      have hlnm : ln < ys.length := by omega
      obtain ⟨x, hxk⟩ : ∃ x, ys.getD k 0 = x := ⟨_, rfl⟩
      have bx : 0 ≤ x ∧ x < 4294967296 := hxk ▸ hwt.getD k
      have hp := shl_part bx hq
      obtain ⟨y, hy⟩ : ∃ y, x * 2 ^ q = y := ⟨_, rfl⟩
      rw [hy] at hp
      obtain ⟨p0, p1, p2⟩ := hp
      obtain ⟨bx0, bx1⟩ := bx
      have hyb : y < 18446744069414584320 := by omega
      have hxk2 : ys[k]?.getD 0 = x := hxk
      simp only [hxk2]
      simp only [List.length_map] at ok1
      simp only at hblk q2 ok1 okw ok2 ok3
      have zl : zs.length = ln := by omega
      have hwr : IntKind.u64.wrap (IntKind.u64.wrap x * 2 ^ q) = y := by rw [wrap_u64 bx0 (by omega), hy, wrap_u64 p0 (by omega)]
      have HWR := Lib.hid hwr
      have hset := hblk.set (wh + ln) ((c + y) % 4294967296)
      have eset : (List.replicate wh 0 ++ zs ++ List.replicate (cp - (wh + ln)) 0).set (wh + ln) ((c + y) % 4294967296) = List.replicate wh 0 ++ (zs ++ [(c + y) % 4294967296]) ++ List.replicate (cp - (wh + (ln + 1))) 0 := by
        rw [set_mid _ _ _ _ (by simp [zl]) (by omega), List.append_assoc (List.replicate wh 0) zs]; rfl
      obtain ⟨zz, hzz⟩ : ∃ zz, List.replicate wh 0 ++ zs ++ List.replicate (cp - (wh + ln)) 0 = zz := ⟨_, rfl⟩
      have hzl : zz.length = cp := by rw [← hzz]; simp [zl]; omega
      rw [hzz] at hblk eset
      have c1 := q1.cell
      have c3 := q3.cell
      have bX : Boxed X w.heap.size 3 (.int .i64 (q : Int)) := (hB.block w.heap.size (by omega)).trans bQ
      have c0 := bX.cell
      have hsX := hB.size
      have es : shlOf q ys ((pre ++ [(⟨k, hk⟩ : Fin (trimN ys ys.length))]).map Fin.val) = (zs ++ [(c + y) % 4294967296], (c + y) / 4294967296) := by
        rw [List.map_append, List.map_cons, List.map_nil, shlOf_snoc, hst]
        simp only [shlStep, hxk, hy]
      have fin : ∀ w2 : World, X.drew.grownBy w2 (some (w.heap.size + 1 + 1 + 1)) → w2.heap[w.heap.size + 1 + 1 + 1]? = some (.cells #[.int .u64 ((c + y) / 4294967296)] 145 (0, 0)) →
          KeepsOthers X (((w2.alloc (Obj.cells #[Value.int .u32 ((c + y) % 4294967296)] 63)).setCell ⟨w.heap.size + 1, wh + ln, none⟩ (.int .u32 ((c + y) % 4294967296))).setCell ⟨w.heap.size + 1 + 1, 0, none⟩ (.slice (some ⟨w.heap.size + 1, 0, none⟩) (wh + ln + 1) cp)) ∧ Below (w.heap.size + 1) X (((w2.alloc (Obj.cells #[Value.int .u32 ((c + y) % 4294967296)] 63)).setCell ⟨w.heap.size + 1, wh + ln, none⟩ (.int .u32 ((c + y) % 4294967296))).setCell ⟨w.heap.size + 1 + 1, 0, none⟩ (.slice (some ⟨w.heap.size + 1, 0, none⟩) (wh + ln + 1) cp)) ∧
          ((((Blk (((w2.alloc (Obj.cells #[Value.int .u32 ((c + y) % 4294967296)] 63)).setCell ⟨w.heap.size + 1, wh + ln, none⟩ (.int .u32 ((c + y) % 4294967296))).setCell ⟨w.heap.size + 1 + 1, 0, none⟩ (.slice (some ⟨w.heap.size + 1, 0, none⟩) (wh + ln + 1) cp)) (w.heap.size + 1) (List.replicate wh 0 ++ (shlOf q ys ((pre ++ [(⟨k, hk⟩ : Fin (trimN ys ys.length))]).map Fin.val)).1 ++ List.replicate (cp - (wh + (pre ++ [(⟨k, hk⟩ : Fin (trimN ys ys.length))]).length)) 0) ∧
            Boxed (((w2.alloc (Obj.cells #[Value.int .u32 ((c + y) % 4294967296)] 63)).setCell ⟨w.heap.size + 1, wh + ln, none⟩ (.int .u32 ((c + y) % 4294967296))).setCell ⟨w.heap.size + 1 + 1, 0, none⟩ (.slice (some ⟨w.heap.size + 1, 0, none⟩) (wh + ln + 1) cp)) (w.heap.size + 1 + 1) 56 (.slice (some ⟨w.heap.size + 1, 0, none⟩) (wh + (pre ++ [(⟨k, hk⟩ : Fin (trimN ys ys.length))]).length) cp)) ∧
            Boxed (((w2.alloc (Obj.cells #[Value.int .u32 ((c + y) % 4294967296)] 63)).setCell ⟨w.heap.size + 1, wh + ln, none⟩ (.int .u32 ((c + y) % 4294967296))).setCell ⟨w.heap.size + 1 + 1, 0, none⟩ (.slice (some ⟨w.heap.size + 1, 0, none⟩) (wh + ln + 1) cp)) (w.heap.size + 1 + 1 + 1) 145 (.int .u64 (shlOf q ys ((pre ++ [(⟨k, hk⟩ : Fin (trimN ys ys.length))]).map Fin.val)).2)) ∧
            Boxed (((w2.alloc (Obj.cells #[Value.int .u32 ((c + y) % 4294967296)] 63)).setCell ⟨w.heap.size + 1, wh + ln, none⟩ (.int .u32 ((c + y) % 4294967296))).setCell ⟨w.heap.size + 1 + 1, 0, none⟩ (.slice (some ⟨w.heap.size + 1, 0, none⟩) (wh + ln + 1) cp)) (w.heap.size + 1 + 1 + 1 + 1) 182 (Value.func (.func 161) #[] #[.pointer (some ⟨w.heap.size + 1 + 1 + 1, 0, none⟩)])) ∧ Below (w.heap.size + 1) V (((w2.alloc (Obj.cells #[Value.int .u32 ((c + y) % 4294967296)] 63)).setCell ⟨w.heap.size + 1, wh + ln, none⟩ (.int .u32 ((c + y) % 4294967296))).setCell ⟨w.heap.size + 1 + 1, 0, none⟩ (.slice (some ⟨w.heap.size + 1, 0, none⟩) (wh + ln + 1) cp))) := fun w2 hgr hcar => by
        have hko : KeepsOthers X w2 := (KeepsOthers.drew X).trans (KeepsOthers.of_grownBy hgr (fun j o ej hj => by cases ej; rw [show X.drew.heap[w.heap.size + 1 + 1 + 1]? = _ from q2] at hj; cases hj; rfl))
        have hbo : Below (w.heap.size + 1) X w2 := (Below.refl _ X).drew.grown hgr (by have := hgr.size; show w.heap.size + 1 ≤ X.heap.size; omega) (fun j ej => by cases ej; omega)
        have hsz2 : X.heap.size ≤ w2.heap.size := hgr.size
        have hbo5 : Below (w.heap.size + 1) X (((w2.alloc (Obj.cells #[Value.int .u32 ((c + y) % 4294967296)] 63)).setCell ⟨w.heap.size + 1, wh + ln, none⟩ (.int .u32 ((c + y) % 4294967296))).setCell ⟨w.heap.size + 1 + 1, 0, none⟩ (.slice (some ⟨w.heap.size + 1, 0, none⟩) (wh + ln + 1) cp)) := ((hbo.alloc (by omega) _).setCell (p := ⟨w.heap.size + 1, wh + ln, none⟩) (Nat.le_refl _) _).setCell (p := ⟨w.heap.size + 1 + 1, 0, none⟩) (by simp <;> omega) _
        refine ⟨((hko.trans (KeepsOthers.alloc _ _)).trans (KeepsOthers.setCell _ _ _)).trans (KeepsOthers.setCell _ _ _), hbo5, ?_⟩
        have hb3 : Blk (w2.alloc (Obj.cells #[Value.int .u32 ((c + y) % 4294967296)] 63)) (w.heap.size + 1) zz := (Blk.grown (w := X.drew) hblk hgr (by simp <;> omega)).alloc _
        have hb4 := hb3.set (wh + ln) ((c + y) % 4294967296)
        rw [eset] at hb4
        have b7 : Boxed ((w2.alloc (Obj.cells #[Value.int .u32 ((c + y) % 4294967296)] 63)).setCell ⟨w.heap.size + 1, wh + ln, none⟩ (.int .u32 ((c + y) % 4294967296))) (w.heap.size + 1 + 1) 56 (.slice (some ⟨w.heap.size + 1, 0, none⟩) (wh + ln) cp) := Boxed.far ((Boxed.kept (W := X.drew) q1 hgr (by simp <;> omega)).alloc _) (by simp <;> omega) _
        rw [es]
        have el : (pre ++ [(⟨k, hk⟩ : Fin (trimN ys ys.length))]).length = ln + 1 := by simp [hln]
        rw [el]
        refine ⟨⟨⟨⟨?_, Boxed.set _ b7⟩, ?_⟩, ?_⟩, hB.trans hbo5⟩
        · exact (Below.heap_setCell _ _ _ _ (by simp <;> omega)).trans hb4
        · exact Boxed.far (Boxed.far (Boxed.alloc hcar _) (by simp <;> omega) _) (by simp <;> omega) _
        · exact Boxed.far (Boxed.far (Boxed.alloc (Boxed.kept (W := X.drew) q3 hgr (by simp <;> omega)) _) (by simp <;> omega) _) (by simp <;> omega) _
      have FIN := Lib.hid fin
      have HX := Lib.hid hxk
      have HY := Lib.hid hy
      have HS := Lib.hid hst
      clear fin hxk hxk2 hy hst hset eset hzz es hwr
      refine wpIn_block ?_
      refine region_round (fun X' => X'.cell? ⟨w.heap.size + 1 + 1 + 1 + 1, 0, none⟩ = some (Value.func (.func 161) #[] #[.pointer (some ⟨w.heap.size + 1 + 1 + 1, 0, none⟩)]) ∧ X'.cell? ⟨w.heap.size, 0, none⟩ = some (.int .i64 (q : Int)))
        (by kernel_rfl) (by kernel_rfl) (by rintro ⟨a', w', h⟩; exact h) ⟨c3, c0⟩ (fun hHeld => ?_)
      refine wpAnyH_take (i := 1) (v := ?va1) rfl (by kernel_rfl) (by kernel_rfl) (by kernel_rfl) (fun _ _ _ h => h) (Or.inl ⟨by rfl, ?ha1⟩) (by assumption) ?ra1
      case ha1 =>
        intro w hSw
        try dsimp only at hSw
        go_simp
        try with_reducible rfl
      try simp only [Act.put, List.setIfInBounds_toArray, List.set_cons_zero, List.set_cons_succ]
      refine wpAnyH_take (i := 2) (v := ?va2) rfl (by kernel_rfl) (by kernel_rfl) (by kernel_rfl) (fun _ _ _ h => h) (Or.inl ⟨by rfl, ?ha2⟩) (by assumption) ?ra2
      case ha2 =>
        intro w hSw
        try dsimp only at hSw
        go_simp
        try with_reducible rfl
      try simp only [Act.put, List.setIfInBounds_toArray, List.set_cons_zero, List.set_cons_succ]
      refine wpAnyH_take (i := 3) (v := ?va3) rfl (by kernel_rfl) (by kernel_rfl) (by kernel_rfl) (fun _ _ _ h => h) (Or.inl ⟨by rfl, ?ha3⟩) (by assumption) ?ra3
      case ha3 =>
        intro w hSw
        try dsimp only at hSw
        go_simp
        try with_reducible rfl
      try simp only [Act.put, List.setIfInBounds_toArray, List.set_cons_zero, List.set_cons_succ]
      refine wpAnyH_take (i := 4) (v := ?va4) rfl (by kernel_rfl) (by kernel_rfl) (by kernel_rfl) (fun _ _ _ h => h) (Or.inl ⟨by rfl, ?ha4⟩) (by assumption) ?ra4
      case ha4 =>
        intro w hSw
        try dsimp only at hSw
        go_simp
        try with_reducible rfl
      try simp only [Act.put, List.setIfInBounds_toArray, List.set_cons_zero, List.set_cons_succ]
      refine wpAnyH_take (i := 5) (v := ?va5) rfl (by kernel_rfl) (by kernel_rfl) (by kernel_rfl) (fun _ _ _ h => h) (Or.inl ⟨by rfl, ?ha5⟩) (by assumption) ?ra5
      case ha5 =>
        intro w hSw
        try dsimp only at hSw
        go_simp
        try with_reducible rfl
      try simp only [Act.put, List.setIfInBounds_toArray, List.set_cons_zero, List.set_cons_succ]
      rw [HWR.out]
      refine wpAnyH_ready (rs := [0, 6]) (by kernel_rfl) (by simp) ?_
      refine AllReadyH.cons rfl (fun K hK => ?x1) (AllReadyH.cons rfl (fun K hK => ?y1) AllReadyH.nil)
      case x1 =>
        go_simp
        refine hK.out _ _ ?kc2 (fun hHeld => ?mc2)
        case kc2 =>
          try dsimp only
          exact hHeld
        clear hK K
        try simp only [Act.put, List.setIfInBounds_toArray, List.set_cons_zero, List.set_cons_succ]
        refine wpAnyH_ready (rs := [6]) (by kernel_rfl) (by simp) ?_
        refine AllReadyH.cons rfl (fun K hK => ?s2) AllReadyH.nil
        go_simp
        refine hK.out _ _ ?kc3 (fun hHeld => ?mc3)
        case kc3 =>
          try dsimp only
          simp [*, World.cell?_alloc_some]
        clear hK K
        try simp only [Act.put, List.setIfInBounds_toArray, List.set_cons_zero, List.set_cons_succ]
        refine wpAnyH_ready (rs := [7]) (by kernel_rfl) (by simp) ?_
        refine AllReadyH.cons rfl (fun K hK => ?s3) AllReadyH.nil
        go_simp
        refine (carry1 c y (w.heap.size + 1 + 1 + 1) X.drew ok2 p0 (by omega) q2).mono ?_
        rintro e w2 ⟨rfl, hcar2, hgr⟩
        go_simp
        refine hK.out _ _ ?kc4 (fun hHeld => ?mc4)
        case kc4 =>
          try dsimp only
          exact ⟨hgr.cell c3 (by simp <;> omega), hgr.cell c0 (by simp <;> omega)⟩
        clear hK K
        try simp only [Act.put, List.setIfInBounds_toArray, List.set_cons_zero, List.set_cons_succ]
        refine wpAnyH_ready (rs := [8]) (by kernel_rfl) (by simp) ?_
        refine AllReadyH.cons rfl (fun K hK => ?s4) AllReadyH.nil
        go_simp
        refine hK.out _ _ ?kc5 (fun hHeld => ?mc5)
        case kc5 =>
          try dsimp only
          simp [*, World.cell?_alloc_some]
        clear hK K
        try simp only [Act.put, List.setIfInBounds_toArray, List.set_cons_zero, List.set_cons_succ]
        refine wpAnyH_ready (rs := [9]) (by kernel_rfl) (by simp) ?_
        refine AllReadyH.cons rfl (fun K hK => ?s5) AllReadyH.nil
        have hblk3 : Blk (w2.alloc (Obj.cells #[Value.int .u32 ((c + y) % 4294967296)] 63)) (w.heap.size + 1) zz := (Blk.grown (w := X.drew) hblk hgr (by simp <;> omega)).alloc _
        refine step_append_limb rfl (.tmp 40) (.tmp 48) rfl (w.heap.size + 1) (wh + ln) cp w2.heap.size zz ((c + y) % 4294967296) hblk3 hzl (by omega) rfl rfl (Boxed.new w2 63 (.int .u32 ((c + y) % 4294967296))).cell ?_
        refine hK.out _ _ ?kc6 (fun hHeld => ?mc6)
        case kc6 =>
          try dsimp only
          exact ⟨(World.cell?_setCell_far _ _ _ _ (by simp <;> omega)).trans hHeld.1, (World.cell?_setCell_far _ _ _ _ (by simp <;> omega)).trans hHeld.2⟩
        clear hK K
        try simp only [Act.put, List.setIfInBounds_toArray, List.set_cons_zero, List.set_cons_succ]
        refine wpAnyH_ready (rs := [10]) (by kernel_rfl) (by simp) ?_
        refine AllReadyH.cons rfl (fun K hK => ?s6) AllReadyH.nil
        have b7 : Boxed ((w2.alloc (Obj.cells #[Value.int .u32 ((c + y) % 4294967296)] 63)).setCell ⟨w.heap.size + 1, wh + ln, none⟩ (.int .u32 ((c + y) % 4294967296))) (w.heap.size + 1 + 1) 56 (Value.slice (some ⟨w.heap.size + 1, 0, none⟩) (wh + ln) cp) := Boxed.far ((Boxed.kept (W := X.drew) q1 hgr (by simp <;> omega)).alloc _) (by simp <;> omega) _
        have b7c := b7.cell
        have b7f := b7.frozen
        go_simp
        refine hK.out _ _ ?kc7 (fun hHeld => ?mc7)
        case kc7 =>
          try dsimp only
          exact ⟨(World.cell?_setCell_far _ _ _ _ (by simp <;> omega)).trans hHeld.1, (World.cell?_setCell_far _ _ _ _ (by simp <;> omega)).trans hHeld.2⟩
        clear hK K
        try simp only [Act.put, List.setIfInBounds_toArray, List.set_cons_zero, List.set_cons_succ]
        refine wpAnyH_done (by kernel_rfl) ?_ _
        exact FIN.out w2 hgr hcar2
      case y1 =>
        go_simp
        refine hK.out _ _ ?kc8 (fun hHeld => ?mc8)
        case kc8 =>
          try dsimp only
          simp [*, World.cell?_alloc_some]
        clear hK K
        try simp only [Act.put, List.setIfInBounds_toArray, List.set_cons_zero, List.set_cons_succ]
        refine wpAnyH_ready (rs := [0, 7]) (by kernel_rfl) (by simp) ?_
        refine AllReadyH.cons rfl (fun K hK => ?x9) (AllReadyH.cons rfl (fun K hK => ?y9) AllReadyH.nil)
        case x9 =>
          have c1a : (X.alloc (Obj.cells #[Value.int .u64 y] 145)).drew.cell? ⟨w.heap.size + 1 + 1, 0, none⟩ = some (Value.slice (some ⟨w.heap.size + 1, 0, none⟩) (wh + ln) cp) := (Boxed.alloc q1 _).cell
          go_simp
          refine hK.out _ _ ?kc10 (fun hHeld => ?mc10)
          case kc10 =>
            try dsimp only
            exact hHeld
          clear hK K
          try simp only [Act.put, List.setIfInBounds_toArray, List.set_cons_zero, List.set_cons_succ]
          refine wpAnyH_ready (rs := [7]) (by kernel_rfl) (by simp) ?_
          refine AllReadyH.cons rfl (fun K hK => ?s10) AllReadyH.nil
          go_simp
          refine (carry1 c y (w.heap.size + 1 + 1 + 1) X.drew ok2 p0 (by omega) q2).mono ?_
          rintro e w2 ⟨rfl, hcar2, hgr⟩
          go_simp
          refine hK.out _ _ ?kc11 (fun hHeld => ?mc11)
          case kc11 =>
            try dsimp only
            exact ⟨hgr.cell c3 (by simp <;> omega), hgr.cell c0 (by simp <;> omega)⟩
          clear hK K
          try simp only [Act.put, List.setIfInBounds_toArray, List.set_cons_zero, List.set_cons_succ]
          refine wpAnyH_ready (rs := [8]) (by kernel_rfl) (by simp) ?_
          refine AllReadyH.cons rfl (fun K hK => ?s11) AllReadyH.nil
          go_simp
          refine hK.out _ _ ?kc12 (fun hHeld => ?mc12)
          case kc12 =>
            try dsimp only
            simp [*, World.cell?_alloc_some]
          clear hK K
          try simp only [Act.put, List.setIfInBounds_toArray, List.set_cons_zero, List.set_cons_succ]
          refine wpAnyH_ready (rs := [9]) (by kernel_rfl) (by simp) ?_
          refine AllReadyH.cons rfl (fun K hK => ?s12) AllReadyH.nil
          have hblk3 : Blk (w2.alloc (Obj.cells #[Value.int .u32 ((c + y) % 4294967296)] 63)) (w.heap.size + 1) zz := (Blk.grown (w := X.drew) hblk hgr (by simp <;> omega)).alloc _
          refine step_append_limb rfl (.tmp 40) (.tmp 48) rfl (w.heap.size + 1) (wh + ln) cp w2.heap.size zz ((c + y) % 4294967296) hblk3 hzl (by omega) rfl rfl (Boxed.new w2 63 (.int .u32 ((c + y) % 4294967296))).cell ?_
          refine hK.out _ _ ?kc13 (fun hHeld => ?mc13)
          case kc13 =>
            try dsimp only
            exact ⟨(World.cell?_setCell_far _ _ _ _ (by simp <;> omega)).trans hHeld.1, (World.cell?_setCell_far _ _ _ _ (by simp <;> omega)).trans hHeld.2⟩
          clear hK K
          try simp only [Act.put, List.setIfInBounds_toArray, List.set_cons_zero, List.set_cons_succ]
          refine wpAnyH_ready (rs := [10]) (by kernel_rfl) (by simp) ?_
          refine AllReadyH.cons rfl (fun K hK => ?s13) AllReadyH.nil
          have b7 : Boxed ((w2.alloc (Obj.cells #[Value.int .u32 ((c + y) % 4294967296)] 63)).setCell ⟨w.heap.size + 1, wh + ln, none⟩ (.int .u32 ((c + y) % 4294967296))) (w.heap.size + 1 + 1) 56 (Value.slice (some ⟨w.heap.size + 1, 0, none⟩) (wh + ln) cp) := Boxed.far ((Boxed.kept (W := X.drew) q1 hgr (by simp <;> omega)).alloc _) (by simp <;> omega) _
          have b7c := b7.cell
          have b7f := b7.frozen
          go_simp
          refine hK.out _ _ ?kc14 (fun hHeld => ?mc14)
          case kc14 =>
            try dsimp only
            exact ⟨(World.cell?_setCell_far _ _ _ _ (by simp <;> omega)).trans hHeld.1, (World.cell?_setCell_far _ _ _ _ (by simp <;> omega)).trans hHeld.2⟩
          clear hK K
          try simp only [Act.put, List.setIfInBounds_toArray, List.set_cons_zero, List.set_cons_succ]
          refine wpAnyH_done (by kernel_rfl) ?_ _
          exact FIN.out w2 hgr hcar2
        case y9 =>
          go_simp
          refine (carry1 c y (w.heap.size + 1 + 1 + 1) X.drew ok2 p0 (by omega) q2).mono ?_
          rintro e w2 ⟨rfl, hcar2, hgr⟩
          go_simp
          refine hK.out _ _ ?kc15 (fun hHeld => ?mc15)
          case kc15 =>
            try dsimp only
            exact ⟨hgr.cell c3 (by simp <;> omega), hgr.cell c0 (by simp <;> omega)⟩
          clear hK K
          try simp only [Act.put, List.setIfInBounds_toArray, List.set_cons_zero, List.set_cons_succ]
          refine wpAnyH_ready (rs := [0, 8]) (by kernel_rfl) (by simp) ?_
          refine AllReadyH.cons rfl (fun K hK => ?x16) (AllReadyH.cons rfl (fun K hK => ?y16) AllReadyH.nil)
          case x16 =>
            have c1a := hgr.cell c1 (by simp <;> omega)
            go_simp
            refine hK.out _ _ ?kc17 (fun hHeld => ?mc17)
            case kc17 =>
              try dsimp only
              exact hHeld
            clear hK K
            try simp only [Act.put, List.setIfInBounds_toArray, List.set_cons_zero, List.set_cons_succ]
            refine wpAnyH_ready (rs := [8]) (by kernel_rfl) (by simp) ?_
            refine AllReadyH.cons rfl (fun K hK => ?s17) AllReadyH.nil
            go_simp
            refine hK.out _ _ ?kc18 (fun hHeld => ?mc18)
            case kc18 =>
              try dsimp only
              simp [*, World.cell?_alloc_some]
            clear hK K
            try simp only [Act.put, List.setIfInBounds_toArray, List.set_cons_zero, List.set_cons_succ]
            refine wpAnyH_ready (rs := [9]) (by kernel_rfl) (by simp) ?_
            refine AllReadyH.cons rfl (fun K hK => ?s18) AllReadyH.nil
            have hblk3 : Blk (w2.alloc (Obj.cells #[Value.int .u32 ((c + y) % 4294967296)] 63)) (w.heap.size + 1) zz := (Blk.grown (w := X.drew) hblk hgr (by simp <;> omega)).alloc _
            refine step_append_limb rfl (.tmp 40) (.tmp 48) rfl (w.heap.size + 1) (wh + ln) cp w2.heap.size zz ((c + y) % 4294967296) hblk3 hzl (by omega) rfl rfl (Boxed.new w2 63 (.int .u32 ((c + y) % 4294967296))).cell ?_
            refine hK.out _ _ ?kc19 (fun hHeld => ?mc19)
            case kc19 =>
              try dsimp only
              exact ⟨(World.cell?_setCell_far _ _ _ _ (by simp <;> omega)).trans hHeld.1, (World.cell?_setCell_far _ _ _ _ (by simp <;> omega)).trans hHeld.2⟩
            clear hK K
            try simp only [Act.put, List.setIfInBounds_toArray, List.set_cons_zero, List.set_cons_succ]
            refine wpAnyH_ready (rs := [10]) (by kernel_rfl) (by simp) ?_
            refine AllReadyH.cons rfl (fun K hK => ?s19) AllReadyH.nil
            have b7 : Boxed ((w2.alloc (Obj.cells #[Value.int .u32 ((c + y) % 4294967296)] 63)).setCell ⟨w.heap.size + 1, wh + ln, none⟩ (.int .u32 ((c + y) % 4294967296))) (w.heap.size + 1 + 1) 56 (Value.slice (some ⟨w.heap.size + 1, 0, none⟩) (wh + ln) cp) := Boxed.far ((Boxed.kept (W := X.drew) q1 hgr (by simp <;> omega)).alloc _) (by simp <;> omega) _
            have b7c := b7.cell
            have b7f := b7.frozen
            go_simp
            refine hK.out _ _ ?kc20 (fun hHeld => ?mc20)
            case kc20 =>
              try dsimp only
              exact ⟨(World.cell?_setCell_far _ _ _ _ (by simp <;> omega)).trans hHeld.1, (World.cell?_setCell_far _ _ _ _ (by simp <;> omega)).trans hHeld.2⟩
            clear hK K
            try simp only [Act.put, List.setIfInBounds_toArray, List.set_cons_zero, List.set_cons_succ]
            refine wpAnyH_done (by kernel_rfl) ?_ _
            exact FIN.out w2 hgr hcar2
          case y16 =>
            go_simp
            refine hK.out _ _ ?kc21 (fun hHeld => ?mc21)
            case kc21 =>
              try dsimp only
              simp [*, World.cell?_alloc_some]
            clear hK K
            try simp only [Act.put, List.setIfInBounds_toArray, List.set_cons_zero, List.set_cons_succ]
            refine wpAnyH_ready (rs := [0]) (by kernel_rfl) (by simp) ?_
            refine AllReadyH.cons rfl (fun K hK => ?s21) AllReadyH.nil
            have c1a : (w2.alloc (Obj.cells #[Value.int .u32 ((c + y) % 4294967296)] 63)).cell? ⟨w.heap.size + 1 + 1, 0, none⟩ = some (Value.slice (some ⟨w.heap.size + 1, 0, none⟩) (wh + ln) cp) := (Boxed.alloc (Boxed.kept (W := X.drew) q1 hgr (by simp <;> omega)) _).cell
            go_simp
            refine hK.out _ _ ?kc22 (fun hHeld => ?mc22)
            case kc22 =>
              try dsimp only
              exact hHeld
            clear hK K
            try simp only [Act.put, List.setIfInBounds_toArray, List.set_cons_zero, List.set_cons_succ]
            refine wpAnyH_ready (rs := [9]) (by kernel_rfl) (by simp) ?_
            refine AllReadyH.cons rfl (fun K hK => ?s22) AllReadyH.nil
            have hblk3 : Blk (w2.alloc (Obj.cells #[Value.int .u32 ((c + y) % 4294967296)] 63)) (w.heap.size + 1) zz := (Blk.grown (w := X.drew) hblk hgr (by simp <;> omega)).alloc _
            refine step_append_limb rfl (.tmp 40) (.tmp 48) rfl (w.heap.size + 1) (wh + ln) cp w2.heap.size zz ((c + y) % 4294967296) hblk3 hzl (by omega) rfl rfl (Boxed.new w2 63 (.int .u32 ((c + y) % 4294967296))).cell ?_
            refine hK.out _ _ ?kc23 (fun hHeld => ?mc23)
            case kc23 =>
              try dsimp only
              exact ⟨(World.cell?_setCell_far _ _ _ _ (by simp <;> omega)).trans hHeld.1, (World.cell?_setCell_far _ _ _ _ (by simp <;> omega)).trans hHeld.2⟩
            clear hK K
            try simp only [Act.put, List.setIfInBounds_toArray, List.set_cons_zero, List.set_cons_succ]
            refine wpAnyH_ready (rs := [10]) (by kernel_rfl) (by simp) ?_
            refine AllReadyH.cons rfl (fun K hK => ?s23) AllReadyH.nil
            have b7 : Boxed ((w2.alloc (Obj.cells #[Value.int .u32 ((c + y) % 4294967296)] 63)).setCell ⟨w.heap.size + 1, wh + ln, none⟩ (.int .u32 ((c + y) % 4294967296))) (w.heap.size + 1 + 1) 56 (Value.slice (some ⟨w.heap.size + 1, 0, none⟩) (wh + ln) cp) := Boxed.far ((Boxed.kept (W := X.drew) q1 hgr (by simp <;> omega)).alloc _) (by simp <;> omega) _
            have b7c := b7.cell
            have b7f := b7.frozen
            go_simp
            refine hK.out _ _ ?kc24 (fun hHeld => ?mc24)
            case kc24 =>
              try dsimp only
              exact ⟨(World.cell?_setCell_far _ _ _ _ (by simp <;> omega)).trans hHeld.1, (World.cell?_setCell_far _ _ _ _ (by simp <;> omega)).trans hHeld.2⟩
            clear hK K
            try simp only [Act.put, List.setIfInBounds_toArray, List.set_cons_zero, List.set_cons_succ]
            refine wpAnyH_done (by kernel_rfl) ?_ _
            exact FIN.out w2 hgr hcar2
    case done =>
      rintro D ks X hD hup ⟨⟨⟨⟨hblk, q1⟩, q2⟩, q3⟩, hB⟩ hK
      have hkl : ks.length = ys.length := by have := hup.length; omega
      obtain ⟨ok1, okw, ok2, ok3⟩ := shlOf_ok q ys hwt hq (ks.map Fin.val)
      have hv := val_shlOf q ys ys.length
      rw [show ks.map Fin.val = List.range ys.length from by rw [hup, htr]] at ok1 okw ok2 ok3 hblk q2
      rw [hkl] at hblk q1
      obtain ⟨st, hst⟩ : ∃ st, shlOf q ys (List.range ys.length) = st := ⟨_, rfl⟩
      rw [hst] at hblk q2 ok1 okw ok2 ok3 hv
      obtain ⟨zs, c⟩ := st
      simp only [List.take_length] at hv
      simp only at hblk q2 okw ok2 ok3
      obtain ⟨zl, hv⟩ := hv
      have hc := (shl_part (x := 0) (by omega) hq).2.2
      have hzl : (List.replicate wh 0 ++ zs ++ List.replicate (cp - (wh + ys.length)) 0).length = cp := by simp [zl]; omega
      have eset : (List.replicate wh 0 ++ zs ++ List.replicate (cp - (wh + ys.length)) 0).set (wh + ys.length) (c % 4294967296) = List.replicate wh 0 ++ zs ++ [c % 4294967296] := by
        rw [set_mid _ _ _ _ (by simp [zl]) (by omega), show cp - (wh + ys.length + 1) = 0 from by omega]; simp
      obtain ⟨zz, hzz⟩ : ∃ zz, List.replicate wh 0 ++ zs ++ List.replicate (cp - (wh + ys.length)) 0 = zz := ⟨_, rfl⟩
      rw [hzz] at hblk hzl eset
      have hL : val (List.replicate wh 0 ++ zs ++ [c % 4294967296]) = 4294967296 ^ wh * (val ys * 2 ^ q) := by
        rw [← hv, val_append, val_append, val_zeros, List.length_append, List.length_replicate, zl, Int.pow_add, Int.emod_eq_of_lt ok2 (by omega), Int.mul_add]
        simp only [val, Int.mul_zero, Int.add_zero, Int.zero_add, Int.mul_assoc]
      have wL : Wf (List.replicate wh 0 ++ zs ++ [c % 4294967296]) := ((Wf.zeros wh).append okw).append (wf1 (by omega))
      have c1 := q1.cell
      have c3 := q3.cell
      have num : ∀ w2 : World, X.drew.grownBy w2 (some (w.heap.size + 1 + 1 + 1)) → Num w.heap.size ((w2.alloc (Obj.cells #[Value.int .u32 (c % 4294967296)] 63)).setCell ⟨w.heap.size + 1, wh + ys.length, none⟩ (.int .u32 (c % 4294967296))) (.slice (some ⟨w.heap.size + 1, 0, none⟩) (wh + ys.length + 1) cp) (List.replicate wh 0 ++ zs ++ [c % 4294967296]) ∧ Below w.heap.size w ((w2.alloc (Obj.cells #[Value.int .u32 (c % 4294967296)] 63)).setCell ⟨w.heap.size + 1, wh + ys.length, none⟩ (.int .u32 (c % 4294967296))) ∧ KeepsOthers X ((w2.alloc (Obj.cells #[Value.int .u32 (c % 4294967296)] 63)).setCell ⟨w.heap.size + 1, wh + ys.length, none⟩ (.int .u32 (c % 4294967296))) := fun w2 hgr => by
        have hb3 : Blk (w2.alloc (Obj.cells #[Value.int .u32 (c % 4294967296)] 63)) (w.heap.size + 1) zz := (Blk.grown (w := X.drew) hblk hgr (by simp <;> omega)).alloc _
        have hb4 := hb3.set (wh + ys.length) (c % 4294967296)
        have hl4 : (zz.set (wh + ys.length) (c % 4294967296)).length = cp := by rw [List.length_set]; exact hzl
        have h := Num.ofBlk (base := w.heap.size) hb4 (by omega) (wh + ys.length + 1) (by omega) (by rw [hl4]; unfold maxLen; omega)
        rw [hl4, List.take_of_length_le (by omega), eset] at h
        have hsz2 : X.heap.size ≤ w2.heap.size := hgr.size
        have hsX := hB.size
        have hko : KeepsOthers X w2 := (KeepsOthers.drew X).trans (KeepsOthers.of_grownBy hgr (fun j o ej hj => by cases ej; rw [show X.drew.heap[w.heap.size + 1 + 1 + 1]? = _ from q2] at hj; cases hj; rfl))
        have hbo : Below (w.heap.size + 1) X w2 := (Below.refl _ X).drew.grown hgr (by show w.heap.size + 1 ≤ X.heap.size; omega) (fun j ej => by cases ej; omega)
        refine ⟨h, (hV.trans (hB.mono (by omega))).trans (Below.mono ((hbo.alloc (by omega) _).setCell (p := ⟨w.heap.size + 1, wh + ys.length, none⟩) (Nat.le_refl _) _) (by omega)), (hko.trans (KeepsOthers.alloc _ _)).trans (KeepsOthers.setCell _ _ _)⟩
      have NUM := Lib.hid num
      have HV := Lib.hid hv
      have HLL := Lib.hid hL
      clear num hv hL eset hzz hst
      gi_wp2_with fail
      refine region_wide (fun X' => X'.cell? ⟨w.heap.size + 1 + 1 + 1 + 1, 0, none⟩ = some (Value.func (.func 161) #[] #[.pointer (some ⟨w.heap.size + 1 + 1 + 1, 0, none⟩)]) ∧ X'.cell? ⟨w.heap.size + 1 + 1, 0, none⟩ = some (.slice (some ⟨w.heap.size + 1, 0, none⟩) (wh + ys.length) cp))
        (by kernel_rfl) (by kernel_rfl) ⟨c3, c1⟩ (fun hHeld => ?_)
      refine wpAnyH_take (i := 0) (v := ?ve0) rfl (by kernel_rfl) (by kernel_rfl) (by kernel_rfl) (fun _ _ _ h => h) (Or.inl ⟨by rfl, ?he0⟩) (by assumption) ?re0
      case he0 =>
        intro w hSw
        try dsimp only at hSw
        go_simp
        try with_reducible rfl
      try simp only [Act.put, List.setIfInBounds_toArray, List.set_cons_zero, List.set_cons_succ]
      refine wpAnyH_take (i := 1) (v := ?ve1) rfl (by kernel_rfl) (by kernel_rfl) (by kernel_rfl) (fun _ _ _ h => h) (Or.inl ⟨by rfl, ?he1⟩) (by assumption) ?re1
      case he1 =>
        intro w hSw
        try dsimp only at hSw
        go_simp
        try with_reducible rfl
      try simp only [Act.put, List.setIfInBounds_toArray, List.set_cons_zero, List.set_cons_succ]
      refine wpAnyH_ready (rs := [2]) (by kernel_rfl) (by simp) ?_
      refine AllReadyH.cons rfl (fun K hK => ?sd25) AllReadyH.nil
      go_simp
      refine (carry0 c (w.heap.size + 1 + 1 + 1) X.drew ok2 (by omega) q2).mono ?_
      rintro e w2 ⟨rfl, hcar2, hgr⟩
      go_simp
      refine hK.out _ _ ?kd25 (fun hHeld => ?md25)
      case kd25 =>
        try dsimp only
        exact ⟨hgr.cell c3 (by simp <;> omega), hgr.cell c1 (by simp <;> omega)⟩
      clear hK K
      try simp only [Act.put, List.setIfInBounds_toArray, List.set_cons_zero, List.set_cons_succ]
      refine wpAnyH_ready (rs := [3]) (by kernel_rfl) (by simp) ?_
      refine AllReadyH.cons rfl (fun K hK => ?sd26) AllReadyH.nil
      go_simp
      refine hK.out _ _ ?kd26 (fun hHeld => ?md26)
      case kd26 =>
        try dsimp only
        simp [*, World.cell?_alloc_some]
      clear hK K
      try simp only [Act.put, List.setIfInBounds_toArray, List.set_cons_zero, List.set_cons_succ]
      refine wpAnyH_ready (rs := [4]) (by kernel_rfl) (by simp) ?_
      refine AllReadyH.cons rfl (fun K hK => ?sd27) AllReadyH.nil
      have hblk3 : Blk (w2.alloc (Obj.cells #[Value.int .u32 (c % 4294967296)] 63)) (w.heap.size + 1) zz := (Blk.grown (w := X.drew) hblk hgr (by simp <;> omega)).alloc _
      refine step_append_limb rfl (.tmp 50) (.tmp 53) rfl (w.heap.size + 1) (wh + ys.length) cp w2.heap.size zz (c % 4294967296) hblk3 hzl (by omega) rfl rfl (Boxed.new w2 63 (.int .u32 (c % 4294967296))).cell ?_
      refine hK.out _ _ ?kd27 (fun hHeld => ?md27)
      case kd27 =>
        try dsimp only
        exact ⟨(World.cell?_setCell_far _ _ _ _ (by simp <;> omega)).trans hHeld.1, (World.cell?_setCell_far _ _ _ _ (by simp <;> omega)).trans hHeld.2⟩
      clear hK K
      try simp only [Act.put, List.setIfInBounds_toArray, List.set_cons_zero, List.set_cons_succ]
      refine wpAnyH_ready (rs := [5]) (by kernel_rfl) (by simp) ?_
      refine AllReadyH.cons rfl (fun K hK => ?sd28) AllReadyH.nil
      obtain ⟨hnum, hbl, hko⟩ := NUM.out w2 hgr
      rw [hcp] at hnum
      go_simp
      refine (cut_num hnum).mono ?_
      rintro e w3 ⟨u, rfl, hu, rfl⟩
      go_simp
      refine hK.out _ _ ?kd28 (fun hHeld => ?md28)
      case kd28 =>
        try dsimp only
        exact hHeld
      clear hK K
      try simp only [Act.put, List.setIfInBounds_toArray, List.set_cons_zero, List.set_cons_succ]
      refine wpAnyH_ready (rs := [6]) (by kernel_rfl) (by simp) ?_
      refine AllReadyH.cons rfl (fun K hK => ?sd29) AllReadyH.nil
      go_simp
      refine hK.out _ _ ?kd29 (fun hHeld => ?md29)
      case kd29 =>
        try dsimp only
        exact hHeld
      clear hK K
      try simp only [Act.put, List.setIfInBounds_toArray, List.set_cons_zero, List.set_cons_succ]
      refine wpAnyH_done (by kernel_rfl) ?_ _
      dsimp only [Straight]
      gi_wp2_with fail
      have hK2 := hko.same D _ hK rfl
      clear hnum hblk3 hHeld hgr
      generalize ((w2.alloc (Obj.cells #[Value.int .u32 (c % 4294967296)] 63)).setCell ⟨w.heap.size + 1, wh + ys.length, none⟩ (.int .u32 (c % 4294967296))) = U at *
      refine ⟨by simp, .inl ⟨_, _, rfl, run_takeDeferred hK2, ?_⟩⟩
      refine ⟨_, results_tmp rfl _ _ _, u, trim (List.replicate wh 0 ++ zs ++ [c % 4294967296]), rfl, ⟨?_, wL.trim, trim_full _, by rw [val_trim, HLL.out]⟩, ?_, hbl.trans (belowK_b (w := w) (Nat.le_refl _) U D _ _ (by omega) hK2 rfl rfl)⟩
      · exact ownsRow_putObj hu (.deferred none) hK2 rfl
      · have h := trim_len_le (List.replicate wh 0 ++ zs ++ [c % 4294967296])
        simp only [List.length_append, List.length_replicate, List.length_cons, List.length_nil] at h
        omega
    case stop =>
      rintro D c pre X _ _ h _
      exact h.elim
end
section
open Go.RowKit
/-- a slice of limbs, in a block from lo on, that is not block g -/
def Cellz (lo g : Nat) (w : World) (v : Value) : Prop :=
  ∃ ad n cap, v = .slice ad n cap ∧ n ≤ maxLen ∧ (n = 0 ∨ ∃ b cur, ad = some ⟨b, 0, none⟩ ∧ lo ≤ b ∧ b < g ∧ w.heap[b]? = some (.cells cur 63 (0, 0)) ∧ ∀ k, k < n → ∃ z, cur[k]? = some (.int .u32 z))
theorem Cellz.nil (lo g : Nat) (w : World) : Cellz lo g w (.slice none 0 0) := ⟨none, 0, 0, rfl, by unfold maxLen; omega, .inl rfl⟩
theorem Cellz.later {lo g : Nat} {w w' : World} {v : Value} (h : Cellz lo g w v) (hb : Below g w w') : Cellz lo g w' v := by
  obtain ⟨ad, n, cap, rfl, hm, h⟩ := h
  refine ⟨ad, n, cap, rfl, hm, ?_⟩
  rcases h with h | ⟨b, cur, rfl, h1, h2, h3, h4⟩
  · exact .inl h
  · exact .inr ⟨b, cur, rfl, h1, h2, (hb.block b h2).trans h3, h4⟩
theorem Cellz.mono {lo g g' : Nat} {w : World} {v : Value} (h : Cellz lo g w v) (hg : g ≤ g') : Cellz lo g' w v := by
  obtain ⟨ad, n, cap, rfl, hm, h⟩ := h
  refine ⟨ad, n, cap, rfl, hm, ?_⟩
  rcases h with h | ⟨b, cur, rfl, h1, h2, h3, h4⟩
  · exact .inl h
  · exact .inr ⟨b, cur, rfl, h1, by omega, h3, h4⟩
theorem Cellz.next {lo : Nat} {w w' : World} {v : Value} (h : Cellz lo w.heap.size w v) (hb : Below w.heap.size w w') : Cellz lo w'.heap.size w' v := (h.later hb).mono hb.size
theorem Cellz.set {lo g : Nat} {w : World} {v : Value} (h : Cellz lo g w v) (b' k' : Nat) (z' : Int) : Cellz lo g (w.setCell ⟨b', k', none⟩ (.int .u32 z')) v := by
  obtain ⟨ad, n, cap, rfl, hm, h⟩ := h
  refine ⟨ad, n, cap, rfl, hm, ?_⟩
  rcases h with h | ⟨b, cur, rfl, h1, h2, h3, h4⟩
  · exact .inl h
  · by_cases e : b = b'
    · subst e
      refine .inr ⟨b, _, rfl, h1, h2, heap_setCell_same w b k' cur 63 (.int .u32 z') h3, fun k hk => ?_⟩
      obtain ⟨z, hz⟩ := h4 k hk
      rw [Array.getElem?_setIfInBounds]
      by_cases ek : k' = k
      · subst ek
        rw [if_pos rfl, if_pos (Array.getElem?_eq_some_iff.1 hz).1]
        exact ⟨z', rfl⟩
      · rw [if_neg ek]
        exact ⟨z, hz⟩
    · exact .inr ⟨b, cur, rfl, h1, h2, (Below.heap_setCell _ _ _ _ e).trans h3, h4⟩
end
section
open Go.RowKit
set_option linter.unusedVariables false
set_option linter.unusedSimpArgs false
/-- what an estimate is held against: the three highest limbs, what is below them, and the divisor's -/
structure Est (U V high low v1 v2 P U2 V2 : Int) : Prop where
  u : U = high * (4294967296 * P) + low * P + U2
  v : V = v1 * (4294967296 * P) + v2 * P + V2
  p : 1 ≤ P
  u0 : 0 ≤ U2
  u1 : U2 < P
  w0 : 0 ≤ V2
  w1 : V2 < P
  a0 : 2147483648 ≤ v1
  a1 : v1 < 4294967296
  b0 : 0 ≤ v2
  b1 : v2 < 4294967296
  l0 : 0 ≤ low
  l1 : low < 4294967296
  h0 : 0 ≤ high
  lt : U < 4294967296 * V
theorem Est.diff {U V high low v1 v2 P U2 V2 q r : Int} (h : Est U V high low v1 v2 P U2 V2) (hq : q * v1 + r = high) : U - q * V = (r * 4294967296 + low - q * v2) * P + U2 - q * V2 := by
  rw [h.u, h.v, ← hq]
  grind
theorem mul_le_l {a b c : Int} (hc : 0 ≤ c) (h : a ≤ b) : c * a ≤ c * b := Int.mul_le_mul_of_nonneg_left h hc
theorem mul_le_r {a b c : Int} (hc : 0 ≤ c) (h : a ≤ b) : a * c ≤ b * c := Int.mul_le_mul_of_nonneg_right h hc
/-- the high limbs are below those of the divisor and one more -/
theorem Est.high {U V high low v1 v2 P U2 V2 : Int} (h : Est U V high low v1 v2 P U2 V2) : high < (v1 + 1) * 4294967296 := by
  rcases Int.lt_or_le high ((v1 + 1) * 4294967296) with k | k
  · exact k
  · exfalso
    have h1 := mul_le_r (c := 4294967296 * P) (by have := h.p; omega) k
    have h2 : 0 ≤ low * P := Int.mul_nonneg h.l0 (by have := h.p; omega)
    have h3 : v2 * P ≤ 4294967295 * P := mul_le_r (by have := h.p; omega) (by have := h.b1; omega)
    have h4 := h.u; have h5 := h.v; have h6 := h.lt; have h7 := h.w1; have h8 := h.u0
    have e : (v1 + 1) * 4294967296 * (4294967296 * P) = 4294967296 * (v1 * (4294967296 * P)) + 4294967296 * (4294967296 * P) := by grind
    rw [e] at h1
    omega
/-- the first estimate is not too small -/
theorem Est.first {U V high low v1 v2 P U2 V2 : Int} (h : Est U V high low v1 v2 P U2 V2) : U < (high / v1 + 1) * V := by
  have hv : 0 < v1 := by have := h.a0; omega
  have h1 : high < (high / v1 + 1) * v1 := Int.lt_mul_of_ediv_lt hv (by omega)
  have h2 := mul_le_r (a := high + 1) (b := (high / v1 + 1) * v1) (c := 4294967296 * P) (by have := h.p; omega) (by omega)
  have hq : 0 ≤ high / v1 := Int.ediv_nonneg h.h0 (by omega)
  generalize high / v1 = q at *
  have h3 : (q + 1) * v1 * (4294967296 * P) ≤ (q + 1) * V := by
    rw [Int.mul_assoc]
    refine mul_le_l (by omega) ?_
    have h4 : 0 ≤ v2 * P := Int.mul_nonneg h.b0 (by have := h.p; omega)
    have h5 := h.v; have h6 := h.w0
    omega
  have h4 : low * P ≤ 4294967295 * P := mul_le_r (by have := h.p; omega) (by have := h.l1; omega)
  have h5 := h.u; have h6 := h.u1
  rw [Int.add_mul, Int.one_mul] at h2
  omega
/-- an estimate that is too great is lowered -/
theorem Est.step {U V high low v1 v2 P U2 V2 q r : Int} (h : Est U V high low v1 v2 P U2 V2) (hq : q * v1 + r = high) (h0 : 0 ≤ q) (hc : 4294967295 < q ∨ r * 4294967296 + low < q * v2) : U < (q - 1 + 1) * V := by
  rw [Int.sub_add_cancel]
  have hV : 0 ≤ V := by
    have h4 : 0 ≤ v2 * P := Int.mul_nonneg h.b0 (by have := h.p; omega)
    have h7 : 0 ≤ v1 * (4294967296 * P) := Int.mul_nonneg (by have := h.a0; omega) (by have := h.p; omega)
    have h5 := h.v; have h6 := h.w0
    omega
  rcases hc with hc | hc
  · have h1 := mul_le_r (a := 4294967296) (b := q) hV (by omega)
    have h2 := h.lt
    omega
  · have h1 := h.diff hq
    have h2 := mul_le_r (a := r * 4294967296 + low - q * v2) (b := -1) (c := P) (by have := h.p; omega) (by omega)
    have h3 : 0 ≤ q * V2 := Int.mul_nonneg h0 h.w0
    have h4 := h.u1
    omega
/-- where it is left, it is the quotient, or 1 more -/
theorem Est.done {U V high low v1 v2 P U2 V2 q r : Int} (h : Est U V high low v1 v2 P U2 V2) (hq : q * v1 + r = high) (h0 : 0 ≤ q) (hr0 : 0 ≤ r)
    (hc : 4294967295 < r ∨ (q ≤ 4294967295 ∧ q * v2 ≤ r * 4294967296 + low)) : q ≤ 4294967295 ∧ 0 ≤ U - q * V + V := by
  have hv : 0 < v1 := by have := h.a0; omega
  have hb := h.b0; have hb1 := h.b1
  have hq1 : q ≤ 4294967295 := by
    rcases hc with hc | hc
    · rcases Int.lt_or_le 4294967295 q with k | k
      · exfalso
        have h1 := mul_le_r (a := 4294967296) (b := q) (c := v1) (by omega) (by omega)
        have h2 := h.high
        omega
      · exact k
    · exact hc.1
  have hq2 : q * v2 ≤ r * 4294967296 + low := by
    rcases hc with hc | hc
    · have h1 := mul_le_r (a := q) (b := 4294967295) hb hq1
      have h2 := h.l0
      omega
    · exact hc.2
  refine ⟨hq1, ?_⟩
  have h1 := h.diff hq
  have h2 := Int.mul_nonneg (show 0 ≤ r * 4294967296 + low - q * v2 by omega) (show 0 ≤ P by have := h.p; omega)
  have h3 := mul_le_r (a := q) (b := 4294967295) h.w0 hq1
  have h4 : 0 ≤ v2 * P := Int.mul_nonneg h.b0 (by have := h.p; omega)
  have h5 := mul_le_r (a := 1) (b := v1) (c := 4294967296 * P) (by have := h.p; omega) (by omega)
  have h6 := h.v; have h7 := h.w1; have h8 := h.w0; have h9 := h.u0
  omega
/-- the state behind k limbs: the limbs, what is owed -/
def takeTo (ps ys : List Int) (q : Int) : Nat → List Int × Int
  | 0 => ([], 0)
  | k + 1 => ((takeTo ps ys q k).1 ++ [(ps.getD k 0 - ((takeTo ps ys q k).2 + q * ys.getD k 0) % 4294967296) % 4294967296],
      ((takeTo ps ys q k).2 + q * ys.getD k 0) / 4294967296 + (if ps.getD k 0 < ((takeTo ps ys q k).2 + q * ys.getD k 0) % 4294967296 then 1 else 0))
theorem takeTo_length (ps ys : List Int) (q : Int) (k : Nat) : (takeTo ps ys q k).1.length = k := by
  induction k with
  | zero => rfl
  | succ k ih => simp [takeTo, ih]
theorem limb_prod {q y : Int} (hq : 0 ≤ q ∧ q ≤ 4294967295) (hy : 0 ≤ y ∧ y < 4294967296) : 0 ≤ q * y ∧ q * y ≤ 18446744065119617025 := by
  have h1 := Int.mul_nonneg hq.1 hy.1
  have h2 := mul_le_r (a := q) (b := 4294967295) hy.1 hq.2
  omega
theorem takeTo_owed (ps ys : List Int) (q : Int) (hy : Wf ys) (hq : 0 ≤ q ∧ q ≤ 4294967295) (k : Nat) : 0 ≤ (takeTo ps ys q k).2 ∧ (takeTo ps ys q k).2 ≤ 4294967296 := by
  induction k with
  | zero => simp [takeTo]
  | succ k ih =>
    have h1 := limb_prod hq (hy.getD k)
    simp only [takeTo]
    split <;> omega
theorem takeTo_wf (ps ys : List Int) (q : Int) (k : Nat) : Wf (takeTo ps ys q k).1 := by
  induction k with
  | zero => exact Wf.nil
  | succ k ih => exact ih.append (Wf.cons (by omega) Wf.nil)
theorem val_takeTo (ps ys : List Int) (q : Int) (hp : Wf ps) (k : Nat) : val (takeTo ps ys q k).1 - 4294967296 ^ k * (takeTo ps ys q k).2 = val (ps.take k) - q * val (ys.take k) := by
  induction k with
  | zero => simp [takeTo, val]
  | succ k ih =>
    rw [val_take_succ, val_take_succ]
    simp only [takeTo]
    rw [val_append, takeTo_length]
    simp only [val, Int.pow_succ]
    have hb := hp.getD k
    generalize (takeTo ps ys q k).2 = o at *
    generalize val (takeTo ps ys q k).1 = L at *
    generalize ps.getD k 0 = p at *
    generalize ys.getD k 0 = y at *
    generalize val (ps.take k) = A at *
    generalize val (ys.take k) = B at *
    have hm := mod_div (o + q * y)
    have hl : 0 ≤ (o + q * y) % 4294967296 ∧ (o + q * y) % 4294967296 < 4294967296 := by omega
    generalize (o + q * y) % 4294967296 = low at *
    generalize (o + q * y) / 4294967296 = hi at *
    have hs : (p - low) % 4294967296 = p - low + 4294967296 * (if p < low then 1 else 0) := by split <;> omega
    rw [hs]
    generalize (if p < low then (1 : Int) else 0) = c at *
    generalize (4294967296 : Int) ^ k = Q at *
    grind
theorem val_cat3 (xs ys zs : List Int) : val (xs ++ ys ++ zs) = val xs + 4294967296 ^ xs.length * (val ys + 4294967296 ^ ys.length * val zs) := by
  rw [List.append_assoc, val_append, val_append]
theorem val_drop0 {xs : List Int} (hx : Wf xs) (k : Nat) (h : val xs < 4294967296 ^ k) : val (xs.drop k) = 0 := by
  by_cases hk : k < xs.length
  · have h1 := val_append (xs.take k) (xs.drop k)
    rw [List.take_append_drop, List.length_take, Nat.min_eq_left (by omega)] at h1
    have h2 := val_nonneg (hx.take k)
    have h3 := val_nonneg (hx.drop k)
    rcases Int.lt_or_le 0 (val (xs.drop k)) with h4 | h4
    · exfalso
      have h5 := mul_le_l (a := 1) (b := val (xs.drop k)) (c := 4294967296 ^ k) (Int.le_of_lt (pow_pos' k)) (by omega)
      omega
    · omega
  · rw [List.drop_of_length_le (by omega)]; rfl
/-- the part of limbs from i on -/
theorem val_split {xs : List Int} (i : Nat) (h : i ≤ xs.length) : val xs = val (xs.take i) + 4294967296 ^ i * val (xs.drop i) := by
  have h1 := val_append (xs.take i) (xs.drop i)
  rwa [List.take_append_drop, List.length_take, Nat.min_eq_left h] at h1
end
section
open Go.RowKit
set_option linter.unusedVariables false
set_option linter.unusedSimpArgs false
set_option maxHeartbeats 400000 in
theorem trimQ_any (ad : Option Addr) (xs : List Int) (cap : Nat) (w : World) (hl : LimI w ad xs) (hm : xs.length ≤ 1099511627776) (hcap : xs.length ≤ cap) :
    Calls Tryz.prog 150 #[.slice ad xs.length cap] w fun e w' => e = .returned (.slice ad (trimN xs xs.length) cap) ∧ w = w' := by
  go_enter Tryz.func150, Tryz.ntmps150
  go_wp2
  go_loop [3] (fun n => ∃ j : Nat, j ≤ xs.length ∧ n = .int .i64 j ∧ trimN xs j = trimN xs xs.length) (fun n => (intOf n).toNat)
  case atStart => exact ⟨xs.length, Nat.le_refl _, rfl, rfl⟩
  case round =>
    obtain ⟨j, hj, rfl, ht⟩ := hrel
    have HT := Lib.hid ht
    clear ht
    rcases j with _ | m
    · have h0 : trimN xs xs.length = 0 := HT.out.symm
      go_wp2
      go_ret
      exact ⟨rfl, rfl⟩
    · rcases hl with rfl | ⟨b, off, rfl, hc⟩
      · simp at hj
      · have hck := hc m (by omega)
        clear hc
        go_wp2
        · have hz : xs.getD m 0 = 0 := by
            have h : (xs[m]?.getD 0 == 0) = true := by assumption
            simpa using h
          go_round
          case rel => exact ⟨m, by omega, by go_num, by rw [← HT.out]; simp only [trimN]; rw [if_pos hz]⟩
          case measure => simp [intOf]
        · have hz : xs.getD m 0 ≠ 0 := by
            have h : (xs[m]?.getD 0 == 0) = false := by assumption
            simpa using h
          have ht : trimN xs xs.length = m + 1 := by rw [← HT.out]; simp only [trimN]; rw [if_neg hz]
          go_ret
          exact ⟨by rw [ht]; simp, rfl⟩
theorem trimQ_num {base : Nat} {v : Value} {xs : List Int} {w : World} (h : NumI base w v xs) (hm : xs.length ≤ 1099511627776) :
    Calls Tryz.prog 150 #[v] w fun e w' => ∃ u, e = .returned u ∧ NumI base w u (trim xs) ∧ w = w' := by
  obtain ⟨ad, cap, rfl, hl, hc, _, _⟩ := h.read
  exact (trimQ_any ad xs cap w hl hm hc).mono fun e w' ⟨he, hw⟩ => ⟨_, he, h.cut, hw⟩
theorem sign_le {x y : Int} : sign x y ≤ 0 ↔ x ≤ y := by unfold sign; split <;> (try split) <;> omega
set_option maxHeartbeats 1000000 in
/-- how often ys goes into rs -/
theorem digitQ_any {u v : Value} {rs ys : List Int} {a b : Option Addr} {capa capb : Nat} {w : World} (h1 : ArgD w u rs a capa) (h2 : ArgD w v ys b capb) (hx : rs.length ≤ 17179869184) (hy : ys.length ≤ 17179869184)
    (hlt : valD rs < valD ys * 10000) :
    Calls Tryz.prog 151 #[u, v] w fun e w' => ∃ d : Int, e = .returned (.int .i64 d) ∧ 0 ≤ d ∧ d < 10000 ∧ valD ys * d ≤ valD rs ∧ valD rs < valD ys * (d + 1) ∧ Below w.heap.size w w' := by
  have hr0 := val_nonnegD h1.wf
  go_enter Tryz.func151, Tryz.ntmps151
  go_wp2
  go_loopw [5, 6, 7] (fun lo hi _ wr => ∃ l h : Int, lo = .int .i64 l ∧ hi = .int .i64 h ∧ 0 ≤ l ∧ l < h ∧ h ≤ 10000 ∧ valD ys * l ≤ valD rs ∧ valD rs < valD ys * h ∧ Below w.heap.size w wr) (fun lo hi _ _ => (intOf hi - intOf lo).toNat)
  case atStart => exact ⟨0, 10000, rfl, rfl, by omega, by omega, by omega, by simpa using hr0, hlt, Below.refl _ _⟩
  case round =>
    obtain ⟨l, h, rfl, rfl, hl0, hlh, hh, hlo, hhi, hb⟩ := hrel
    have hsz := hb.size
    have HLO := Lib.hid hlo
    have HHI := Lib.hid hhi
    clear hlo hhi
    by_cases hgo : 1 < h - l
    · have hq : Int.tdiv (l + h) 2 = (l + h) / 2 := Int.tdiv_eq_ediv_of_nonneg (by omega)
      obtain ⟨m, hm⟩ : ∃ m, (l + h) / 2 = m := ⟨_, rfl⟩
      rw [hm] at hq
      have hm1 : l < m := by omega
      have hm2 : m < h := by omega
      clear hm
      have A1 := h1.later hb
      have A2 := h2.later hb
      go_wp2_with fail
      refine (times_any m A2 (by omega) (by omega)).mono ?_
      rintro e w2 ⟨r2, rfl, z2, q2, n2, hb2⟩
      obtain ⟨ad2, cap2, A3⟩ := q2.arg
      have A1' := A1.later hb2
      have hs2 := hb2.size
      go_wp2_with fail
      refine (cmpD_any A3 A1' (by omega) (by omega)).mono ?_
      rintro e w3 ⟨rfl, hb3⟩
      have hB3 : Below w.heap.size w w3 := (hb.trans (hb2.mono hsz)).trans (hb3.mono (by omega))
      have hv := q2.eq
      rw [hv]
      clear A1 A2 A3 A1' hb2 hb3 q2 hv
      by_cases hle : valD ys * m ≤ valD rs
      · have hd : decide (sign (valD ys * m) (valD rs) ≤ 0) = true := decide_eq_true (sign_le.2 hle)
        have HLE := Lib.hid hle
        clear hle
        go_wp2
        go_roundw
        case rel => exact ⟨m, h, rfl, rfl, by omega, hm2, hh, HLE.out, HHI.out, hB3⟩
        case measure => simp [intOf]; omega
      · have hd : decide (sign (valD ys * m) (valD rs) ≤ 0) = false := decide_eq_false (fun h => hle (sign_le.1 h))
        have HLE := Lib.hid (Int.not_le.1 hle)
        clear hle
        go_wp2
        go_roundw
        case rel => exact ⟨l, m, rfl, rfl, hl0, hm1, by omega, HLO.out, HLE.out, hB3⟩
        case measure => simp [intOf]; omega
    · obtain rfl : h = l + 1 := by omega
      go_wp2
      go_ret
      exact ⟨l, rfl, hl0, by omega, HLO.out, HHI.out, hb⟩
end
section
open Go.RowKit
set_option linter.unusedVariables false
set_option linter.unusedSimpArgs false
theorem ArgD.lenLe {w w' : World} {u v : Value} {xs ys : List Int} {a b : Option Addr} {capa capb : Nat} (h1 : ArgD w u xs a capa) (h2 : ArgD w' v ys b capb) (h : valD xs ≤ valD ys) : xs.length ≤ ys.length := by
  rcases Nat.lt_or_ge ys.length xs.length with k | k
  · have := len_ltD h2.wf h1.wf h1.full k; omega
  · exact k
theorem NumI.only {base b : Nat} {w w' : World} {v : Value} {xs : List Int} (h : NumI base w v xs) (k : Only b w w') (hb : b < base) : NumI base w' v xs := by
  obtain ⟨h1, h2⟩ := h
  refine ⟨h1, ?_⟩
  rcases h2 with h2 | ⟨g, cap, cur, rfl, hg0, hg, hc, hm, hs, ht⟩
  · exact .inl h2
  · exact .inr ⟨g, cap, cur, rfl, hg0, (k.block g (by omega)).trans hg, hc, hm, hs, ht⟩
theorem ResD.only {base b : Nat} {w w' : World} {u : Value} {zs : List Int} {n : Int} (h : ResD base w u zs n) (k : Only b w w') (hb : b < base) : ResD base w' u zs n := ⟨h.num.only k hb, h.wf, h.full, h.eq⟩
theorem ResD.mono {base base' : Nat} {w : World} {u : Value} {zs : List Int} {n : Int} (h : ResD base w u zs n) (hb : base' ≤ base) : ResD base' w u zs n := ⟨h.num.mono hb, h.wf, h.full, h.eq⟩
theorem NumI.nilCap {base : Nat} {w : World} {n cap : Nat} {xs : List Int} (h : NumI base w (.slice none n cap) xs) : xs = [] ∧ n = 0 ∧ cap = 0 := by
  obtain ⟨_, h2⟩ := h
  rcases h2 with ⟨e, hn⟩ | ⟨g, cap', cur, e, _⟩
  · simp only [Value.slice.injEq] at e
    exact ⟨List.eq_nil_of_length_eq_zero hn, e.2.1, e.2.2⟩
  · simp at e
set_option maxHeartbeats 4000000 in
theorem divD_any {u v : Value} {xs ys : List Int} {a b : Option Addr} {capa capb : Nat} {w : World} (h1 : ArgD w u xs a capa) (h2 : ArgD w v ys b capb) (hx : xs.length ≤ 8589934592) (hy : ys.length ≤ 8589934592) (hpos : 0 < valD ys) :
    Calls Tryz.prog 129 #[u, v] w fun e w' => ∃ r s, e = .returned (.tuple #[r, s]) ∧ Below w.heap.size w w' ∧ (∃ zs, ResD w.heap.size w' r zs (valD xs / valD ys) ∧ zs.length ≤ xs.length) ∧
      (∃ zs, ResD w.heap.size w' s zs (valD xs % valD ys) ∧ zs.length ≤ ys.length) := by
  obtain ⟨rfl, lx, _, wx, _⟩ := h1
  obtain ⟨i0, hi, hz0, hz1, hz2⟩ := info_parts infoInt
  obtain ⟨n, hn⟩ : ∃ n, xs.length = n := ⟨_, rfl⟩
  have hmk := makeI_runN n n (Nat.le_refl _) (by omega)
  rw [hn]
  have HN := Lib.hid hn
  rw [hn] at hx
  clear hn
  go_enter Tryz.func129, Tryz.ntmps129
  go_wp2
  go_loopw [7, 8, 9, 10, 11] (fun s i _ _ _ wr => ∃ (k : Nat) (q : Value) (rs qs : List Int), k ≤ n ∧ q = s ∧ i = .int .i64 ((n : Int) - 1 - k) ∧ BlkI wr w.heap.size (List.replicate (n - k) 0 ++ qs) ∧ qs.length = k ∧ WfD qs ∧
      ResD (w.heap.size + 1) wr q rs (valD rs) ∧ valD (xs.drop (n - k)) = valD ys * valD qs + valD rs ∧ valD rs < valD ys ∧ Below w.heap.size w wr) (fun _ i _ _ _ _ => (intOf i + 1).toNat)
  case atStart =>
    have e : xs.drop (n - 0) = [] := by rw [Nat.sub_zero, ← HN.out, List.drop_length]
    refine ⟨0, _, [], [], Nat.zero_le _, rfl, by simp, ?_, rfl, WfD.nil, ⟨World.ownsRow_nil _ _ _ _, WfD.nil, rfl, rfl⟩, by rw [e]; simp [valD], by simpa [valD] using hpos, ((Below.refl _ w).alloc (Nat.le_refl _) _)⟩
    simpa using BlkI.made w n
  case round =>
    obtain ⟨k, q, rs, qs, hk, rfl, rfl, hblk, hql, hqw, hres, hval, hlt, hb⟩ := hrel
    have hsz := hb.size
    by_cases hgo : k < n
    · rcases lx with rfl | ⟨bx, off, rfl, hc⟩
      · have := HN.out; simp at this; omega
      obtain ⟨j, hj⟩ : ∃ j, j + k + 1 = n := ⟨n - k - 1, by omega⟩
      have hji : ((n : Int) - 1 - k) = (j : Int) := by omega
      obtain ⟨x, hxk⟩ : ∃ x, xs.getD j 0 = x := ⟨_, rfl⟩
      obtain ⟨bx0, bx1⟩ : 0 ≤ x ∧ x < 10000 := hxk ▸ wx.getD j
      have hjl : j < xs.length := by have := HN.out; omega
      have hcj := hc j hjl
      rw [hxk] at hcj
      have hc0 : wr.cell? ⟨bx, off + j, none⟩ = some (.int .i64 x) := (hb.cell (p := ⟨bx, off + j, none⟩) (World.block_lt_of_cell? w _ hcj)).trans hcj
      have hge : (0 : Int) ≤ (j : Int) := by omega
      have hjn : (j : Int) < (n : Int) := by omega
      have hstep : valD (xs.drop (n - (k + 1))) = x + 10000 * valD (xs.drop (n - k)) := by
        rw [show n - (k + 1) = j from by omega, valD_drop xs j hjl, hxk, show n - k = j + 1 from by omega]
      rw [show n - k = j + 1 from by omega] at hblk
      rw [hji]
      have hrl : rs.length ≤ ys.length := by
        obtain ⟨ad, cap, A⟩ := hres.arg
        exact A.lenLe h2 (by omega)
      have hgb : w.heap.size < wr.heap.size := hblk.lt
      have HST := Lib.hid hstep
      have HV := Lib.hid hval
      have HJ := Lib.hid hj
      have HL := Lib.hid hlt
      have HB := Lib.hid hblk
      have HQ := Lib.hid hql
      clear hstep hval hj hji hxk hc hlt hblk hql
      have hs1 : w.heap.size + 1 ≤ wr.heap.size := hgb
      have hlit := NumI.lit (base := w.heap.size + 1) (w := wr) hs1 [x] (by unfold maxLen; simp)
      have hrow : (wr.alloc (.cells #[.int .i64 x] 3)).ownsRow (w.heap.size + 1) 3 1 (.slice (some ⟨wr.heap.size, 0, none⟩) 1 1) 1 [.int .i64 x] := hlit
      have hal : Below w.heap.size w (wr.alloc (.cells #[.int .i64 x] 3)) := hb.alloc hsz _
      have hba := HB.out.alloc (.cells #[.int .i64 x] 3)
      obtain ⟨ad, cap, h1q, h2q, h3q, h4q, h5q⟩ := hres.num.read
      clear h5q
      have wrs := hres.wf
      have hnumq := hres.num
      subst h1q
      clear hres
      have HN2 := Lib.hid hnumq
      clear hnumq
      cases ad
      case' none =>
        obtain ⟨hrs, hr0, hcap⟩ := HN2.out.nilCap
        subst hcap
        rw [hr0]
        have HRS := Lib.hid hrs
        clear hrs hr0
        have hrun := run_append_owned_none (P := Tryz.prog) (wr.alloc (.cells #[.int .i64 x] 3)) (w.heap.size + 1) 73 73 3 i0 1 Tryz.underlying73 hi (.slice (some ⟨wr.heap.size, 0, none⟩) 1 1) 1 [.int .i64 x] hrow
        go_wp2_with fail
        have hup : NumI (w.heap.size + 1) (wr.alloc (.cells #[.int .i64 x] 3)) (.slice (some ⟨wr.heap.size, 0, none⟩) 1 1) (x :: rs) := by rw [HRS.out]; exact hlit
        have hB1 := hal
        have hb1 := hba
        clear hrun hlit hrow hal hba h2q hc0
        generalize wr.alloc (.cells #[.int .i64 x] 3) = w1 at *
        generalize Value.slice (some ⟨wr.heap.size, 0, none⟩) 1 1 = v' at *
      case' some ad =>
        have hnews := (h2q.later ((Below.refl wr.heap.size wr).alloc (Nat.le_refl _) (.cells #[.int .i64 x] 3))).news
        go_wp2_with (at_builtin; refine wpList_append_own _ rfl _ _ 73 rfl (w.heap.size + 1) 3 i0 (.int .i64 0) 1 8 Tryz.underlying73 hi hz0 hz1 hz2 rfl (by decide) _ 1 [.int .i64 x] rfl hrow ad rs.length cap (rs.map (Value.int .i64)) rfl (by simp) hnews (ints_oneCell _ _) (by unfold maxLen; omega) (by omega) (by simp; omega) ?_; intro v' w1 hown' hgrow _)
        have hB1 : Below w.heap.size w w1 := hal.grown hgrow (by simp; omega) (fun k hk => by cases hk; exact hsz)
        have hb1 := hba.grown hgrow (fun e => by have h : w.heap.size = wr.heap.size := Option.some.inj e; omega)
        have hup : NumI (w.heap.size + 1) w1 v' (x :: rs) := by
          unfold NumI
          rw [List.length_cons, List.map_cons, Nat.add_comm rs.length 1]
          exact hown'
        clear hown' hgrow hnews hlit hrow hal hba h2q hc0
      all_goals
        have hs2 := hb1.lt
        have hR1 : ResD (w.heap.size + 1) w1 v' (x :: rs) 0 → True := fun _ => trivial
        clear hR1
        go_wp2_with fail
        refine (trimQ_num hup (by simp only [List.length_cons]; omega)).mono ?_
        rintro e w' ⟨q1, rfl, hq1, rfl⟩
        have R1 : ResD (w.heap.size + 1) w1 q1 (trim (x :: rs)) (x + 10000 * valD rs) := ⟨hq1, (WfD.cons ⟨bx0, bx1⟩ wrs).trim, trim_full _, by rw [val_trimD]; rfl⟩
        have hl1 : (trim (x :: rs)).length ≤ rs.length + 1 := Nat.le_trans (Nat.le_of_eq (trim_length _)) (trim_le (x :: rs))
        generalize trim (x :: rs) = rs1 at *
        clear hup hq1
        obtain ⟨ad1, cap1, A1⟩ := R1.arg
        have A2 := h2.later hB1
        have hV := HL.out
        go_wp2_with fail
        refine (digitQ_any A1 A2 (by omega) (by omega) (by rw [R1.eq]; omega)).mono ?_
        rintro e w2 ⟨d, rfl, d0, d1, dlo, dhi, hb2⟩
        rw [R1.eq] at dlo dhi
        have hB2 := hB1.trans (hb2.mono (by omega))
        have R2 := R1.later hb2
        have hblk2 := hb1.below hb2 (by omega)
        have hlz : (List.replicate (j + 1) 0 ++ qs).length = n := by rw [List.length_append, List.length_replicate, HQ.out]; have := HJ.out; omega
        have hcell := hblk2.cell j (by omega)
        have hfree := hblk2.free j
        have hset := hblk2.set j d
        rw [set_front] at hset
        have hO : Only w.heap.size w2 (w2.setCell ⟨w.heap.size, j, none⟩ (.int .i64 d)) := Only.set _ _ _ _
        have R3 := R2.only hO (Nat.lt_succ_self _)
        have hB3 : Below w.heap.size w (w2.setCell ⟨w.heap.size, j, none⟩ (.int .i64 d)) := hB2.setCell (p := ⟨w.heap.size, j, none⟩) (Nat.le_refl _) _
        have hs3 : w.heap.size + 1 ≤ w2.heap.size := hblk2.lt
        have hs3' : w2.heap.size = (w2.setCell ⟨w.heap.size, j, none⟩ (.int .i64 d)).heap.size := hO.size.symm
        have DLO := Lib.hid dlo
        have DHI := Lib.hid dhi
        clear A1 A2 hB1 hb1 hb2 hB2 R1 R2 hblk2 dlo dhi hO hs2 hlz
        go_wp2_with fail
        generalize w2.setCell ⟨w.heap.size, j, none⟩ (.int .i64 d) = w3 at *
        clear hcell hfree
        have A3 := h2.later hB3
        refine (times_any d A3 (by omega) (by omega)).mono ?_
        rintro e w4 ⟨r4, rfl, z4, q4, n4, hb4⟩
        have hB4 := hB3.trans (hb4.mono (by omega))
        have R4 := R3.later hb4
        have hset4 := hset.below hb4 (by omega)
        have hs4 := hb4.size
        obtain ⟨ad4, cap4, A4⟩ := R4.arg
        obtain ⟨ad5, cap5, A5⟩ := q4.arg
        clear hB3 hb4 R3 A3 hset
        go_wp2_with fail
        refine (subD_any A4 A5 (by omega) (by omega)).mono ?_
        rintro e w5 ⟨r5, f5, rfl, hb5, _, hsub⟩
        obtain ⟨rfl, z5, q5, n5⟩ := hsub (by rw [R4.eq, q4.eq]; exact DLO.out)
        have hB5 := hB4.trans (hb5.mono (by omega))
        have hset5 := hset4.below hb5 (by omega)
        have hs5 := hb5.size
        have hv5 : valD z5 = x + 10000 * valD rs - valD ys * d := by rw [q5.eq, R4.eq, q4.eq]
        have fin : ∃ (k' : Nat) (q' : Value) (rs' qs' : List Int), k' ≤ n ∧ q' = r5 ∧ Value.int .i64 ((j : Int) - 1) = .int .i64 ((n : Int) - 1 - k') ∧ BlkI w5 w.heap.size (List.replicate (n - k') 0 ++ qs') ∧ qs'.length = k' ∧ WfD qs' ∧
            ResD (w.heap.size + 1) w5 q' rs' (valD rs') ∧ valD (xs.drop (n - k')) = valD ys * valD qs' + valD rs' ∧ valD rs' < valD ys ∧ Below w.heap.size w w5 := by
          have hj := HJ.out
          refine ⟨k + 1, r5, z5, d :: qs, by omega, rfl, by congr 1; omega, ?_, by rw [List.length_cons, HQ.out], WfD.cons ⟨d0, d1⟩ hqw, ⟨q5.num.mono (by omega), q5.wf, q5.full, rfl⟩, ?_, ?_, hB5⟩
          · rw [show n - (k + 1) = j from by omega]; exact hset5
          · rw [HST.out, HV.out, hv5]
            have e : valD (d :: qs) = d + 10000 * valD qs := rfl
            have e2 : valD ys * (d + 10000 * valD qs) = valD ys * d + 10000 * (valD ys * valD qs) := by rw [Int.mul_add, Int.mul_left_comm]
            rw [e, e2]
            omega
          · rw [hv5]
            have h := DHI.out
            rw [Int.mul_add, Int.mul_one] at h
            omega
        have FIN := Lib.hid fin
        clear fin hset5 hset4 hB5 hB4 hb5 A4 A5 R4 q4 q5 hv5
        go_wp2
        go_roundw
        case rel => exact FIN.out
        case measure => simp [intOf]
    · obtain rfl : k = n := by omega
      have hji : ((k : Int) - 1 - k) = -1 := by omega
      rw [hji]
      clear hji
      rw [Nat.sub_self] at hblk hval
      rw [List.drop_zero] at hval
      rw [List.replicate_zero, List.nil_append] at hblk
      have hnum := NumI.ofBlk hblk (Nat.le_refl _) k (by omega) (by rw [hql]; unfold maxLen; omega)
      rw [hql, List.take_of_length_le (by omega)] at hnum
      have hr0 := val_nonnegD hres.wf
      obtain ⟨e1, e2⟩ := quo_eq (V := valD qs) (d := valD ys) (r := valD rs) (N := valD xs) hpos (by rw [hval, Int.mul_comm]) ⟨hr0, hlt⟩
      have hrl : rs.length ≤ ys.length := by
        obtain ⟨ad, cap, A⟩ := hres.arg
        exact A.lenLe h2 (by omega)
      have hlen : (trim qs).length ≤ k := by have h := Nat.le_trans (Nat.le_of_eq (trim_length _)) (trim_le qs); omega
      have E1 := Lib.hid e1
      have E2 := Lib.hid e2
      clear hblk e1 e2 hval hlt
      go_wp2_with fail
      refine (trimQ_num hnum (by omega)).mono ?_
      rintro e w' ⟨p, rfl, hp, rfl⟩
      go_wp2_with fail
      go_ret2
      exact ⟨p, q, rfl, hb, ⟨trim qs, ⟨hp, hqw.trim, trim_full _, by rw [val_trimD, E1.out]⟩, hlen⟩, ⟨rs, ⟨hres.num.mono (Nat.le_succ _), hres.wf, hres.full, E2.out⟩, hrl⟩⟩
end
section
open Go.RowKit
set_option linter.unusedVariables false
set_option linter.unusedSimpArgs false
theorem gcd_step (a b : Int) : Int.gcd b (a % b) = Int.gcd a b := by
  have h := Int.gcd_add_mul_right_right b (a % b) (a / b)
  rw [Int.emod_add_ediv_mul] at h
  rw [← h, Int.gcd_comm]
theorem gcd_end {a : Int} (h : 0 ≤ a) : (Int.gcd a 0 : Int) = a := by rw [Int.gcd_zero_right]; omega
theorem posD {ds : List Int} {a : Option Addr} {cap : Nat} {w : World} {u : Value} (h : ArgD w u ds a cap) (hl : 0 < ds.length) : 0 < valD ds := by
  have h1 := full_geD h.wf h.full (ds.length - 1) (by omega)
  have h2 := pow_posD (ds.length - 1)
  omega
/-- what a slice of numbers reads: for a loop's measure -/
def readV (w : World) : Value → List Int
  | .slice (some ad) n _ => (List.range n).map fun i => match w.cell? ⟨ad.block, ad.off + i, none⟩ with | some (.int _ x) => x | _ => 0
  | _ => []
theorem readV_limI {w : World} {ad : Option Addr} {xs : List Int} {cap : Nat} (h : LimI w ad xs) : readV w (.slice ad xs.length cap) = xs := by
  rcases h with rfl | ⟨b, off, rfl, hc⟩
  · cases ad <;> simp [readV]
  · simp only [readV]
    apply List.ext_getElem
    · simp
    · intro i h1 h2
      rw [List.getElem_map, List.getElem_range, hc i h2]
      simp [h2]
theorem readV_lim {w : World} {ad : Option Addr} {xs : List Int} {cap : Nat} (h : Lim w ad xs) : readV w (.slice ad xs.length cap) = xs := by
  rcases h with rfl | ⟨b, off, rfl, hc⟩
  · cases ad <;> simp [readV]
  · simp only [readV]
    apply List.ext_getElem
    · simp
    · intro i h1 h2
      rw [List.getElem_map, List.getElem_range, hc i h2]
      simp [h2]
theorem ArgD.read {w : World} {u : Value} {xs : List Int} {a : Option Addr} {cap : Nat} (h : ArgD w u xs a cap) : readV w u = xs := by rw [h.is]; exact readV_limI h.lim
theorem Arg.read {w : World} {u : Value} {xs : List Int} {a : Option Addr} {cap : Nat} (h : Arg w u xs a cap) : readV w u = xs := by rw [h.is]; exact readV_lim h.lim
/-- loops over pairs: how much is left -/
def leftD (w : World) (v : Value) : Nat := (valD (readV w v)).toNat
theorem ArgD.left {w : World} {u : Value} {xs : List Int} {a : Option Addr} {cap : Nat} (h : ArgD w u xs a cap) : leftD w u = (valD xs).toNat := by unfold leftD; rw [h.read]
set_option maxHeartbeats 4000000 in
theorem gcdD_any {u v : Value} {xs ys : List Int} {a b : Option Addr} {capa capb : Nat} {w : World} (h1 : ArgD w u xs a capa) (h2 : ArgD w v ys b capb) (hx : xs.length ≤ 8589934592) (hy : ys.length ≤ 8589934592) :
    Calls Tryz.prog 128 #[u, v] w fun e w' => ∃ r, e = .returned r ∧ ∃ zs ad cap, ArgD w' r zs ad cap ∧ valD zs = (Int.gcd (valD xs) (valD ys) : Int) ∧ zs.length ≤ max xs.length ys.length ∧ Below w.heap.size w w' := by
  obtain ⟨m, hm⟩ : ∃ m, max xs.length ys.length = m := ⟨_, rfl⟩
  have hm2 : m ≤ 8589934592 := by omega
  have hmx : xs.length ≤ m := by omega
  have hmy : ys.length ≤ m := by omega
  rw [hm]
  clear hm hx hy
  go_enter Tryz.func128, Tryz.ntmps128
  go_wp2
  go_loopw [0, 1, 5, 6] (fun p q _ _ wr => ∃ (p' q' : Value) (us vs : List Int) (ad bd : Option Addr) (cp cq : Nat), p' = p ∧ q' = q ∧ ArgD wr p' us ad cp ∧ ArgD wr q' vs bd cq ∧ us.length ≤ m ∧ vs.length ≤ m ∧ Int.gcd (valD us) (valD vs) = Int.gcd (valD xs) (valD ys) ∧ Below w.heap.size w wr) (fun _ q _ _ wr => leftD wr q)
  case atStart => exact ⟨u, v, xs, ys, a, b, capa, capb, rfl, rfl, h1, h2, hmx, hmy, rfl, Below.refl _ _⟩
  case round =>
    obtain ⟨p, q, us, vs, ad, bd, cp, cq, rfl, rfl, A1, A2, hu, hv, hg, hb⟩ := hrel
    have hsz := hb.size
    have HG := Lib.hid hg
    clear hg
    have hq := A2.is
    by_cases hgo : 0 < vs.length
    · have hgo2 : (0 : Int) < (vs.length : Int) := by omega
      have hpos := posD A2 hgo
      have hleft := A2.left
      subst hq
      go_wp2_with fail
      refine (divD_any A1 A2 (by omega) (by omega) hpos).mono ?_
      rintro e w2 ⟨r2, s2, rfl, hb2, _, ⟨z2, q2, n2⟩⟩
      obtain ⟨ad2, cap2, A3⟩ := q2.arg
      have A2' := A2.later hb2
      have hB2 := hb.trans (hb2.mono hsz)
      have hl2 := A3.left
      have hr1 := Int.emod_lt_of_pos (valD us) hpos
      have hr2 := Int.emod_nonneg (valD us) (show valD vs ≠ 0 by omega)
      have hm3 : leftD w2 s2 < leftD wr (.slice bd vs.length cq) := by rw [hleft, hl2, q2.eq]; omega
      have hg3 : Int.gcd (valD vs) (valD z2) = Int.gcd (valD xs) (valD ys) := by rw [q2.eq, gcd_step]; exact HG.out
      have HG3 := Lib.hid hg3
      have HM3 := Lib.hid hm3
      clear hg3 hm3 hr1 hr2 hl2 hleft q2 A1 A2 hb2
      go_wp2
      go_roundw
      case rel => exact ⟨_, _, vs, z2, bd, ad2, cq, cap2, rfl, rfl, A2', A3, hv, by omega, HG3.out, hB2⟩
      case measure => exact HM3.out
    · have h0 : vs.length = 0 := by omega
      have hvs : vs = [] := List.eq_nil_of_length_eq_zero h0
      have hg := HG.out
      rw [hvs] at hg
      have hfin : valD us = (Int.gcd (valD xs) (valD ys) : Int) := by rw [← hg]; simp only [valD]; exact (gcd_end (val_nonnegD A1.wf)).symm
      have HF := Lib.hid hfin
      rw [h0] at hq
      subst hq
      clear hfin hg A2 hvs h0 hgo
      go_wp2
      go_ret
      exact ⟨_, rfl, us, ad, cp, A1, HF.out, hu, hb⟩
end
section
open Go.RowKit Go.Shelf
set_option linter.unusedVariables false
set_option linter.unusedSimpArgs false
set_option maxHeartbeats 1000000 in
theorem range_seen {α : Type} {n : Nat} {P : Program} {g : Operand} {ps : Array Tmp} {assign body : Code} {Q : Exit → Act → World → Prop} {a : Act} {w : World}
    {gf : Nat} {lb : Array Value} (hg : a.eval g = .func (.func gf) #[] lb) (eg : ∀ args w, (callFunc gf args).run P w = .ok (.enter gf args) w)
    {encs : α → Array Value} (hps : ∀ x, (encs x).size = ps.size) (I : List α → World → Prop) (Nx : List α → α → Prop) (S : List α → Prop) (hI : OwnFrom w.heap.size I) (h0 : I [] w) (a₁ : α → Act)
    (hseq : ∀ (l : Nat) (J : List α → World → Prop), (∀ pre W, J pre W → I pre W) →
      (∀ pre x W, J pre W → Nx pre x → YieldAt Fence.wide (n - 1 - 1) P l (encs x) W fun e W' => e = .returned (.bool true) ∧ J (pre ++ [x]) W') → ∀ W, J [] W →
      CallsIn Fence.wide (n - 1) P gf (#[.func (.yield l) #[] #[]] ++ lb) W fun e W' => (∃ v, e = .returned v) ∧ ∃ xs, S xs ∧ J xs W')
    (hassign : ∀ (l : Nat) (x : α) (W : World) (K : Act → World → Prop), K (a₁ x) W →
      assign.wpIn (Fence.wide.inRound l) (n - 1 - 1) P (Exit.then K (fun _ _ _ => False)) { tmps := (ps.zip (encs x)).foldl (fun t (p, v) => t.setIfInBounds p v) a.tmps, defers := [] } W)
    (hbody : ∀ (l : Nat) (pre : List α) (x : α) (W : World), I pre W → Nx pre x →
      body.wpIn (Fence.wide.inRound l) (n - 1 - 1) P (fun e _ W' => e = .normal ∧ KeepsFrom w.heap.size W W' ∧ I (pre ++ [x]) W') (a₁ x) W)
    (hdone : ∀ (D : Nat) (xs : List α) (W : World), w.heap.size ≤ D → S xs → I xs W → W.heap[D]? = some (.deferred (some [])) → Q .normal { a with defers := { target := .collected D, args := #[] } :: a.defers } W) :
    (Code.rangeFunc g ps assign body).wpIn Fence.wide n P Q a w := by
  refine wpIn_rangeFunc fun fn hfn => ?_
  obtain ⟨lp, hlp⟩ : ∃ lp : LoopState → Option Code → Loop, lp = fun s p => { state := s, pending := p, fn, tmps := a.tmps, params := ps, assign, body, defers := w.heap.size } := ⟨_, rfl⟩
  obtain ⟨V, hV⟩ : ∃ V, (w.alloc (.deferred (some []))).alloc (.loop (lp .ready none)) = V := ⟨_, rfl⟩
  -- the two blocks of the loop's own
  have vl : V.heap[w.heap.size + 1]? = some (.loop (lp .ready none)) := by
    have h := World.alloc_heap_new (w.alloc (.deferred (some []))) (.loop (lp .ready none))
    rw [World.size_alloc, hV] at h
    exact h
  have vd : V.heap[w.heap.size]? = some (.deferred (some [])) := by
    rw [← hV]
    exact (Below.heap_alloc _ _ _ (by simp)).trans (World.alloc_heap_new w _)
  have vi : I [] V := by rw [← hV]; exact hI.alloc _ (hI.alloc _ h0)
  have enter := run_enterLoop_outer (P := P) (w := w) fn a.tmps ps assign body
  rw [show ({ state := LoopState.ready, pending := none, fn := fn, tmps := a.tmps, params := ps, assign := assign, body := body, defers := w.heap.size } : Loop) = lp .ready none by rw [hlp], hV] at enter
  refine ⟨_, _, V, { target := .fn (.func gf) lb, args := #[.func (.yield (w.heap.size + 1)) #[] #[]] }, V, gf, #[.func (.yield (w.heap.size + 1)) #[] #[]] ++ lb, V, enter, ?_, fun _ _ => trivial, ?_, (fun h => by cases h), ?_⟩
  · simp only [resolve, hg]
    simp [go_sem]
  · simp [invoke, go_sem, eg]
  refine (hseq (w.heap.size + 1) (fun pre W => I pre W ∧ W.heap[w.heap.size + 1]? = some (.loop (lp .ready none)) ∧ W.heap[w.heap.size]? = some (.deferred (some [])))
    (fun _ _ h => h.1) ?_ V ⟨vi, vl, vd⟩).mono ?_
  · -- a round
    rintro pre x W ⟨wi, wl, wd⟩ hx
    have hlt : w.heap.size + 1 < W.heap.size := (Array.getElem?_eq_some_iff.1 wl).1
    have hy := run_yield (P := P) (args := encs x) wl (by rw [hlp]; exact hps x)
    rw [hlp] at hy
    refine ⟨fn, _, assign, body, hy, roundIn_of_wpIn hfn (hassign _ x W _ ⟨_, run_beginRound wl (by rw [hlp]), ?_⟩)⟩
    have el : ({ state := LoopState.busy, pending := (lp .ready none).pending, fn := (lp .ready none).fn, tmps := (lp .ready none).tmps, params := (lp .ready none).params, assign := (lp .ready none).assign, body := (lp .ready none).body, defers := (lp .ready none).defers } : Loop) = lp .busy none := by rw [hlp]
    rw [el]
    have bl : (W.putObj (w.heap.size + 1) (.loop (lp .busy none))).heap[w.heap.size + 1]? = some (.loop (lp .busy none)) := World.putObj_heap_same hlt
    have bd : (W.putObj (w.heap.size + 1) (.loop (lp .busy none))).heap[w.heap.size]? = some (.deferred (some [])) := (World.putObj_heap_other (by omega)).trans wd
    refine wpIn_mono (hbody _ pre x _ (hI.putObj _ wi (by omega) wl rfl) hx) ?_
    rintro e a3 W3 ⟨rfl, hk, i3⟩
    have l3 := hk.same _ _ (by omega) bl rfl
    have d3 := hk.same _ _ (Nat.le_refl _) bd rfl
    have fin := run_endRound (P := P) none l3
    have er : ({ state := if (none : Option Code).isNone = true then LoopState.ready else LoopState.done, pending := none, fn := (lp .busy none).fn, tmps := (lp .busy none).tmps, params := (lp .busy none).params, assign := (lp .busy none).assign, body := (lp .busy none).body, defers := (lp .busy none).defers } : Loop) = lp .ready none := by rw [hlp]; rfl
    rw [er] at fin
    exact ⟨_, _, fin, rfl, hI.putObj _ i3 (by omega) l3 rfl, World.putObj_heap_same (Array.getElem?_eq_some_iff.1 l3).1, (World.putObj_heap_other (by omega)).trans d3⟩
  · -- behind the function
    rintro e W2 ⟨⟨v, rfl⟩, xs, hS, i2, l2, d2⟩
    have h := run_endLoop (P := P) l2 (by rw [hlp]; simp)
    rw [show (lp .ready none).pending = none by rw [hlp]] at h
    exact ⟨none, _, h, hdone _ xs _ (Nat.le_refl _) hS (hI.putObj _ i2 (by omega) l2 rfl) ((World.putObj_heap_other (by omega)).trans d2)⟩
set_option maxRecDepth 100000 in
set_option maxHeartbeats 2000000 in
/-- slices.Backward over limbs that a round may write to, once they were handed on -/
theorem back_seen (n : Nat) (Bs g N cap : Nat) (ad : Option Addr) (hg : 0 < N → ad = some ⟨g, 0, none⟩) (hm : N ≤ 35184372088832) (xs : List Int) (hxs : xs.length = N) (I : List (Fin N) → World → Prop)
    (hR : ∀ pre W, I pre W → W.cell? ⟨Bs, 0, none⟩ = some (.slice ad N cap) ∧ ∀ i, i + pre.length < N → W.cell? ⟨g, i, none⟩ = some (.int .u32 (xs.getD i 0)))
    (l : Nat) (J : List (Fin N) → World → Prop) (hJ : ∀ pre W, J pre W → I pre W)
    (hY : ∀ pre x W, J pre W → (Downto pre pre.length ∧ x.val + pre.length + 1 = N) → YieldAt Fence.wide (n - 1) Tryz.prog l (limbAt xs x) W fun e W' => e = .returned (.bool true) ∧ J (pre ++ [x]) W')
    (W : World) (h0 : J [] W) :
    CallsIn Fence.wide n Tryz.prog 163 (#[.func (.yield l) #[] #[]] ++ #[.pointer (some ⟨Bs, 0, none⟩)]) W fun e W' => (∃ v, e = .returned v) ∧ ∃ ys, Downto ys N ∧ J ys W' := by
  have hBs := (hR [] W (hJ _ _ h0)).1
  refine callsIn_of_wp Tryz.func163 rfl trivial ?_ rfl
  simp only [Tryz.ntmps163, List.size_toArray, List.length_cons, List.length_nil, Nat.reduceAdd, Nat.reduceSub, Array.replicate_succ, Array.replicate_zero, List.push_toArray, List.append_toArray, List.nil_append, List.cons_append]
  gi_wp2_with fail
  gi_loopw [3] (fun i wr => ∃ (k : Nat) (pre : List (Fin N)), k ≤ N ∧ i = .int .i64 ((N : Int) - 1 - k) ∧ Downto pre k ∧ J pre wr)
    (fun i _ => (intOf i + 1).toNat)
  case atStart => exact ⟨0, [], Nat.zero_le _, by simp, Downto.nil, h0⟩
  case round =>
    obtain ⟨k, pre, hk, rfl, hdn, hJs⟩ := hrel
    obtain ⟨hBr, hc⟩ := hR pre wr (hJ _ _ hJs)
    have hpl := hdn.1
    by_cases hlt : k < N
    · obtain ⟨j, hj⟩ : ∃ j, j + k + 1 = N := ⟨N - k - 1, by omega⟩
      have hji : ((N : Int) - 1 - k) = (j : Int) := by omega
      rw [hji]
      have hjl : j < N := by omega
      obtain rfl := hg (by omega)
      obtain ⟨fn, tmps, assign, body, hy, hR'⟩ := hY pre ⟨j, hjl⟩ wr hJs ⟨by rw [hpl]; exact hdn, by rw [hpl]; exact hj⟩
      simp only [limbAt] at hy
      have hcx := hc j (by omega)
      have hjn : (j : Int) < (N : Int) := by omega
      have HJ := Lib.hid hj
      have HP := Lib.hid hpl
      clear hc hj hji hBs hxs hpl
      gi_wp2
      refine ⟨(fun h => by cases h), hR'.mono ?_⟩
      rintro e W3 ⟨rfl, hJ3⟩
      gi_wp2
      go_roundw
      case rel => exact ⟨k + 1, _, by omega, by have := HJ.out; congr 1; omega, hdn.snoc ⟨j, hjl⟩ HJ.out, hJ3⟩
      case measure => simp [intOf]
    · obtain rfl : k = N := by omega
      have hji : ((k : Int) - 1 - k) = -1 := by omega
      rw [hji]
      clear hji
      gi_wp2
      go_end0
      exact ⟨⟨_, rfl⟩, _, hdn, hJs⟩
end
section
open Go.RowKit
set_option linter.unusedVariables false
set_option linter.unusedSimpArgs false
/-- block g has room for cap limbs, of which the first are zs -/
def Part (w : World) (g cap : Nat) (zs : List Int) : Prop := ∃ cur : Array Value, w.heap[g]? = some (.cells cur 63 (0, 0)) ∧ cur.size = cap ∧ zs.length ≤ cap ∧ cur.toList.take zs.length = zs.map (Value.int .u32)
theorem Part.cell {w : World} {g cap : Nat} {zs : List Int} (h : Part w g cap zs) (i : Nat) (hi : i < zs.length) : w.cell? ⟨g, i, none⟩ = some (.int .u32 (zs.getD i 0)) := by
  obtain ⟨cur, hh, hs, hl, ht⟩ := h
  have e : w.cell? ⟨g, i, none⟩ = cur[i]? := cell_of_row w g i _ 63 (0, 0) hh
  rw [e]
  have h1 : (cur.toList.take zs.length)[i]? = cur[i]? := by rw [List.getElem?_take_of_lt hi]; simp
  rw [← h1, ht]
  simp [hi]
theorem Part.free {w : World} {g cap : Nat} {zs : List Int} (h : Part w g cap zs) (i : Nat) : w.frozen? ⟨g, i, none⟩ = false := by
  obtain ⟨cur, hh, _⟩ := h
  exact frozen_of_row w g i _ 63 hh
theorem Part.lt {w : World} {g cap : Nat} {zs : List Int} (h : Part w g cap zs) : g < w.heap.size := by obtain ⟨cur, hh, _⟩ := h; exact lt_of_block hh
theorem Part.le {w : World} {g cap : Nat} {zs : List Int} (h : Part w g cap zs) : zs.length ≤ cap := by obtain ⟨_, _, _, h, _⟩ := h; exact h
theorem Part.same {w w' : World} {g cap : Nat} {zs : List Int} (h : Part w g cap zs) (e : w'.heap[g]? = w.heap[g]?) : Part w' g cap zs := by
  obtain ⟨cur, hh, r⟩ := h
  exact ⟨cur, e.trans hh, r⟩
theorem Part.alloc {w : World} {g cap : Nat} {zs : List Int} (h : Part w g cap zs) (o : Obj) : Part (w.alloc o) g cap zs := h.same (Below.heap_alloc _ _ _ h.lt)
theorem Part.below {w w' : World} {g cap B : Nat} {zs : List Int} (h : Part w g cap zs) (k : Below B w w') (hb : g < B) : Part w' g cap zs := h.same (k.block g hb)
theorem Part.later {w w' : World} {g cap : Nat} {zs : List Int} (h : Part w g cap zs) (k : Below w.heap.size w w') : Part w' g cap zs := h.below k h.lt
theorem Part.grown {w w' : World} {g cap : Nat} {row : Option Nat} {zs : List Int} (h : Part w g cap zs) (k : w.grownBy w' row) (hb : some g ≠ row) : Part w' g cap zs := h.same (k.block g h.lt hb)
theorem Part.far {w : World} {g cap : Nat} {zs : List Int} (h : Part w g cap zs) {p : Addr} (hne : g ≠ p.block) (u : Value) : Part (w.setCell p u) g cap zs := h.same (Below.heap_setCell _ _ _ _ hne)
theorem Part.set {w : World} {g cap : Nat} {zs : List Int} (h : Part w g cap zs) (i : Nat) (hi : i < zs.length) (x : Int) : Part (w.setCell ⟨g, i, none⟩ (.int .u32 x)) g cap (zs.set i x) := by
  obtain ⟨cur, hh, hs, hl, ht⟩ := h
  refine ⟨cur.setIfInBounds i (.int .u32 x), ?_, by simpa using hs, by simpa using hl, ?_⟩
  · have e := heap_setCell_same w g i _ 63 (.int .u32 x) hh
    rw [e]
  · rw [List.length_set, Array.toList_setIfInBounds, List.take_set, ht, List.map_set]
theorem Part.own (g cap : Nat) {β : Type} (f : β → List Int) : Own (fun s W => Part W g cap (f s)) := fun s X Y row hs hg hrow =>
  hs.grown hg (fun e' => by
    obtain ⟨o, ho, hc⟩ := hrow g e'.symm
    obtain ⟨cur, hh, _⟩ := hs
    rw [hh] at ho; cases ho; cases hc)
theorem Part.num {base g cap : Nat} {w : World} {zs : List Int} (h : Part w g cap zs) (hb : base ≤ g) (hm : cap ≤ maxLen) : Num base w (.slice (some ⟨g, 0, none⟩) zs.length cap) zs := by
  obtain ⟨cur, hh, hs, hl, ht⟩ := h
  exact ⟨by simp, .inr ⟨g, cap, cur, rfl, hb, hh, hl, hm, by simpa using hs, by simpa using ht⟩⟩
theorem Part.lim {w : World} {g cap : Nat} {zs : List Int} (h : Part w g cap zs) : Lim w (some ⟨g, 0, none⟩) zs := .inr ⟨g, 0, rfl, fun i hi => by rw [Nat.zero_add]; exact h.cell i hi⟩
/-- a slice of the call's own limbs: none, or a row -/
theorem Num.parts {base : Nat} {w : World} {v : Value} {zs : List Int} (h : Num base w v zs) : (v = .slice none 0 0 ∧ zs = []) ∨ ∃ g cap, v = .slice (some ⟨g, 0, none⟩) zs.length cap ∧ base ≤ g ∧ cap ≤ maxLen ∧ Part w g cap zs := by
  obtain ⟨h1, h2⟩ := h
  rcases h2 with ⟨hv, hn⟩ | ⟨g, cap, cur, hv, hb, hg, hc, hm, hs, ht⟩
  · exact .inl ⟨hv, List.eq_nil_of_length_eq_zero hn⟩
  · exact .inr ⟨g, cap, hv, hb, hm, cur, hg, by simpa using hs, hc, by simpa using ht⟩
theorem Num.nil_slice {base : Nat} {w : World} {n cap : Nat} {zs : List Int} (h : Num base w (.slice none n cap) zs) : zs = [] ∧ n = 0 ∧ cap = 0 := by
  rcases h.parts with ⟨e, hz⟩ | ⟨g, cp, e, _⟩
  · simp only [Value.slice.injEq] at e
    exact ⟨hz, e.2.1, e.2.2⟩
  · simp at e
theorem Num.some_slice {base : Nat} {w : World} {ad : Addr} {n cap : Nat} {zs : List Int} (h : Num base w (.slice (some ad) n cap) zs) : ∃ g, ad = ⟨g, 0, none⟩ ∧ base ≤ g ∧ n = zs.length ∧ cap ≤ maxLen ∧ Part w g cap zs := by
  rcases h.parts with ⟨e, hz⟩ | ⟨g, cp, e, hb, hm, hp⟩
  · simp at e
  · simp only [Value.slice.injEq, Option.some.injEq] at e
    obtain ⟨rfl, rfl, rfl⟩ := e
    exact ⟨g, rfl, hb, rfl, hm, hp⟩
theorem Num.own (base : Nat) (v : Value) {β : Type} (f : β → List Int) : Own (fun s W => Num base W v (f s)) := fun s X Y row hs hg hrow => by
  rcases hs.parts with ⟨rfl, e⟩ | ⟨g, cp, rfl, hb, hm, hp⟩
  · have h : Num base Y (.slice none 0 0) [] := ⟨rfl, .inl ⟨rfl, rfl⟩⟩
    rw [← e] at h
    exact h
  · exact (Part.own g cp f s X Y row hp hg hrow).num hb hm
theorem bitsN_count {xs : List Int} (h : Wf xs) : (bitsN xs + 31) / 32 = trimN xs xs.length ∧ trimN xs xs.length * 32 ≤ bitsN xs + 31 ∧ bitsN xs ≤ trimN xs xs.length * 32 := by
  unfold bitsN
  split
  · rename_i h0; omega
  · rename_i h0
    obtain ⟨m, hm⟩ : ∃ m, trimN xs xs.length = m + 1 := ⟨trimN xs xs.length - 1, by omega⟩
    have hne := trimN_last xs xs.length (by omega)
    rw [hm, Nat.add_sub_cancel] at hne ⊢
    have hb := h.getD m
    obtain ⟨j, hj, h1, h2⟩ := bitLen_is (show 0 < xs.getD m 0 by omega) (by omega)
    have hj2 : j < 32 := by
      rcases Nat.lt_or_ge j 32 with k | k
      · exact k
      · have := two_mono k
        have e : (2 : Int) ^ 32 = 4294967296 := rfl
        omega
    omega
set_option maxHeartbeats 400000 in
theorem count_any {u : Value} {xs : List Int} {a : Option Addr} {cap : Nat} {w : World} (h1 : Arg w u xs a cap) (hx : xs.length ≤ 35184372088832) :
    Calls Tryz.prog 139 #[u] w fun e w' => e = .returned (.int .i64 (trimN xs xs.length)) ∧ w = w' := by
  obtain ⟨c1, _, c2⟩ := bitsN_count h1.wf
  have hl := trim_le xs
  have hbits := bits_any a xs cap w h1.lim hx h1.le h1.wf
  obtain ⟨rfl, _, _, _⟩ := h1
  obtain ⟨b, hb⟩ : ∃ b, bitsN xs = b := ⟨_, rfl⟩
  rw [hb] at hbits c1 c2
  have hq : Int.tdiv ((b : Int) + 32 - 1) 32 = (trimN xs xs.length : Int) := by
    rw [Int.tdiv_eq_ediv_of_nonneg (by omega), ← c1]
    omega
  have HQ := Lib.hid hq
  clear hq hb
  go_enter Tryz.func139, Tryz.ntmps139
  go_wp2_with fail
  refine hbits.mono ?_
  rintro e w' ⟨rfl, rfl⟩
  clear hbits c1
  have hq := HQ.out
  go_wp2
  go_ret
  exact ⟨rfl, rfl⟩
end
section
open Go.RowKit Go.Shelf
set_option linter.unusedVariables false
set_option linter.unusedSimpArgs false
attribute [local go_sem] Oper.semAt_some
/-- quotient and rest by one limb, from the highest limb on -/
def shortW (d : Int) : List Int → List Int × Int
  | [] => ([], 0)
  | x :: l => (((shortW d l).2 * 4294967296 + x) / d :: (shortW d l).1, ((shortW d l).2 * 4294967296 + x) % d)
theorem shortW_length (d : Int) (xs : List Int) : (shortW d xs).1.length = xs.length := by
  induction xs with
  | nil => rfl
  | cons x xs ih => simp [shortW, ih]
theorem shortW_rest {d : Int} (hd : 0 < d) (xs : List Int) : 0 ≤ (shortW d xs).2 ∧ (shortW d xs).2 < d := by
  cases xs with
  | nil => exact ⟨Int.le_refl _, hd⟩
  | cons x xs => exact ⟨Int.emod_nonneg _ (by omega), Int.emod_lt_of_pos _ hd⟩
theorem shortW_limb {d r x : Int} (hd : 0 < d) (hr : 0 ≤ r ∧ r < d) (hx : 0 ≤ x ∧ x < 4294967296) : 0 ≤ (r * 4294967296 + x) / d ∧ (r * 4294967296 + x) / d < 4294967296 := by
  refine ⟨Int.ediv_nonneg (by omega) (by omega), ?_⟩
  rw [Int.ediv_lt_iff_lt_mul hd]
  have h := mul_le_r (a := r + 1) (b := d) (c := 4294967296) (by omega) (by omega)
  rw [Int.mul_comm 4294967296 d]
  omega
theorem shortW_wf {d : Int} (hd : 0 < d) {xs : List Int} (hx : Wf xs) : Wf (shortW d xs).1 := by
  induction xs with
  | nil => exact Wf.nil
  | cons x xs ih => exact Wf.cons (shortW_limb hd (shortW_rest hd xs) hx.head) (ih hx.tail)
theorem val_shortW (d : Int) (xs : List Int) : val (shortW d xs).1 * d + (shortW d xs).2 = val xs := by
  induction xs with
  | nil => simp [shortW, val]
  | cons x xs ih =>
    simp only [shortW, val]
    have h := Int.emod_add_mul_ediv ((shortW d xs).2 * 4294967296 + x) d
    generalize ((shortW d xs).2 * 4294967296 + x) / d = q at *
    generalize ((shortW d xs).2 * 4294967296 + x) % d = r at *
    grind
/-- what lies in memory where k limbs are still to come -/
def shortM (d : Int) (zs : List Int) (k : Nat) : List Int := zs.take k ++ (shortW d (zs.drop k)).1
theorem shortM_length (d : Int) (zs : List Int) (k : Nat) (hk : k ≤ zs.length) : (shortM d zs k).length = zs.length := by
  unfold shortM
  rw [List.length_append, shortW_length, List.length_take, List.length_drop]
  omega
theorem shortM_top (d : Int) (zs : List Int) : shortM d zs zs.length = zs := by simp [shortM, shortW]
theorem shortW_drop (d : Int) (zs : List Int) (k : Nat) (hk : k < zs.length) : shortW d (zs.drop k) = (((shortW d (zs.drop (k + 1))).2 * 4294967296 + zs.getD k 0) / d :: (shortW d (zs.drop (k + 1))).1, ((shortW d (zs.drop (k + 1))).2 * 4294967296 + zs.getD k 0) % d) := by
  rw [List.drop_eq_getElem_cons hk]
  simp only [shortW]
  rw [show zs[k] = zs.getD k 0 by simp [hk]]
theorem shortM_step (d : Int) (zs : List Int) (k : Nat) (hk : k < zs.length) : (shortM d zs (k + 1)).set k (((shortW d (zs.drop (k + 1))).2 * 4294967296 + zs.getD k 0) / d) = shortM d zs k := by
  unfold shortM
  rw [shortW_drop d zs k hk, List.take_succ_eq_append_getElem hk, List.append_assoc, List.set_append_right _ _ (by rw [List.length_take]; omega)]
  rw [List.length_take, Nat.min_eq_left (by omega), Nat.sub_self]
  simp
theorem shortM_low (d : Int) (zs : List Int) (k i : Nat) (hk : k ≤ zs.length) (hi : i < k) : (shortM d zs k).getD i 0 = zs.getD i 0 := by
  unfold shortM
  simp only [List.getD]
  rw [List.getElem?_append_left (by rw [List.length_take]; omega), List.getElem?_take_of_lt hi]
theorem or_u64' {x y : Int} (hx : 0 ≤ x ∧ x < 4294967296) (hy : 0 ≤ y ∧ y < 4294967296) : bits .or .u64 (x * 4294967296) y = x * 4294967296 + y := by rw [or_u64 hx hy]; omega
/-- how far a walk from above has come -/
structure Down (N : Nat) (pre : List (Fin N)) : Prop where
  on : Downto pre pre.length
  le : pre.length ≤ N
theorem Down.snoc {N : Nat} {pre : List (Fin N)} (h : Down N pre) (x : Fin N) (hx : x.val + pre.length + 1 = N) : Down N (pre ++ [x]) := by
  have e : (pre ++ [x]).length = pre.length + 1 := by simp
  exact ⟨by rw [e]; exact h.on.snoc x hx, by rw [e]; omega⟩
set_option maxRecDepth 100000 in
set_option maxHeartbeats 4000000 in
theorem short1_any {u : Value} {w : World} {xs : List Int} {a : Option Addr} {cap : Nat} (d : Int) (h1 : Arg w u xs a cap) (hx : xs.length ≤ 35184372088832) (hd : 0 < d ∧ d < 4294967296) :
    Calls Tryz.prog 140 #[u, .int .u32 d] w fun e w' => ∃ r, e = .returned (.tuple #[r, .int .u32 (val xs % d), .int .i64 0]) ∧ ∃ zs, Res w.heap.size w' r zs (val xs / d) ∧ zs.length ≤ xs.length ∧ Below w.heap.size w w' := by
  obtain ⟨hd0, hd1⟩ := hd
  obtain ⟨n, hn⟩ : ∃ n : Nat, Hid (3 ≤ n) := ⟨3, Nat.le_refl 3⟩
  refine (callsIn_wide (n := n)).1 ?_
  refine callsIn_of_wp_marks Tryz.func140 rfl trivial ?_ rfl
  simp only [Tryz.ntmps140, List.size_toArray, List.length_cons, List.length_nil, Nat.reduceAdd, Nat.reduceSub, Array.replicate_succ, Array.replicate_zero, List.push_toArray, List.append_toArray, List.nil_append, List.cons_append]
  have hdz : (d == 0) = false := by simp; omega
  gi_wp2_with fail
  have A1 := h1.later ((Below.refl _ w).alloc (Nat.le_refl _) (Obj.cells #[Value.int IntKind.u32 d] 63))
  refine wideCall ((trim_res A1 hx).mono ?_)
  rintro e w1 ⟨r1, zs, rfl, q1, n1, hb1⟩
  rw [World.size_alloc] at q1 hb1
  have k1 : Boxed w1 w.heap.size 63 (.int .u32 d) := (hb1.block _ (Nat.lt_succ_self _)).trans (Boxed.new w 63 (.int .u32 d))
  have hB1 : Below w.heap.size w w1 := ((Below.refl _ w).alloc (Nat.le_refl _) _).trans (hb1.mono (Nat.le_succ _))
  have hs1 : w.heap.size + 1 ≤ w1.heap.size := by have := hb1.size; rw [World.size_alloc] at this; exact this
  obtain ⟨ad, cp, rfl, _, _, _, _⟩ := q1.num.read
  gi_wp2_with fail
  refine wideCall ((back_any _ _ _ _).mono ?_)
  rintro e w' ⟨rfl, rfl⟩
  gi_wp2_with fail
  have h3 : 3 ≤ n := hn
  obtain ⟨N, hN⟩ : ∃ N, zs.length = N := ⟨_, rfl⟩
  rw [hN]
  have nq0 := q1.num
  rw [hN] at nq0
  have j7 := ((Boxed.new w1 56 (.slice ad N cp)).alloc (Obj.cells #[Value.int IntKind.u64 0] 145)).alloc (Obj.cells #[Value.slice ad N cp] 56)
  have j8 := (Boxed.new (w1.alloc (Obj.cells #[Value.slice ad N cp] 56)) 145 (.int .u64 0)).alloc (Obj.cells #[Value.slice ad N cp] 56)
  have j9 := Boxed.new ((w1.alloc (Obj.cells #[Value.slice ad N cp] 56)).alloc (Obj.cells #[Value.int IntKind.u64 0] 145)) 56 (.slice ad N cp)
  have j3 := ((k1.alloc (Obj.cells #[Value.slice ad N cp] 56)).alloc (Obj.cells #[Value.int IntKind.u64 0] 145)).alloc (Obj.cells #[Value.slice ad N cp] 56)
  have jb : Below w1.heap.size w1 (((w1.alloc (Obj.cells #[Value.slice ad N cp] 56)).alloc (Obj.cells #[Value.int IntKind.u64 0] 145)).alloc (Obj.cells #[Value.slice ad N cp] 56)) :=
    (((Below.refl _ w1).alloc (Nat.le_refl _) _).alloc (by simp) _).alloc (by simp; omega) _
  have js : (((w1.alloc (Obj.cells #[Value.slice ad N cp] 56)).alloc (Obj.cells #[Value.int IntKind.u64 0] 145)).alloc (Obj.cells #[Value.slice ad N cp] 56)).heap.size = w1.heap.size + 3 := by simp
  have jq := nq0.later jb
  have jB := hB1.trans (jb.mono (Nat.le_trans (Nat.le_succ _) hs1))
  simp only [World.size_alloc] at j8 j9
  generalize ((w1.alloc (Obj.cells #[Value.slice ad N cp] 56)).alloc (Obj.cells #[Value.int IntKind.u64 0] 145)).alloc (Obj.cells #[Value.slice ad N cp] 56) = W0 at *
  have hNw : N ≤ 35184372088832 := by omega
  have wz := q1.wf
  have hqe := q1.eq
  have hglt : ∀ g, ad = some ⟨g, 0, none⟩ → g < w1.heap.size := fun g e => (nq0.lt g (by rw [e]; rfl)).2
  have HN := Lib.hid hN
  have HQE := Lib.hid hqe
  have hn1 : N ≤ xs.length := by omega
  have jq2 : Num (w.heap.size + 1) W0 (.slice ad N cp) (shortM d zs N) := by rw [← hN, shortM_top, hN]; exact jq
  clear q1 nq0 k1 hB1 hb1 A1 jb h1 hN hqe n1
  refine range_seen (gf := 163) (lb := #[.pointer (some ⟨w1.heap.size + 1 + 1, 0, none⟩)]) rfl (enters_of Tryz.func163 (by kernel_rfl) rfl) (encs := limbAt zs (n := N)) (fun _ => rfl)
    (fun (pre : List (Fin N)) X => Down N pre ∧ ((((Num (w.heap.size + 1) X (.slice ad N cp) (shortM d zs (N - pre.length)) ∧ Boxed X w.heap.size 63 (.int .u32 d)) ∧ Boxed X w1.heap.size 56 (.slice ad N cp)) ∧
      Boxed X (w1.heap.size + 1) 145 (.int .u64 (shortW d (zs.drop (N - pre.length))).2)) ∧ Boxed X (w1.heap.size + 1 + 1) 56 (.slice ad N cp)) ∧ Below w.heap.size w X)
    (fun pre x => Downto pre pre.length ∧ x.val + pre.length + 1 = N) (fun ys => Downto ys N)
    (OwnFrom.and (ownFrom_pure _ _) (OwnFrom.and (Own.from (Own.and2 (Own.and2 (Own.and2 (Own.and2 (Num.own _ _ _) (boxed_own _ _ _)) (boxed_own _ _ _)) (boxed_own _ _ _)) (boxed_own _ _ _)) _) (ownFrom_below (by omega) (by omega))))
    ?start (fun (x : Fin N) => { tmps := #[u, .int .u32 d, undef, .pointer (some ⟨w.heap.size, 0, none⟩), .slice none 0 0, .int .u32 0, .int .i64 0, .pointer (some ⟨w1.heap.size, 0, none⟩), .pointer (some ⟨w1.heap.size + 1, 0, none⟩), .int .i64 (x.val : Int), .int .u32 (zs[x.val]?.getD 0), .int .u32 d,
      .bool false, u, .slice ad N cp, .slice ad N cp, .func (.func 163) #[] #[.pointer (some ⟨w1.heap.size + 1 + 1, 0, none⟩)], .int .i64 (x.val : Int), .int .u32 (zs[x.val]?.getD 0),
      undef, undef, undef, undef, undef, undef, undef, undef, undef, undef, undef, undef, undef, undef, undef, undef, undef, undef, undef, undef, undef], defers := [] }) ?seq ?assign ?body ?done
  case start =>
    refine ⟨⟨Downto.nil, Nat.zero_le _⟩, ⟨⟨⟨⟨?_, j3⟩, j7⟩, ?_⟩, j9⟩, jB⟩
    · exact jq2
    · rw [List.length_nil, Nat.sub_zero, ← HN.out, List.drop_length]; exact j8
  case seq =>
    intro l J hJ hY W hJ0
    obtain ⟨g, hg⟩ : ∃ g, 0 < N → ad = some ⟨g, 0, none⟩ := by
      rcases ad with _ | ad
      · exact ⟨0, fun h => by have h2 := jq.nil_slice; rw [h2.2.1] at h; exact absurd h (Nat.lt_irrefl 0)⟩
      · obtain ⟨g, rfl, _⟩ := jq.some_slice
        exact ⟨g, fun _ => rfl⟩
    refine back_seen (n - 1) (w1.heap.size + 1 + 1) g N cp ad hg hNw zs HN.out _ (fun pre X h => ⟨h.2.1.2.cell, fun i hi => ?_⟩) l J hJ hY W hJ0
    have hq := h.2.1.1.1.1.1
    rw [hg (by omega)] at hq
    obtain ⟨g', e, _, _, _, hp⟩ := hq.some_slice
    cases e
    have hl := HN.out
    have hc := hp.cell i (by rw [shortM_length _ _ _ (by omega)]; omega)
    rw [shortM_low _ _ _ _ (by omega) (by omega)] at hc
    exact hc
  case assign =>
    intro l x X K hK
    simp only [limbAt]
    gi_wp2
    exact hK
  case body =>
    rintro l pre ⟨j, hj⟩ X ⟨hdn, ⟨⟨⟨⟨nq, b3⟩, b7⟩, b8⟩, b9⟩, hB⟩ ⟨_, hnx⟩
    simp only at hnx
    have hl := HN.out
    have ejp : N - pre.length = j + 1 := by omega
    have ejp2 : N - (pre ++ [(⟨j, hj⟩ : Fin N)]).length = j := by simp; omega
    rw [ejp] at nq b8
    rw [ejp2]
    have hdn' : Down N (pre ++ [(⟨j, hj⟩ : Fin N)]) := hdn.snoc ⟨j, hj⟩ hnx
    have HDN := Lib.hid hdn'
    clear hdn'
    obtain ⟨br0, br1⟩ := shortW_rest hd0 (zs.drop (j + 1))
    obtain ⟨bx0, bx1⟩ := wz.getD j
    obtain ⟨bq0, bq1⟩ := shortW_limb hd0 ⟨br0, br1⟩ ⟨bx0, bx1⟩
    have hstep := shortM_step d zs j (by omega)
    have hdrop := shortW_drop d zs j (by omega)
    obtain ⟨x, hx⟩ : ∃ x, zs.getD j 0 = x := ⟨_, rfl⟩
    obtain ⟨r, hr⟩ : ∃ r, (shortW d (zs.drop (j + 1))).2 = r := ⟨_, rfl⟩
    rw [hx] at bx0 bx1 bq0 bq1 hstep hdrop
    rw [hr] at br0 br1 b8 bq0 bq1 hstep hdrop
    have hx' : zs[j]?.getD 0 = x := hx
    simp only [hx']
    rw [hdrop]
    have hor : bits .or .u64 (r * 4294967296) x = r * 4294967296 + x := or_u64' ⟨br0, by omega⟩ ⟨bx0, bx1⟩
    obtain ⟨q, hq⟩ : ∃ q, (r * 4294967296 + x) / d = q := ⟨_, rfl⟩
    obtain ⟨m, hm⟩ : ∃ m, (r * 4294967296 + x) % d = m := ⟨_, rfl⟩
    rw [hq] at bq0 bq1 hstep
    have htd : Int.tdiv (r * 4294967296 + x) d = q := by rw [Int.tdiv_eq_ediv_of_nonneg (by omega), hq]
    have htm : Int.tmod (r * 4294967296 + x) d = m := by rw [Int.tmod_eq_emod_of_nonneg (by omega), hm]
    have hm0 : 0 ≤ m := by rw [← hm]; exact Int.emod_nonneg _ (by omega)
    have hm1 : m < d := by rw [← hm]; exact Int.emod_lt_of_pos _ hd0
    obtain ⟨g, rfl, hg, hp⟩ : ∃ g, ad = some ⟨g, 0, none⟩ ∧ w.heap.size + 1 ≤ g ∧ Part X g cp (shortM d zs (j + 1)) := by
      rcases ad with _ | ad
      · have h2 := nq.nil_slice; omega
      · obtain ⟨g, rfl, h1, _, _, h2⟩ := nq.some_slice
        exact ⟨g, rfl, h1, h2⟩
    have hgw := hglt g rfl
    have hle : cp ≤ maxLen := by obtain ⟨g', e, _, _, h, _⟩ := nq.some_slice; exact h
    have hlen : (shortM d zs (j + 1)).length = N := by rw [shortM_length _ _ _ (by omega), hl]
    have c8 := b8.cell
    have f8 := b8.frozen
    have c7 := b7.cell
    have c3 := b3.cell
    have hsX := hB.size
    have HST := Lib.hid hstep
    have HM := Lib.hid hm
    have hjN : (j : Int) < (N : Int) := by omega
    clear hstep hdrop hq hm hx hr hx' hl hlen nq
    gi_wp2_with fail
    have p8 : Boxed (X.setCell ⟨w1.heap.size + 1, 0, none⟩ (.int .u64 (r * 4294967296 + x))) (w1.heap.size + 1) 145 (.int .u64 (r * 4294967296 + x)) := b8.set _
    have p7 : Boxed (X.setCell ⟨w1.heap.size + 1, 0, none⟩ (.int .u64 (r * 4294967296 + x))) w1.heap.size 56 (.slice (some ⟨g, 0, none⟩) N cp) := Boxed.far b7 (by simp) _
    have p9 : Boxed (X.setCell ⟨w1.heap.size + 1, 0, none⟩ (.int .u64 (r * 4294967296 + x))) (w1.heap.size + 1 + 1) 56 (.slice (some ⟨g, 0, none⟩) N cp) := Boxed.far b9 (by simp) _
    have p3 : Boxed (X.setCell ⟨w1.heap.size + 1, 0, none⟩ (.int .u64 (r * 4294967296 + x))) w.heap.size 63 (.int .u32 d) := Boxed.far b3 (by simp; omega) _
    have pp := hp.far (p := ⟨w1.heap.size + 1, 0, none⟩) (by simp; omega) (.int .u64 (r * 4294967296 + x))
    have pB : Below w.heap.size w (X.setCell ⟨w1.heap.size + 1, 0, none⟩ (.int .u64 (r * 4294967296 + x))) := hB.setCell (p := ⟨w1.heap.size + 1, 0, none⟩) (by simp; omega) _
    have pK : KeepsOthers X (X.setCell ⟨w1.heap.size + 1, 0, none⟩ (.int .u64 (r * 4294967296 + x))) := KeepsOthers.setCell _ _ _
    clear b8 b7 b9 b3 hp hB c8 f8 c7 c3
    generalize (X.setCell ⟨w1.heap.size + 1, 0, none⟩ (.int .u64 (r * 4294967296 + x))) = Y at *
    have c8 := p8.cell
    have c7 := p7.cell
    have c3 := p3.cell
    have hwd : IntKind.u64.wrap d = d := wrap_u64 (by omega) (by omega)
    have hwq : IntKind.u64.wrap q = q := wrap_u64 (by omega) (by omega)
    have hwq2 : IntKind.u32.wrap q = q := by rw [wrap_u32]; exact Int.emod_eq_of_lt bq0 bq1
    have hdne : d ≠ 0 := by omega
    have cg := pp.cell j (by rw [shortM_length _ _ _ (by have := HN.out; omega)]; have := HN.out; omega)
    have fg := pp.free j
    refine region_round (fun X' => X'.cell? ⟨w1.heap.size, 0, none⟩ = some (.slice (some ⟨g, 0, none⟩) N cp) ∧ X'.cell? ⟨w1.heap.size + 1, 0, none⟩ = some (.int .u64 (r * 4294967296 + x)) ∧ X'.cell? ⟨w.heap.size, 0, none⟩ = some (.int .u32 d))
      (by kernel_rfl) (by kernel_rfl) (by rintro ⟨a', w', h⟩; exact absurd (show Exit.outgrown = Exit.normal from h.1) (by simp)) ⟨c7, c8, c3⟩ (fun hHeld => ?_)
    refine wpAnyH_take (i := 0) (v := ?va0) rfl (by kernel_rfl) (by kernel_rfl) (by kernel_rfl) (fun _ _ _ h => h) (Or.inl ⟨by rfl, ?ha0⟩) (by assumption) ?ra0
    case ha0 =>
      intro w hSw
      try dsimp only at hSw
      go_simp
      try with_reducible rfl
    try simp only [Act.put, List.setIfInBounds_toArray, List.set_cons_zero, List.set_cons_succ]
    refine wpAnyH_take (i := 1) (v := ?va1) rfl (by kernel_rfl) (by kernel_rfl) (by kernel_rfl) (fun _ _ _ h => h) (Or.inl ⟨by rfl, ?ha1⟩) (by assumption) ?ra1
    case ha1 =>
      intro w hSw
      try dsimp only at hSw
      go_simp
      try with_reducible rfl
    try simp only [Act.put, List.setIfInBounds_toArray, List.set_cons_zero, List.set_cons_succ]
    refine wpAnyH_take (i := 2) (v := ?va2) rfl (by kernel_rfl) (by kernel_rfl) (by kernel_rfl) (fun _ _ _ h => h) (Or.inl ⟨by rfl, ?ha2⟩) (by assumption) ?ra2
    case ha2 =>
      intro w hSw
      try dsimp only at hSw
      go_simp
      try with_reducible rfl
    try simp only [Act.put, List.setIfInBounds_toArray, List.set_cons_zero, List.set_cons_succ]
    refine wpAnyH_take (i := 3) (v := ?va3) rfl (by kernel_rfl) (by kernel_rfl) (by kernel_rfl) (fun _ _ _ h => h) (Or.inl ⟨by rfl, ?ha3⟩) (by assumption) ?ra3
    case ha3 =>
      intro w hSw
      try dsimp only at hSw
      go_simp
      try with_reducible rfl
    try simp only [Act.put, List.setIfInBounds_toArray, List.set_cons_zero, List.set_cons_succ]
    refine wpAnyH_take (i := 4) (v := ?va4) rfl (by kernel_rfl) (by kernel_rfl) (by kernel_rfl) (fun _ _ _ h => h) (Or.inl ⟨by rfl, ?ha4⟩) (by assumption) ?ra4
    case ha4 =>
      intro w hSw
      try dsimp only at hSw
      go_simp
      try with_reducible rfl
    try simp only [Act.put, List.setIfInBounds_toArray, List.set_cons_zero, List.set_cons_succ]
    refine wpAnyH_take (i := 5) (v := ?va5) rfl (by kernel_rfl) (by kernel_rfl) (by kernel_rfl) (fun _ _ _ h => h) (Or.inl ⟨by rfl, ?ha5⟩) (by assumption) ?ra5
    case ha5 =>
      intro w hSw
      try dsimp only at hSw
      go_simp
      try with_reducible rfl
    try simp only [Act.put, List.setIfInBounds_toArray, List.set_cons_zero, List.set_cons_succ]
    refine wpAnyH_take (i := 6) (v := ?va6) rfl (by kernel_rfl) (by kernel_rfl) (by kernel_rfl) (fun _ _ _ h => h) (Or.inl ⟨by rfl, ?ha6⟩) (by assumption) ?ra6
    case ha6 =>
      intro w hSw
      try dsimp only at hSw
      go_simp
      try with_reducible rfl
    try simp only [Act.put, List.setIfInBounds_toArray, List.set_cons_zero, List.set_cons_succ]
    refine wpAnyH_take (i := 7) (v := ?va7) rfl (by kernel_rfl) (by kernel_rfl) (by kernel_rfl) (fun _ _ _ h => h) (Or.inl ⟨by rfl, ?ha7⟩) (by assumption) ?ra7
    case ha7 =>
      intro w hSw
      try dsimp only at hSw
      go_simp
      try with_reducible rfl
    try simp only [Act.put, List.setIfInBounds_toArray, List.set_cons_zero, List.set_cons_succ]
    refine wpAnyH_ready (rs := [8]) (by kernel_rfl) (by simp) ?_
    refine AllReadyH.cons rfl (fun K hK => ?sb8) AllReadyH.nil
    go_simp
    refine hK.out _ _ ?kb8 (fun hHeld => ?mb8)
    case kb8 =>
      try dsimp only
      exact ⟨(World.cell?_setCell_far _ _ _ _ (by simp <;> omega)).trans hHeld.1, (World.cell?_setCell_far _ _ _ _ (by simp <;> omega)).trans hHeld.2.1, (World.cell?_setCell_far _ _ _ _ (by simp <;> omega)).trans hHeld.2.2⟩
    clear hK K
    try simp only [Act.put, List.setIfInBounds_toArray, List.set_cons_zero, List.set_cons_succ]
    refine wpAnyH_done (by kernel_rfl) ?_ _
    have hj' : (shortM d zs j).length = N := shortM_length _ _ _ (by have := HN.out; omega) |>.trans HN.out
    have hz1 : (shortM d zs (j + 1)).length = N := shortM_length _ _ _ (by have := HN.out; omega) |>.trans HN.out
    have t8 : Boxed (Y.setCell ⟨g, j, none⟩ (.int .u32 q)).drew (w1.heap.size + 1) 145 (.int .u64 (r * 4294967296 + x)) := Boxed.far p8 (by simp; omega) _
    have t7 : Boxed (Y.setCell ⟨g, j, none⟩ (.int .u32 q)).drew w1.heap.size 56 (.slice (some ⟨g, 0, none⟩) N cp) := Boxed.far p7 (by simp; omega) _
    have t9 : Boxed (Y.setCell ⟨g, j, none⟩ (.int .u32 q)).drew (w1.heap.size + 1 + 1) 56 (.slice (some ⟨g, 0, none⟩) N cp) := Boxed.far p9 (by simp; omega) _
    have t3 : Boxed (Y.setCell ⟨g, j, none⟩ (.int .u32 q)).drew w.heap.size 63 (.int .u32 d) := Boxed.far p3 (by simp; omega) _
    have tp : Part (Y.setCell ⟨g, j, none⟩ (.int .u32 q)).drew g cp (shortM d zs j) := by
      have h := pp.set j (by omega) q
      rw [HST.out] at h
      exact h
    have tB : Below w.heap.size w (Y.setCell ⟨g, j, none⟩ (.int .u32 q)).drew := (pB.setCell (p := ⟨g, j, none⟩) (by simp; omega) _).drew
    have tK : KeepsOthers X (Y.setCell ⟨g, j, none⟩ (.int .u32 q)).drew := (pK.trans (KeepsOthers.setCell _ _ _)).trans (KeepsOthers.drew _)
    clear hHeld p8 p7 p9 p3 pp pB pK c8 c7 c3 cg fg
    generalize (Y.setCell ⟨g, j, none⟩ (.int .u32 q)).drew = Z at *
    have d8 := t8.cell
    have f8 := t8.frozen
    have d3 := t3.cell
    gi_wp2_with fail
    refine ⟨(tK.trans (KeepsOthers.setCell _ _ _)).from _, HDN.out, ⟨⟨⟨⟨?_, Boxed.far t3 (by simp; omega) _⟩, Boxed.far t7 (by simp) _⟩, ?_⟩, Boxed.far t9 (by simp) _⟩, tB.setCell (p := ⟨w1.heap.size + 1, 0, none⟩) (by simp; omega) _⟩
    · have h := (tp.far (p := ⟨w1.heap.size + 1, 0, none⟩) (by simp; omega) (.int .u64 m)).num hg hle
      rw [hj'] at h
      exact h
    · rw [HM.out]
      exact t8.set _
  case done =>
    rintro D ys X hD hdn ⟨_, ⟨⟨⟨⟨nq, b3⟩, b7⟩, b8⟩, b9⟩, hB⟩ hK
    have hyl : ys.length = N := hdn.1
    rw [hyl, Nat.sub_self] at nq b8
    have e1 : shortM d zs 0 = (shortW d zs).1 := by simp [shortM]
    rw [e1] at nq
    rw [List.drop_zero] at b8
    have hsX := hB.size
    have hl := HN.out
    obtain ⟨br0, br1⟩ := shortW_rest hd0 zs
    have hv := val_shortW d zs
    obtain ⟨e2, e3⟩ := quo_eq (show 0 < d by omega) hv ⟨br0, br1⟩
    rw [HQE.out] at e2 e3
    have wq := shortW_wf hd0 wz
    obtain ⟨r, hr⟩ : ∃ r, (shortW d zs).2 = r := ⟨_, rfl⟩
    have hln : (shortW d zs).1.length = N := by rw [shortW_length, hl]
    rw [hr] at b8 br0 br1 e3
    have hwr : IntKind.u32.wrap r = r := by rw [wrap_u32]; exact Int.emod_eq_of_lt br0 (by omega)
    have c8 := b8.cell
    have c7 := b7.cell
    have E2 := Lib.hid e2
    have E3 := Lib.hid e3
    obtain ⟨qs, hqs⟩ : ∃ qs, (shortW d zs).1 = qs := ⟨_, rfl⟩
    rw [hqs] at nq wq hln
    have E4 := Lib.hid hqs
    obtain ⟨adq, capq, hq1, hq2, hq3, _, _⟩ := nq.read
    rw [hln] at hq1
    simp only [Value.slice.injEq, true_and] at hq1
    obtain ⟨rfl, rfl⟩ := hq1
    have Aq : Arg X.drew (.slice ad N cp) qs ad cp := ⟨by rw [hln], hq2.later ((Below.refl X.heap.size X).drew), hq3, wq⟩
    clear hv e1 e2 e3 hqs hr nq hq2 hq3 jq jq2 j3 j7 j8 j9
    gi_wp2_with fail
    refine wpIn_wide.2 ?_
    go_region_held3 (fun X' => X'.cell? ⟨w1.heap.size, 0, none⟩ = some (.slice ad N cp) ∧ X'.cell? ⟨w1.heap.size + 1, 0, none⟩ = some (.int .u64 r))
      (first | exact ⟨(hb2.cell (p := ⟨w1.heap.size, 0, none⟩) (World.block_lt_of_cell? X _ c7)).trans c7, (hb2.cell (p := ⟨w1.heap.size + 1, 0, none⟩) (World.block_lt_of_cell? X _ c8)).trans c8⟩ | go_keep)
      (first | (go_at_call 138; refine (trim_res Aq (by omega)).mono ?_; rintro e w2 ⟨r2, z2, rfl, q2, n2, hb2⟩))
    gi_wp2_with fail
    have hDX : D < X.heap.size := (Array.getElem?_eq_some_iff.1 hK).1
    have hK2 : w2.heap[D]? = some (.deferred (some [])) := (hb2.block D hDX).trans hK
    refine ⟨by simp, .inl ⟨_, _, rfl, run_takeDeferred hK2, ?_⟩⟩
    have hs2 : X.heap.size ≤ w2.heap.size := hb2.size
    have ev : val qs = val xs / d := by rw [← E4.out, E2.out]
    refine ⟨.tuple #[r2, .int .u32 r, .int .i64 0], by simp [results, Tryz.f140, go_sem], r2, by rw [← E3.out], z2, ⟨ownsRow_putObj (q2.num.mono (show w.heap.size ≤ X.drew.heap.size from hsX)) (.deferred none) hK2 rfl, q2.wf, q2.full, q2.eq.trans ev⟩, by omega, ?_⟩
    have hb2' : Below w.heap.size X w2 := Below.mono (show Below X.heap.size X w2 from ⟨hb2.os, hb2.tape, hb2.output, hb2.size, hb2.block⟩) hsX
    exact (hB.trans hb2').trans (belowK_b (w := w) (Nat.le_refl _) w2 D _ _ (by omega) hK2 rfl rfl)
end
section
open Go.RowKit
set_option linter.unusedVariables false
set_option linter.unusedSimpArgs false
theorem est_of {ps ys : List Int} (n : Nat) (hp : Wf ps) (hy : Wf ys) (lp : ps.length = n + 3) (ly : ys.length = n + 2) (ht : 2147483648 ≤ ys.getD (n + 1) 0) (hlt : val ps < 4294967296 * val ys) :
    Est (val ps) (val ys) (ps.getD (n + 2) 0 * 4294967296 + ps.getD (n + 1) 0) (ps.getD n 0) (ys.getD (n + 1) 0) (ys.getD n 0) (4294967296 ^ n) (val (ps.take n)) (val (ys.take n)) := by
  have hU : val ps = (ps.getD (n + 2) 0 * 4294967296 + ps.getD (n + 1) 0) * (4294967296 * 4294967296 ^ n) + ps.getD n 0 * 4294967296 ^ n + val (ps.take n) := by
    have h := val_take_succ ps (n + 2)
    have e2 : (4294967296 : Int) ^ (n + 2) = 4294967296 * (4294967296 * 4294967296 ^ n) := by rw [Int.pow_succ, Int.pow_succ, Int.mul_comm, Int.mul_comm (4294967296 ^ n)]
    have e1 : (4294967296 : Int) ^ (n + 1) = 4294967296 * 4294967296 ^ n := by rw [Int.pow_succ, Int.mul_comm]
    rw [List.take_of_length_le (by omega), val_take_succ ps (n + 1), val_take_succ ps n, e2, e1] at h
    rw [h]
    generalize (4294967296 : Int) ^ n = P
    generalize ps.getD (n + 2) 0 = x
    generalize ps.getD (n + 1) 0 = y
    generalize ps.getD n 0 = z
    generalize val (ps.take n) = t
    clear h hp hy lp ly ht hlt e1 e2
    grind
  have hV : val ys = ys.getD (n + 1) 0 * (4294967296 * 4294967296 ^ n) + ys.getD n 0 * 4294967296 ^ n + val (ys.take n) := by
    have h := val_take_succ ys (n + 1)
    rw [List.take_of_length_le (by omega), val_take_succ ys n, Int.pow_succ] at h
    rw [h]
    generalize (4294967296 : Int) ^ n = P
    grind
  have b1 := hp.getD (n + 2)
  have b2 := hp.getD (n + 1)
  have b3 := hp.getD n
  have b4 := hy.getD (n + 1)
  have b5 := hy.getD n
  have l1 := val_lt (hp.take n)
  have l2 := val_lt (hy.take n)
  rw [List.length_take, Nat.min_eq_left (by omega)] at l1 l2
  exact ⟨hU, hV, by have := pow_pos' n; omega, val_nonneg (hp.take n), l1, val_nonneg (hy.take n), l2, ht, b4.2, b5.1, b5.2, b3.1, b3.2, by omega, hlt⟩
set_option maxRecDepth 100000 in
set_option maxHeartbeats 4000000 in
theorem estimate_any {pg po bg bo : Nat} {ps ys : List Int} {capp capb : Nat} {w : World} (n : Nat) (hp : Wf ps) (hy : Wf ys) (lp : ps.length = n + 3) (ly : ys.length = n + 2) (hm : n ≤ 1099511627776)
    (cp : ∀ i, i < ps.length → w.cell? ⟨pg, po + i, none⟩ = some (.int .u32 (ps.getD i 0))) (cy : ∀ i, i < ys.length → w.cell? ⟨bg, bo + i, none⟩ = some (.int .u32 (ys.getD i 0)))
    (ht : 2147483648 ≤ ys.getD (n + 1) 0) (hlt : val ps < 4294967296 * val ys) :
    Calls Tryz.prog 166 #[.slice (some ⟨pg, po, none⟩) ps.length capp, .slice (some ⟨bg, bo, none⟩) ys.length capb] w fun e w' =>
      ∃ q : Int, e = .returned (.int .u64 q) ∧ 0 ≤ q ∧ q ≤ 4294967295 ∧ 0 ≤ val ps - q * val ys + val ys ∧ val ps < (q + 1) * val ys ∧ Below w.heap.size w w' := by
  have E := est_of n hp hy lp ly ht hlt
  have c2 := cp (n + 2) (by omega)
  have c1 := cp (n + 1) (by omega)
  have c0 := cp n (by omega)
  have d1 := cy (n + 1) (by omega)
  have d0 := cy n (by omega)
  obtain ⟨bp0, bp1⟩ := hp.getD (n + 2)
  obtain ⟨bq0, bq1⟩ := hp.getD (n + 1)
  obtain ⟨u2, h2⟩ : ∃ u, ps.getD (n + 2) 0 = u := ⟨_, rfl⟩
  obtain ⟨u1, h1⟩ : ∃ u, ps.getD (n + 1) 0 = u := ⟨_, rfl⟩
  obtain ⟨u0, h0⟩ : ∃ u, ps.getD n 0 = u := ⟨_, rfl⟩
  obtain ⟨v1, g1⟩ : ∃ u, ys.getD (n + 1) 0 = u := ⟨_, rfl⟩
  obtain ⟨v0, g0⟩ : ∃ u, ys.getD n 0 = u := ⟨_, rfl⟩
  rw [h2] at E c2 bp0 bp1
  rw [h1] at E c1 bq0 bq1
  rw [h0] at E c0
  rw [g1] at E d1
  rw [g0] at E d0
  obtain ⟨N, hN⟩ : ∃ N, ps.length = N := ⟨_, rfl⟩
  obtain ⟨m, hm'⟩ : ∃ m, ys.length = m := ⟨_, rfl⟩
  obtain ⟨j1, hj1⟩ : ∃ j1, n + 1 = j1 := ⟨_, rfl⟩
  rw [hN, hm']
  rw [show n + 2 = m by omega] at c2
  rw [hj1] at c1 d1
  have e1 : (m : Int) - 1 = (j1 : Int) := by omega
  have e0 : (m : Int) - 2 = (n : Int) := by omega
  have i1 : (j1 : Int) < m := by omega
  have i0 : (n : Int) < m := by omega
  have i2 : (m : Int) < N := by omega
  have i3 : (j1 : Int) < N := by omega
  have i4 : (n : Int) < N := by omega
  have i5 : m ≤ 1099511627778 := by omega
  clear cp cy h2 h1 h0 g1 g0 ht hlt hp hy lp ly hN hm' hj1
  generalize val ps = U at *
  generalize val ys = V at *
  obtain ⟨high, hh⟩ : ∃ high, u2 * 4294967296 + u1 = high := ⟨_, rfl⟩
  have hor : bits .or .u64 (u2 * 4294967296) u1 = high := by rw [or_u64 ⟨bp0, bp1⟩ ⟨bq0, bq1⟩]; omega
  rw [hh] at E
  have a0 := E.a0
  have a1 := E.a1
  have b0 := E.b0
  have b1 := E.b1
  have l0 := E.l0
  have l1 := E.l1
  have hh0 := E.h0
  have hhm : high < 18446744073709551616 := by omega
  obtain ⟨q0, hq0⟩ : ∃ q, high / v1 = q := ⟨_, rfl⟩
  obtain ⟨r0, hr0⟩ : ∃ r, high % v1 = r := ⟨_, rfl⟩
  have htd : Int.tdiv high v1 = q0 := by rw [Int.tdiv_eq_ediv_of_nonneg hh0, hq0]
  have htm : Int.tmod high v1 = r0 := by rw [Int.tmod_eq_emod_of_nonneg hh0, hr0]
  have hqr : q0 * v1 + r0 = high := by have h := Int.mul_ediv_add_emod high v1; rw [hq0, hr0, Int.mul_comm] at h; exact h
  have br0 : 0 ≤ r0 := by rw [← hr0]; exact Int.emod_nonneg _ (by omega)
  have br1 : r0 < v1 := by rw [← hr0]; exact Int.emod_lt_of_pos _ (by omega)
  have bq2 : 0 ≤ q0 := by rw [← hq0]; exact Int.ediv_nonneg hh0 (by omega)
  have bq3 : q0 ≤ 8589934592 := by
    have h1 := mul_le_l (a := 2147483648) (b := v1) bq2 a0
    omega
  have hfirst : U < (q0 + 1) * V := by rw [← hq0]; exact E.first
  have hv1 : v1 ≠ 0 := by omega
  have hwq : IntKind.u64.wrap q0 = q0 := wrap_u64 (by omega) (by omega)
  have hwr : IntKind.u64.wrap r0 = r0 := wrap_u64 (by omega) (by omega)
  have hww : IntKind.u64.wrap v1 = v1 := wrap_u64 (by omega) (by omega)
  have HQR := Lib.hid hqr
  have HF := Lib.hid hfirst
  clear hq0 hr0 hqr hfirst
  have HH := Lib.hid hh
  have HE := Lib.hid E
  clear hh E
  go_enter Tryz.func166, Tryz.ntmps166
  go_wp2
  go_step3
  go_wp2
  go_quiet (fail)
  go_wp2
  go_quiet (fail)
  go_wp2
  go_quiet (fail)
  go_wp2
  go_step3
  go_wp2
  go_loopw [10, 11] (fun q r wr => ∃ Q R : Int, q = .int .u64 Q ∧ r = .int .u64 R ∧ Q * v1 + R = high ∧ 0 ≤ Q ∧ Q ≤ 8589934592 ∧ 0 ≤ R ∧ R < 4294967296 + v1 ∧ U < (Q + 1) * V ∧ Below w.heap.size w wr) (fun q _ _ => (intOf q).toNat)
  case atStart => exact ⟨q0, r0, rfl, rfl, HQR.out, bq2, bq3, br0, by omega, HF.out, ⟨rfl, rfl, rfl, Nat.le_refl _, fun _ _ => rfl⟩⟩
  case round =>
    obtain ⟨Q, R, rfl, rfl, hQR, hQ0, hQ1, hR0, hR1, hU, hb⟩ := hrel
    have hsz := hb.size
    have HQR := Lib.hid hQR
    have HU := Lib.hid hU
    have E := HE.out
    clear hwq hwr htd htm br0 br1 bq2 bq3 hor e1 e0 i1 i0 i2 i3 i4 c2 c1 c0 d1 d0 hQR hU
    by_cases hR : R ≤ 4294967295
    · by_cases hQ : 4294967295 < Q
      · have hu := E.step HQR.out hQ0 (.inl hQ)
        have hq1 : (Q - 1) * v1 + (R + v1) = high := by have h := HQR.out; rw [Int.sub_mul, Int.one_mul]; omega
        have HU2 := Lib.hid hu
        have HQ2 := Lib.hid hq1
        clear hu hq1 E
        go_wp2
        go_roundw
        case rel => exact ⟨Q - 1, R + v1, rfl, rfl, HQ2.out, by omega, by omega, by omega, by omega, HU2.out, hb⟩
        case measure => simp [intOf]; omega
      · obtain ⟨p, hp⟩ : ∃ p, Q * v0 = p := ⟨_, rfl⟩
        have hpb := limb_prod (q := Q) (y := v0) ⟨hQ0, by omega⟩ ⟨b0, b1⟩
        rw [hp] at hpb
        obtain ⟨hp0, hp1⟩ := hpb
        have hor2 : bits .or .u64 (R * 4294967296) u0 = R * 4294967296 + u0 := or_u64' ⟨hR0, by omega⟩ ⟨l0, l1⟩
        by_cases hgt : R * 4294967296 + u0 < p
        · have hQ2 : 0 < Q := by
            rcases Int.lt_or_le 0 Q with h | h
            · exact h
            · have h0 : Q = 0 := by omega
              rw [h0, Int.zero_mul] at hp
              omega
          have hu := E.step HQR.out hQ0 (.inr (by rw [hp]; exact hgt))
          have hq1 : (Q - 1) * v1 + (R + v1) = high := by have h := HQR.out; rw [Int.sub_mul, Int.one_mul]; omega
          have HU2 := Lib.hid hu
          have HQ2 := Lib.hid hq1
          clear hu hq1 E
          go_wp2
          go_roundw
          case rel => exact ⟨Q - 1, R + v1, rfl, rfl, HQ2.out, by omega, by omega, by omega, by omega, HU2.out, hb⟩
          case measure => simp [intOf]; omega
        · have hd := E.done HQR.out hQ0 hR0 (.inr ⟨by omega, by rw [hp]; omega⟩)
          have HD := Lib.hid hd
          clear hd E
          go_wp2
          go_ret
          exact ⟨Q, rfl, hQ0, HD.out.1, HD.out.2, HU.out, hb⟩
    · have hd := E.done HQR.out hQ0 hR0 (.inl (by omega))
      have HD := Lib.hid hd
      clear hd E
      go_wp2
      go_ret
      exact ⟨Q, rfl, hQ0, HD.out.1, HD.out.2, HU.out, hb⟩
end
section
open Go.RowKit
set_option linter.unusedVariables false
set_option linter.unusedSimpArgs false
/-- the row zs, from i on k limbs replaced by ls -/
def putAt (zs : List Int) (i : Nat) (ls : List Int) : List Int := zs.take i ++ ls ++ zs.drop (i + ls.length)
theorem putAt_length (zs ls : List Int) (i : Nat) (h : i + ls.length ≤ zs.length) : (putAt zs i ls).length = zs.length := by
  unfold putAt; simp only [List.length_append, List.length_take, List.length_drop]; omega
theorem putAt_nil (zs : List Int) (i : Nat) : putAt zs i [] = zs := by simp [putAt]
theorem putAt_far (zs ls : List Int) (i k : Nat) (h : i + ls.length ≤ zs.length) (hk : i + ls.length ≤ k) : (putAt zs i ls).getD k 0 = zs.getD k 0 := by
  unfold putAt
  simp only [List.getD]
  rw [List.getElem?_append_right (by simp only [List.length_append, List.length_take]; omega), List.getElem?_drop]
  congr 2
  simp only [List.length_append, List.length_take]
  omega
theorem putAt_snoc (zs ls : List Int) (i : Nat) (x : Int) (h : i + ls.length < zs.length) : (putAt zs i ls).set (i + ls.length) x = putAt zs i (ls ++ [x]) := by
  unfold putAt
  have hl : (zs.take i ++ ls).length = i + ls.length := by simp only [List.length_append, List.length_take]; omega
  rw [List.set_append_right _ _ (by omega), hl, Nat.sub_self, List.drop_eq_getElem_cons h, List.set_cons_zero]
  simp [List.append_assoc, Nat.add_assoc]
theorem putAt_take (zs ls : List Int) (i : Nat) (h : i + ls.length ≤ zs.length) : (putAt zs i ls).take i = zs.take i := by
  unfold putAt
  rw [List.append_assoc, List.take_append_of_le_length (by rw [List.length_take]; omega), List.take_take]
  congr 1; omega
theorem putAt_mid (zs ls : List Int) (i : Nat) (h : i + ls.length ≤ zs.length) : ((putAt zs i ls).drop i).take ls.length = ls := by
  unfold putAt
  rw [List.append_assoc, List.drop_left' (by rw [List.length_take]; omega), List.take_left' rfl]
theorem putAt_drop (zs ls : List Int) (i : Nat) (h : i + ls.length ≤ zs.length) : (putAt zs i ls).drop (i + ls.length) = zs.drop (i + ls.length) := by
  unfold putAt
  rw [List.drop_left' (by simp only [List.length_append, List.length_take]; omega)]
theorem putAt_wf {zs ls : List Int} (i : Nat) (hz : Wf zs) (hl : Wf ls) : Wf (putAt zs i ls) := ((hz.take i).append hl).append (hz.drop _)
/-- m limbs from i on -/
def sub (zs : List Int) (i m : Nat) : List Int := (zs.drop i).take m
theorem sub_getD (zs : List Int) (i m k : Nat) (h : k < m) : (sub zs i m).getD k 0 = zs.getD (i + k) 0 := by
  unfold sub
  simp only [List.getD]
  rw [List.getElem?_take_of_lt h, List.getElem?_drop]
theorem sub_length (zs : List Int) (i m : Nat) (h : i + m ≤ zs.length) : (sub zs i m).length = m := by unfold sub; rw [List.length_take, List.length_drop]; omega
theorem sub_wf {zs : List Int} (i m : Nat) (h : Wf zs) : Wf (sub zs i m) := (h.drop i).take m
theorem sub_putAt (zs ls : List Int) (i m : Nat) (hm : ls.length = m) (h : i + m ≤ zs.length) : sub (putAt zs i ls) i m = ls := by unfold sub; rw [← hm]; exact putAt_mid _ _ _ (by omega)
theorem putAt_twice (zs ls ks : List Int) (i : Nat) (h : i + ls.length ≤ zs.length) (hk : ks.length = ls.length) : putAt (putAt zs i ls) i ks = putAt zs i ks := by
  have h1 := putAt_take zs ls i h
  have h2 := putAt_drop zs ls i h
  unfold putAt at *
  rw [hk, h1, h2]
/-- what takeAway leaves, of n + 1 limbs, and whether they were less -/
def takeL (ps ys : List Int) (q : Int) : List Int := (takeTo ps ys q ys.length).1 ++ [(ps.getD ys.length 0 - (takeTo ps ys q ys.length).2 % 4294967296) % 4294967296]
def takeB (ps ys : List Int) (q : Int) : Bool := decide (ps.getD ys.length 0 < (takeTo ps ys q ys.length).2)
theorem takeL_length (ps ys : List Int) (q : Int) : (takeL ps ys q).length = ys.length + 1 := by simp [takeL, takeTo_length]
theorem takeL_wf (ps ys : List Int) (q : Int) : Wf (takeL ps ys q) := (takeTo_wf _ _ _ _).append (Wf.cons (by omega) Wf.nil)
theorem val_takeL {ps ys : List Int} {q : Int} (hp : Wf ps) (hy : Wf ys) (hq : 0 ≤ q ∧ q ≤ 4294967295) (hl : ps.length = ys.length + 1) :
    val (takeL ps ys q) = val ps - q * val ys + (if takeB ps ys q then 4294967296 ^ (ys.length + 1) else 0) := by
  have h1 := val_takeTo ps ys q hp ys.length
  have h2 := takeTo_owed ps ys q hy hq ys.length
  have h3 := val_take_succ ps ys.length
  rw [← hl, List.take_of_length_le (Nat.le_refl _)] at h3
  rw [List.take_of_length_le (Nat.le_refl ys.length)] at h1
  have hb := hp.getD ys.length
  unfold takeL takeB
  rw [val_append, takeTo_length]
  simp only [val, Int.mul_zero, Int.add_zero]
  generalize (takeTo ps ys q ys.length).2 = o at *
  generalize ps.getD ys.length 0 = p at *
  rw [Int.pow_succ]
  generalize (4294967296 : Int) ^ ys.length = P at *
  have hs : (p - o % 4294967296) % 4294967296 = p - o + (if decide (p < o) = true then 4294967296 else 0) := by
    by_cases h : p < o
    · rw [if_pos (decide_eq_true h)]; omega
    · rw [if_neg (by simpa using h)]; omega
  rw [hs, h3]
  by_cases h : p < o
  · rw [if_pos (decide_eq_true h), if_pos (decide_eq_true h)]
    have e : P * (p - o + 4294967296) = P * p - P * o + P * 4294967296 := by rw [Int.mul_add, Int.mul_sub]
    omega
  · rw [if_neg (by simpa using h), if_neg (by simpa using h)]
    have e : P * (p - o + 0) = P * p - P * o := by rw [Int.add_zero, Int.mul_sub]
    omega
set_option maxRecDepth 100000 in
set_option maxHeartbeats 4000000 in
theorem take_any {g cap capp i : Nat} {bg bo capb : Nat} {zs ys : List Int} {w : World} (q : Int) (hz : Part w g cap zs) (hwz : Wf zs) (hwy : Wf ys) (hq : 0 ≤ q ∧ q ≤ 4294967295) (hi : i + ys.length < zs.length) (hm : zs.length ≤ 1099511627776)
    (cy : ∀ j, j < ys.length → w.cell? ⟨bg, bo + j, none⟩ = some (.int .u32 (ys.getD j 0))) (hbg : bg ≠ g) :
    Calls Tryz.prog 167 #[.slice (some ⟨g, i, none⟩) (ys.length + 1 : Nat) capp, .int .u64 q, .slice (some ⟨bg, bo, none⟩) ys.length capb] w fun e w' =>
      e = .returned (.bool (takeB (sub zs i (ys.length + 1)) ys q)) ∧ Part w' g cap (putAt zs i (takeL (sub zs i (ys.length + 1)) ys q)) ∧ Only g w w' := by
  obtain ⟨N, hN⟩ : ∃ N, ys.length + 1 = N := ⟨_, rfl⟩
  rw [hN]
  obtain ⟨hq0, hq1⟩ := hq
  go_enter Tryz.func167, Tryz.ntmps167
  go_wp2
  go_loopw [7, 8, 9, 10, 15] (fun o _ _ _ k wr => ∃ k' : Nat, k' ≤ ys.length ∧ k = .int .i64 k' ∧ o = .int .u64 (takeTo (sub zs i N) ys q k').2 ∧ Part wr g cap (putAt zs i (takeTo (sub zs i N) ys q k').1) ∧ Only g w wr) (fun _ _ _ _ k _ => ys.length - (intOf k).toNat)
  case atStart => exact ⟨0, Nat.zero_le _, rfl, rfl, by simp only [takeTo, putAt_nil]; exact hz, Only.refl _ _⟩
  case round =>
    obtain ⟨k, hk, rfl, rfl, hpart, ho⟩ := hrel
    obtain ⟨o, hok⟩ : ∃ o, (takeTo (sub zs i N) ys q k).2 = o := ⟨_, rfl⟩
    obtain ⟨bo0, bo1⟩ : 0 ≤ o ∧ o ≤ 4294967296 := hok ▸ takeTo_owed (sub zs i N) ys q hwy ⟨hq0, hq1⟩ k
    have hll := takeTo_length (sub zs i N) ys q k
    rw [hok]
    by_cases hlt : k < ys.length
    · obtain ⟨y, hyk⟩ : ∃ y, ys.getD k 0 = y := ⟨_, rfl⟩
      obtain ⟨by0, by1⟩ : 0 ≤ y ∧ y < 4294967296 := hyk ▸ hwy.getD k
      obtain ⟨p, hpk⟩ : ∃ p, zs.getD (i + k) 0 = p := ⟨_, rfl⟩
      have hpk2 : (sub zs i N).getD k 0 = p := by rw [← hpk]; exact sub_getD _ _ _ _ (by omega)
      obtain ⟨bp0, bp1⟩ : 0 ≤ p ∧ p < 4294967296 := hpk ▸ hwz.getD (i + k)
      have cY := (ho.cell (p := ⟨bg, bo + k, none⟩) hbg).trans (cy k hlt)
      rw [hyk] at cY
      have hpl : (putAt zs i (takeTo (sub zs i N) ys q k).1).length = zs.length := putAt_length _ _ _ (by omega)
      have cZ := hpart.cell (i + k) (by omega)
      rw [putAt_far _ _ _ _ (by omega) (by omega), hpk] at cZ
      have fZ := hpart.free (i + k)
      have hpr := limb_prod (q := q) (y := y) ⟨hq0, hq1⟩ ⟨by0, by1⟩
      obtain ⟨s, hs⟩ : ∃ s, q * y = s := ⟨_, rfl⟩
      rw [hs] at hpr
      obtain ⟨bs0, bs1⟩ := hpr
      have hkN : (k : Int) < (N : Int) := by omega
      have hset := hpart.set (i + k) (by omega) ((p - (o + s) % 4294967296) % 4294967296)
      have e1 : takeTo (sub zs i N) ys q (k + 1) = ((takeTo (sub zs i N) ys q k).1 ++ [(p - (o + s) % 4294967296) % 4294967296], (o + s) / 4294967296 + (if p < (o + s) % 4294967296 then 1 else 0)) := by
        simp only [takeTo]; rw [hpk2, hyk, hok, hs]
      rw [show i + k = i + (takeTo (sub zs i N) ys q k).1.length by omega, putAt_snoc _ _ _ _ (by omega), hll] at hset
      have e2 : (p - (o + s) % 4294967296) % 4294967296 = (p - (o + s)) % 4294967296 := by omega
      rw [e2] at e1 hset
      have H1 := Lib.hid e1
      have hsv : ∀ v, v = (p - (o + s)) % 4294967296 → Part (wr.setCell ⟨g, i + k, none⟩ (.int .u32 v)) g cap (putAt zs i ((takeTo (sub zs i N) ys q k).1 ++ [(p - (o + s)) % 4294967296])) := fun v hv => by rw [hv]; exact hset
      have HSET := Lib.hid hsv
      clear hsv
      have HSS := Lib.hid hs
      clear hpart cy hyk hpk hpk2 e1 e2 hset hok hll hpl hN
      have hO : ∀ v, Only g w (wr.setCell ⟨g, i + k, none⟩ v) := fun v => ho.trans (Only.set _ _ _ _)
      have HO := Lib.hid hO
      clear hO
      by_cases hb : p < (o + s) % 4294967296
      · have e3 : takeTo (sub zs i N) ys q (k + 1) = ((takeTo (sub zs i N) ys q k).1 ++ [(p - (o + s)) % 4294967296], (o + s) / 4294967296 + 1) := by rw [H1.out, if_pos hb]
        have H3 := Lib.hid e3
        clear e3
        go_wp2
        go_roundw
        case rel => exact ⟨k + 1, by omega, by go_num, by rw [H3.out], by rw [H3.out]; exact HSET.out _ (by omega), HO.out _⟩
        case measure => simp [intOf]; omega
      · have e3 : takeTo (sub zs i N) ys q (k + 1) = ((takeTo (sub zs i N) ys q k).1 ++ [(p - (o + s)) % 4294967296], (o + s) / 4294967296) := by rw [H1.out, if_neg hb, Int.add_zero]
        have H3 := Lib.hid e3
        clear e3
        go_wp2
        go_roundw
        case rel => exact ⟨k + 1, by omega, by go_num, by rw [H3.out], by rw [H3.out]; exact HSET.out _ (by omega), HO.out _⟩
        case measure => simp [intOf]; omega
    · obtain rfl : k = ys.length := by omega
      obtain ⟨p, hpk⟩ : ∃ p, zs.getD (i + ys.length) 0 = p := ⟨_, rfl⟩
      have hpk2 : (sub zs i N).getD ys.length 0 = p := by rw [← hpk]; exact sub_getD _ _ _ _ (by omega)
      obtain ⟨bp0, bp1⟩ : 0 ≤ p ∧ p < 4294967296 := hpk ▸ hwz.getD (i + ys.length)
      have hpl : (putAt zs i (takeTo (sub zs i N) ys q ys.length).1).length = zs.length := putAt_length _ _ _ (by omega)
      have cZ := hpart.cell (i + ys.length) (by omega)
      rw [putAt_far _ _ _ _ (by omega) (by omega), hpk] at cZ
      have fZ := hpart.free (i + ys.length)
      have hmN : (ys.length : Int) < (N : Int) := by omega
      have hset := hpart.set (i + ys.length) (by omega) ((p - o % 4294967296) % 4294967296)
      have eL : takeL (sub zs i N) ys q = (takeTo (sub zs i N) ys q ys.length).1 ++ [(p - o % 4294967296) % 4294967296] := by unfold takeL; rw [hpk2, hok]
      have eB : takeB (sub zs i N) ys q = decide (p < o) := by unfold takeB; rw [hpk2, hok]
      rw [show i + ys.length = i + (takeTo (sub zs i N) ys q ys.length).1.length by omega, putAt_snoc _ _ _ _ (by omega), hll, ← eL] at hset
      have e2 : (p - o % 4294967296) % 4294967296 = (p - o) % 4294967296 := by omega
      rw [e2] at hset
      have HB := Lib.hid eB
      have hsv : ∀ v, v = (p - o) % 4294967296 → Part (wr.setCell ⟨g, i + ys.length, none⟩ (.int .u32 v)) g cap (putAt zs i (takeL (sub zs i N) ys q)) ∧ Only g w (wr.setCell ⟨g, i + ys.length, none⟩ (.int .u32 v)) := fun v hv => by rw [hv]; exact ⟨hset, ho.trans (Only.set _ _ _ _)⟩
      have HSET := Lib.hid hsv
      clear hsv
      clear hpart cy hpk hpk2 e2 hset hok hll hpl hN eL eB ho
      go_wp2
      go_ret
      exact ⟨by rw [HB.out]; rfl, HSET.out _ (by omega)⟩
/-- what giveBack leaves -/
def giveL (ps ys : List Int) : List Int := (addTo ps ys ys.length).1 ++ [(ps.getD ys.length 0 + (addTo ps ys ys.length).2) % 4294967296]
theorem giveL_length (ps ys : List Int) : (giveL ps ys).length = ys.length + 1 := by simp [giveL, addTo_length]
theorem giveL_wf (ps ys : List Int) : Wf (giveL ps ys) := (addTo_wf _ _ _).append (Wf.cons (by omega) Wf.nil)
theorem val_giveL {ps ys : List Int} (hp : Wf ps) (hy : Wf ys) (hl : ps.length = ys.length + 1) :
    val (giveL ps ys) = val ps + val ys ∨ val (giveL ps ys) = val ps + val ys - 4294967296 ^ (ys.length + 1) := by
  have h1 := val_addTo ps ys ys.length
  have h2 := addTo_carry ps ys hp hy ys.length
  have h3 := val_take_succ ps ys.length
  rw [← hl, List.take_of_length_le (Nat.le_refl _)] at h3
  rw [List.take_of_length_le (Nat.le_refl ys.length)] at h1
  have hb := hp.getD ys.length
  unfold giveL
  rw [val_append, addTo_length]
  simp only [val, Int.mul_zero, Int.add_zero]
  generalize (addTo ps ys ys.length).2 = o at *
  generalize ps.getD ys.length 0 = p at *
  rw [Int.pow_succ]
  generalize (4294967296 : Int) ^ ys.length = P at *
  rw [h3]
  by_cases h : p + o < 4294967296
  · left
    have e : P * ((p + o) % 4294967296) = P * p + P * o := by rw [Int.emod_eq_of_lt (by omega) h, Int.mul_add]
    omega
  · right
    have e1 : (p + o) % 4294967296 = p + o - 4294967296 := by omega
    have e : P * ((p + o) % 4294967296) = P * p + P * o - P * 4294967296 := by rw [e1, Int.mul_sub, Int.mul_add]
    omega
set_option maxRecDepth 100000 in
set_option maxHeartbeats 4000000 in
theorem give_any {g cap capp i : Nat} {bg bo capb : Nat} {zs ys : List Int} {w : World} (hz : Part w g cap zs) (hwz : Wf zs) (hwy : Wf ys) (hi : i + ys.length < zs.length) (hm : zs.length ≤ 1099511627776)
    (cy : ∀ j, j < ys.length → w.cell? ⟨bg, bo + j, none⟩ = some (.int .u32 (ys.getD j 0))) (hbg : bg ≠ g) :
    Calls Tryz.prog 168 #[.slice (some ⟨g, i, none⟩) (ys.length + 1 : Nat) capp, .slice (some ⟨bg, bo, none⟩) ys.length capb] w fun e w' =>
      e = .returned (.tuple #[]) ∧ Part w' g cap (putAt zs i (giveL (sub zs i (ys.length + 1)) ys)) ∧ Only g w w' := by
  obtain ⟨N, hN⟩ : ∃ N, ys.length + 1 = N := ⟨_, rfl⟩
  rw [hN]
  have hws := sub_wf i N hwz
  go_enter Tryz.func168, Tryz.ntmps168
  go_wp2
  go_loopw [4, 5, 6, 9] (fun o _ _ k wr => ∃ k' : Nat, k' ≤ ys.length ∧ k = .int .i64 k' ∧ o = .int .u64 (addTo (sub zs i N) ys k').2 ∧ Part wr g cap (putAt zs i (addTo (sub zs i N) ys k').1) ∧ Only g w wr) (fun _ _ _ k _ => ys.length - (intOf k).toNat)
  case atStart => exact ⟨0, Nat.zero_le _, rfl, rfl, by simp only [addTo, putAt_nil]; exact hz, Only.refl _ _⟩
  case round =>
    obtain ⟨k, hk, rfl, rfl, hpart, ho⟩ := hrel
    obtain ⟨o, hok⟩ : ∃ o, (addTo (sub zs i N) ys k).2 = o := ⟨_, rfl⟩
    obtain ⟨bo0, bo1⟩ : 0 ≤ o ∧ o ≤ 1 := hok ▸ addTo_carry (sub zs i N) ys hws hwy k
    have hll := addTo_length (sub zs i N) ys k
    rw [hok]
    obtain ⟨p, hpk⟩ : ∃ p, zs.getD (i + k) 0 = p := ⟨_, rfl⟩
    have hpk2 : (sub zs i N).getD k 0 = p := by rw [← hpk]; exact sub_getD _ _ _ _ (by omega)
    obtain ⟨bp0, bp1⟩ : 0 ≤ p ∧ p < 4294967296 := hpk ▸ hwz.getD (i + k)
    have hpl : (putAt zs i (addTo (sub zs i N) ys k).1).length = zs.length := putAt_length _ _ _ (by omega)
    have cZ := hpart.cell (i + k) (by omega)
    rw [putAt_far _ _ _ _ (by omega) (by omega), hpk] at cZ
    have fZ := hpart.free (i + k)
    have hkN : (k : Int) < (N : Int) := by omega
    by_cases hlt : k < ys.length
    · obtain ⟨y, hyk⟩ : ∃ y, ys.getD k 0 = y := ⟨_, rfl⟩
      obtain ⟨by0, by1⟩ : 0 ≤ y ∧ y < 4294967296 := hyk ▸ hwy.getD k
      have cY := (ho.cell (p := ⟨bg, bo + k, none⟩) hbg).trans (cy k hlt)
      rw [hyk] at cY
      have hset := hpart.set (i + k) (by omega) ((o + p + y) % 4294967296)
      have e1 : addTo (sub zs i N) ys (k + 1) = ((addTo (sub zs i N) ys k).1 ++ [(o + p + y) % 4294967296], (o + p + y) / 4294967296) := by
        simp only [addTo]; rw [hpk2, hyk, hok]
      rw [show i + k = i + (addTo (sub zs i N) ys k).1.length by omega, putAt_snoc _ _ _ _ (by omega), hll] at hset
      have hsv : ∀ v, v = (o + p + y) % 4294967296 → Part (wr.setCell ⟨g, i + k, none⟩ (.int .u32 v)) g cap (putAt zs i ((addTo (sub zs i N) ys k).1 ++ [(o + p + y) % 4294967296])) ∧ Only g w (wr.setCell ⟨g, i + k, none⟩ (.int .u32 v)) := fun v hv => by rw [hv]; exact ⟨hset, ho.trans (Only.set _ _ _ _)⟩
      have HSET := Lib.hid hsv
      have H1 := Lib.hid e1
      clear hsv hpart cy hyk hpk hpk2 e1 hset hok hll hpl hN ho
      go_wp2
      go_roundw
      case rel => exact ⟨k + 1, by omega, by go_num, by rw [H1.out]; congr 1; omega, by rw [H1.out]; exact (HSET.out _ (by omega)).1, (HSET.out _ (by omega)).2⟩
      case measure => simp [intOf]; omega
    · obtain rfl : k = ys.length := by omega
      have hset := hpart.set (i + ys.length) (by omega) ((p + o) % 4294967296)
      have eL : giveL (sub zs i N) ys = (addTo (sub zs i N) ys ys.length).1 ++ [(p + o) % 4294967296] := by unfold giveL; rw [hpk2, hok]
      rw [show i + ys.length = i + (addTo (sub zs i N) ys ys.length).1.length by omega, putAt_snoc _ _ _ _ (by omega), hll, ← eL] at hset
      have hsv : ∀ v, v = (p + o) % 4294967296 → Part (wr.setCell ⟨g, i + ys.length, none⟩ (.int .u32 v)) g cap (putAt zs i (giveL (sub zs i N) ys)) ∧ Only g w (wr.setCell ⟨g, i + ys.length, none⟩ (.int .u32 v)) := fun v hv => by rw [hv]; exact ⟨hset, ho.trans (Only.set _ _ _ _)⟩
      have HSET := Lib.hid hsv
      clear hsv hpart cy hpk hpk2 hset hok hll hpl hN eL ho
      go_wp2
      go_end0
      exact ⟨rfl, HSET.out _ (by omega)⟩
end
section
open Go.RowKit
set_option linter.unusedVariables false
set_option linter.unusedSimpArgs false
theorem Only.grownBy {b : Nat} {w w' : World} (h : Only b w w') : w.grownBy w' (some b) := h.grown
theorem Below.thenOnly {b : Nat} {w v w' : World} (h : Below w.heap.size w v) (k : Only b v w') : w.grownBy w' (some b) :=
  ⟨k.os.trans h.os, k.tape.trans h.tape, k.output.trans h.output, by rw [k.size]; exact h.size, fun i hi hb => (k.block i (fun e => hb (by rw [e]))).trans (h.block i hi)⟩
set_option maxRecDepth 100000 in
set_option maxHeartbeats 4000000 in
theorem divide_any {g cap capp i : Nat} {bg bo capb : Nat} {zs ys : List Int} {w : World} (n : Nat) (hz : Part w g cap zs) (hwz : Wf zs) (hwy : Wf ys) (hn : ys.length = n + 2) (hi : i + ys.length < zs.length) (hm : zs.length ≤ 1099511627776)
    (cy : ∀ j, j < ys.length → w.cell? ⟨bg, bo + j, none⟩ = some (.int .u32 (ys.getD j 0))) (hbg : bg ≠ g) (ht : 2147483648 ≤ ys.getD (n + 1) 0) (hlt : val (sub zs i (ys.length + 1)) < 4294967296 * val ys) :
    Calls Tryz.prog 158 #[.slice (some ⟨g, i, none⟩) (ys.length + 1 : Nat) capp, .slice (some ⟨bg, bo, none⟩) ys.length capb] w fun e w' =>
      ∃ (q : Int) (ls : List Int), e = .returned (.int .u32 q) ∧ 0 ≤ q ∧ q < 4294967296 ∧ ls.length = ys.length + 1 ∧ Wf ls ∧ Part w' g cap (putAt zs i ls) ∧ val ls = val (sub zs i (ys.length + 1)) - q * val ys ∧ val ls < val ys ∧ w.grownBy w' (some g) := by
  have hws := sub_wf i (ys.length + 1) hwz
  have hsl := sub_length zs i (ys.length + 1) (by omega)
  have hbl : bg < w.heap.size := World.block_lt_of_cell? w _ (cy 0 (by omega))
  have est := estimate_any (pg := g) (po := i) (bg := bg) (bo := bo) (capp := capp) (capb := capb) (w := w) n hws hwy (by omega) hn (by omega) (fun j hj => by rw [sub_getD _ _ _ _ (by omega)]; exact hz.cell (i + j) (by omega)) cy ht hlt
  rw [hsl] at est
  have hU0 := val_nonneg hws
  have hV0 := val_nonneg hwy
  obtain ⟨U, hU⟩ : ∃ U, val (sub zs i (ys.length + 1)) = U := ⟨_, rfl⟩
  obtain ⟨V, hV⟩ : ∃ V, val ys = V := ⟨_, rfl⟩
  rw [hU, hV] at est hlt
  rw [hU] at hU0 ⊢
  rw [hV] at hV0 ⊢
  obtain ⟨N, hN⟩ : ∃ N, ys.length + 1 = N := ⟨_, rfl⟩
  have tk := fun (w : World) (q : Int) hz hq cy => take_any (g := g) (cap := cap) (capp := capp) (i := i) (bg := bg) (bo := bo) (capb := capb) (zs := zs) (ys := ys) (w := w) q hz hwz hwy hq hi hm cy hbg
  rw [hN] at est tk ⊢
  have TK := Lib.hid tk
  have HU := Lib.hid hU
  have HV := Lib.hid hV
  have HN := Lib.hid hN
  have hln : 0 < ys.length := by omega
  clear tk hU hV hN hlt hn ht
  go_enter Tryz.func158, Tryz.ntmps158
  go_wp2_with fail
  refine est.mono ?_
  rintro e w1 ⟨q, rfl, hq0, hq1, hlo, hhi, hb1⟩
  have hz1 := hz.later hb1
  have cy1 : ∀ j, j < ys.length → w1.cell? ⟨bg, bo + j, none⟩ = some (.int .u32 (ys.getD j 0)) := fun j hj => (hb1.cell (p := ⟨bg, bo + j, none⟩) hbl).trans (cy j hj)
  have hvt := val_takeL (q := q) hws hwy ⟨hq0, hq1⟩ hsl
  rw [HU.out, HV.out] at hvt
  have hlt1 := val_lt (takeL_wf (sub zs i (ys.length + 1)) ys q)
  have hnn1 := val_nonneg (takeL_wf (sub zs i (ys.length + 1)) ys q)
  rw [takeL_length] at hlt1
  have hhi2 : U < q * V + V := by rw [Int.add_mul, Int.one_mul] at hhi; exact hhi
  clear est cy hz hhi
  go_wp2_with fail
  refine (TK.out w1 q hz1 ⟨hq0, hq1⟩ cy1).mono ?_
  rintro e w2 ⟨rfl, hp2, ho2⟩
  have hg2 := Below.thenOnly hb1 ho2
  rw [← HN.out] at hp2 ⊢
  obtain ⟨t, htb⟩ : ∃ t, takeB (sub zs i (ys.length + 1)) ys q = t := ⟨_, rfl⟩
  rw [htb] at hvt ⊢
  have hlsl := takeL_length (sub zs i (ys.length + 1)) ys q
  have hlsw := takeL_wf (sub zs i (ys.length + 1)) ys q
  obtain ⟨ls, hls⟩ : ∃ ls, takeL (sub zs i (ys.length + 1)) ys q = ls := ⟨_, rfl⟩
  rw [hls] at hvt hlt1 hnn1 hp2 hlsl hlsw
  clear hls htb
  cases t with
  | false =>
    simp only [Bool.false_eq_true, if_false, Int.add_zero] at hvt
    have hqw : IntKind.u32.wrap q = q := by rw [wrap_u32]; exact Int.emod_eq_of_lt hq0 (by omega)
    have HP := Lib.hid hp2
    have HVT := Lib.hid hvt
    have h2 : val ls < V := by omega
    have H2 := Lib.hid h2
    clear hp2 hvt h2 hlt1 hnn1 hlo hhi2
    go_wp2
    go_ret
    exact ⟨q, ls, rfl, hq0, by omega, hlsl.trans HN.out, hlsw, HP.out, HVT.out, H2.out, hg2⟩
  | true =>
    simp only [if_true] at hvt
    have hneg : U < q * V := by omega
    have hqp : 0 < q := by
      rcases Int.lt_or_le 0 q with h | h
      · exact h
      · have h0 : q = 0 := by omega
        rw [h0, Int.zero_mul] at hneg
        omega
    have cy2 : ∀ j, j < ys.length → w2.cell? ⟨bg, bo + j, none⟩ = some (.int .u32 (ys.getD j 0)) := fun j hj => (ho2.cell (p := ⟨bg, bo + j, none⟩) hbg).trans (cy1 j hj)
    have hpl := putAt_length zs ls i (by omega)
    have gv := give_any (g := g) (cap := cap) (capp := capp) (i := i) (bg := bg) (bo := bo) (capb := capb) (zs := putAt zs i ls) (ys := ys) (w := w2) hp2 (putAt_wf i hwz hlsw) hwy (by omega) (by omega) cy2 hbg
    rw [sub_putAt zs ls i (ys.length + 1) hlsl (by omega), putAt_twice zs ls _ i (by omega) (by rw [giveL_length, hlsl])] at gv
    have hgl := giveL_length ls ys
    have hgw := giveL_wf ls ys
    have hg0 := val_nonneg hgw
    have hg1 := val_lt hgw
    rw [hgl] at hg1
    have hfin : val (giveL ls ys) = U - (q - 1) * V := by
      have e : (q - 1) * V = q * V - V := by rw [Int.sub_mul, Int.one_mul]
      rcases val_giveL hlsw hwy (by omega) with h | h
      · rw [HV.out] at h; omega
      · rw [HV.out] at h; omega
    have hfin2 : val (giveL ls ys) < V := by
      have e : (q - 1) * V = q * V - V := by rw [Int.sub_mul, Int.one_mul]
      omega
    have HFIN := Lib.hid hfin
    have HFIN2 := Lib.hid hfin2
    rw [HN.out] at gv ⊢
    have hqw : IntKind.u32.wrap (q - 1) = q - 1 := by rw [wrap_u32]; exact Int.emod_eq_of_lt (by omega) (by omega)
    clear hvt hlt1 hnn1 hlo hhi2 hfin hfin2 hg0 hg1 hneg hp2 cy1 cy2
    go_wp2_with fail
    refine gv.mono ?_
    rintro e w3 ⟨rfl, hp3, ho3⟩
    have HP := Lib.hid hp3
    have hg3 : w.grownBy w3 (some g) := ⟨ho3.os.trans hg2.os, ho3.tape.trans hg2.tape, ho3.output.trans hg2.output, by rw [ho3.size]; exact hg2.size, fun i hi hb => (ho3.block i (fun e => hb (by rw [e]))).trans (hg2.block i hi hb)⟩
    clear hp3 gv
    go_wp2
    go_ret
    exact ⟨q - 1, _, rfl, by omega, by omega, by rw [← HN.out]; exact hgl, hgw, HP.out, HFIN.out, HFIN2.out, hg3⟩
end
section
open Go.RowKit
set_option linter.unusedVariables false
set_option linter.unusedSimpArgs false
/-- the divisor, shifted till the highest bit of its last limb is 1 -/
theorem norm_ok {ys bs : List Int} {s : Nat} (hy : Wf ys) (hb : Wf bs) (fb : trimN bs bs.length = bs.length) (h2 : 2 ≤ trimN ys ys.length) (hs : s + bitsN ys = trimN ys ys.length * 32) (hv : val bs = val ys * 2 ^ s) :
    ∃ n, bs.length = n + 2 ∧ n + 2 = trimN ys ys.length ∧ 2147483648 ≤ bs.getD (n + 1) 0 := by
  obtain ⟨n, hn⟩ : ∃ n, trimN ys ys.length = n + 2 := ⟨trimN ys ys.length - 2, by omega⟩
  rcases bitsN_is hy with ⟨h0, _⟩ | ⟨j, hj, h3, h4⟩
  · exfalso; have := (bitsN_count hy).2.1; omega
  have e1 : s + j + 1 = (n + 2) * 32 := by omega
  have l1 : (2 : Int) ^ (s + j) ≤ val bs := by
    rw [hv, Nat.add_comm, Int.pow_add]
    exact mul_le_r (Int.le_of_lt (two_pos s)) h3
  have l2 : val bs < 2 ^ (s + j + 1) := by
    rw [hv, Nat.add_assoc, Nat.add_comm s, Int.pow_add]
    exact Int.mul_lt_mul_of_pos_right h4 (two_pos s)
  rw [e1, ← pow_limb] at l2
  have e2 : (2 : Int) ^ (s + j) = 4294967296 ^ (n + 1) * 2147483648 := by
    rw [pow_limb, show s + j = (n + 1) * 32 + 31 by omega, Int.pow_add]
    rfl
  rw [e2] at l1
  have hlen : bs.length = n + 2 := by
    rcases Nat.lt_trichotomy bs.length (n + 2) with h | h | h
    · exfalso
      have k1 := val_lt hb
      have k2 : (4294967296 : Int) ^ bs.length ≤ 4294967296 ^ (n + 1) := by rw [pow_limb, pow_limb]; exact two_mono (by omega)
      have k3 := pow_pos' (n + 1)
      omega
    · exact h
    · exfalso
      have k1 := full_ge hb fb (bs.length - 1) (by omega)
      have k2 : (4294967296 : Int) ^ (n + 2) ≤ 4294967296 ^ (bs.length - 1) := by rw [pow_limb, pow_limb]; exact two_mono (by omega)
      omega
  refine ⟨n, hlen, hn.symm, ?_⟩
  have k1 := val_take_succ bs (n + 1)
  rw [List.take_of_length_le (by omega)] at k1
  have k2 := val_lt (hb.take (n + 1))
  rw [List.length_take, Nat.min_eq_left (by omega)] at k2
  rcases Int.lt_or_le (bs.getD (n + 1) 0) 2147483648 with h | h
  · exfalso
    have k3 := mul_le_l (a := bs.getD (n + 1) 0) (b := 2147483647) (c := 4294967296 ^ (n + 1)) (Int.le_of_lt (pow_pos' _)) (by omega)
    omega
  · exact h
/-- a limb of the quotient -/
theorem long_step {zs ls : List Int} {i t : Nat} {q V : Int} (hz : Wf zs) (hl : Wf ls) (hll : ls.length = t + 1) (hi : i + t < zs.length) (hV0 : 0 ≤ V) (hV : V < 4294967296 ^ t) (hlt : val zs < 4294967296 ^ (i + 1) * V) :
    val (sub zs i (t + 1)) < 4294967296 * V ∧ (val ls = val (sub zs i (t + 1)) - q * V → val ls < V → val (putAt zs i ls) = val zs - 4294967296 ^ i * (q * V) ∧ val (putAt zs i ls) < 4294967296 ^ i * V) := by
  have hp := pow_pos' i
  have hd0 : val (zs.drop (i + 1 + t)) = 0 := by
    refine val_drop0 hz _ ?_
    rw [Int.pow_add]
    have h1 := mul_le_l (a := V) (b := 4294967296 ^ t) (c := 4294967296 ^ (i + 1)) (Int.le_of_lt (pow_pos' _)) (Int.le_of_lt hV)
    omega
  have h1 := val_split (xs := zs) i (by omega)
  have h2 := val_split (xs := zs.drop i) (t + 1) (by rw [List.length_drop]; omega)
  rw [List.drop_drop, show i + (t + 1) = i + 1 + t by omega, hd0, Int.mul_zero, Int.add_zero] at h2
  have h3 := val_nonneg (hz.take i)
  have h4 := val_lt (hz.take i)
  rw [List.length_take, Nat.min_eq_left (by omega)] at h4
  have hput : val (putAt zs i ls) = val (zs.take i) + 4294967296 ^ i * val ls := by
    unfold putAt
    rw [val_cat3, hll, show i + (t + 1) = i + 1 + t by omega, hd0, List.length_take, Nat.min_eq_left (by omega), Int.mul_zero, Int.add_zero]
  have hU : val (zs.drop i) = val (sub zs i (t + 1)) := h2
  rw [hU] at h1
  generalize val (sub zs i (t + 1)) = U at *
  rw [Int.pow_succ] at hlt
  generalize (4294967296 : Int) ^ i = P at *
  refine ⟨?_, fun e1 e2 => ⟨?_, ?_⟩⟩
  · rcases Int.lt_or_le U (4294967296 * V) with h | h
    · exact h
    · exfalso
      have h5 := mul_le_l (c := P) (by omega) h
      rw [← Int.mul_assoc] at h5
      omega
  · rw [hput, h1, e1, Int.mul_sub]; omega
  · rw [hput]
    have h5 := mul_le_l (a := val ls) (b := V - 1) (c := P) (by omega) (by omega)
    rw [Int.mul_sub, Int.mul_one] at h5
    omega
theorem long_alg (Z P V q Q : Int) : Z + V * (P * 4294967296 * Q) = Z - P * (q * V) + V * (P * (q + 4294967296 * Q)) := by grind
/-- what is left, shifted back -/
theorem long_end {A B Q R s : Int} (hs : 0 < s) (h : A * s = R + B * s * Q) (h0 : 0 ≤ R) (h1 : R < B * s) : Q = A / B ∧ R / s = A % B := by
  have hB : 0 < B := by
    rcases Int.lt_or_le 0 B with k | k
    · exact k
    · exfalso
      have := mul_le_r (a := B) (b := 0) (c := s) (by omega) k
      omega
  have e : R = (A - B * Q) * s := by rw [Int.sub_mul]; have : B * Q * s = B * s * Q := by rw [Int.mul_assoc, Int.mul_comm Q, ← Int.mul_assoc]; 
                                     omega
  have hr : R / s = A - B * Q := by rw [e]; exact Int.mul_ediv_cancel _ (by omega)
  have r0 : 0 ≤ A - B * Q := by rw [← hr]; exact Int.ediv_nonneg h0 (by omega)
  have r1 : A - B * Q < B := by
    rw [← hr]
    exact Int.ediv_lt_of_lt_mul hs h1
  obtain ⟨q1, q2⟩ := quo_eq (V := Q) (d := B) (r := A - B * Q) (N := A) hB (by rw [Int.mul_comm]; omega) ⟨r0, r1⟩
  exact ⟨q1, by rw [hr]; exact q2⟩
theorem Lim.grown {w w' : World} {ad : Option Addr} {xs : List Int} {row : Option Nat} (h : Lim w ad xs) (k : w.grownBy w' row) (hne : ∀ a, ad = some a → some a.block ≠ row) : Lim w' ad xs := by
  rcases h with rfl | ⟨b, off, rfl, hc⟩
  · exact .inl rfl
  · exact .inr ⟨b, off, rfl, fun i hi => k.cell (hc i hi) (show some b ≠ row from hne ⟨b, off, none⟩ rfl)⟩
set_option maxRecDepth 100000 in
set_option maxHeartbeats 4000000 in
theorem long_any {u v : Value} {xs ys : List Int} {a b : Option Addr} {capa capb : Nat} {w : World} (h1 : Arg w u xs a capa) (h2 : Arg w v ys b capb) (hx : xs.length ≤ 134217728) (hy : ys.length ≤ 134217728) (h2y : 2 ≤ trimN ys ys.length) (hle : val ys ≤ val xs) :
    Calls Tryz.prog 141 #[u, v] w fun e w' => ∃ r t, e = .returned (.tuple #[r, t]) ∧ Below w.heap.size w w' ∧ (∃ zs, Res w.heap.size w' r zs (val xs / val ys) ∧ zs.length ≤ xs.length + 2) ∧ (∃ zs, Res w.heap.size w' t zs (val xs % val ys) ∧ zs.length ≤ xs.length + 2) := by
  obtain ⟨c1, c2, c3⟩ := bitsN_count h2.wf
  have hty := trim_le ys
  have hcount := count_any h2 (by omega)
  have hbits := bits_res h2 (by omega) (bitsN_is h2.wf)
  obtain ⟨s, hs⟩ : ∃ s, s + bitsN ys = trimN ys ys.length * 32 := ⟨trimN ys ys.length * 32 - bitsN ys, by omega⟩
  obtain ⟨t, ht⟩ : ∃ t, trimN ys ys.length = t := ⟨_, rfl⟩
  obtain ⟨kb, hkb⟩ : ∃ kb, bitsN ys = kb := ⟨_, rfl⟩
  have hnorm := fun (bs : List Int) hb fb hv => norm_ok (ys := ys) (bs := bs) (s := s) h2.wf hb fb h2y hs hv
  rw [hkb] at hbits c2 c3 hs
  rw [ht] at hcount hs c2 c3 hnorm hty h2y
  have hsub : ((t : Int) * 32 - (kb : Int)) = (s : Int) := by omega
  have hs32 : s ≤ 31 := by omega
  have hxw := h1.wf
  have hyw := h2.wf
  have HS := Lib.hid hs
  have HNORM := Lib.hid hnorm
  clear c1 c2 c3 hs hnorm ht hkb
  obtain ⟨i0, hi, hz0, hz1, hz2⟩ := info_parts infoLimb
  go_enter Tryz.func141, Tryz.ntmps141
  go_wp2_with fail
  refine hcount.mono ?_
  rintro e w' ⟨rfl, rfl⟩
  go_wp2_with fail
  refine hbits.mono ?_
  rintro e w' ⟨rfl, rfl⟩
  clear hcount hbits
  go_wp2_with fail
  refine (shl_any s h2 (by omega) (by omega) (by omega)).mono ?_
  rintro e w1 ⟨r1, bs, rfl, q1, n1, hb1⟩
  have A1 := h1.later hb1
  rw [Int.toNat_natCast] at q1 n1
  go_wp2_with fail
  refine (shl_any s A1 (by omega) (by omega) (by omega)).mono ?_
  rintro e w2 ⟨r2, cs, rfl, q2, n2, hb2⟩
  rw [Int.toNat_natCast] at q2 n2
  obtain ⟨n, ebl, _, etop⟩ := HNORM.out bs q1.wf q1.full q1.eq
  have hs1 := hb1.size
  have hs2 := hb2.size
  have hB2 : Below w.heap.size w w2 := hb1.trans (hb2.mono hs1)
  have hcl : bs.length ≤ cs.length := by
    rcases Nat.lt_or_ge cs.length bs.length with k | k
    · exfalso
      have := len_lt q2.wf q1.wf q1.full k
      rw [q1.eq, q2.eq] at this
      have := mul_le_r (Int.le_of_lt (two_pos s)) hle
      omega
    · exact k
  have hV0 : 0 < val bs := by
    have h1 := full_ge q1.wf q1.full (n + 1) (by omega)
    have h2 := pow_pos' (n + 1)
    omega
  have hV1 := val_lt q1.wf
  -- b lies below what comes
  obtain ⟨bg, bo, capb1, hbv, hbcell, hbg⟩ : ∃ bg bo cp, r1 = .slice (some ⟨bg, bo, none⟩) bs.length cp ∧ (∀ j, j < bs.length → w2.cell? ⟨bg, bo + j, none⟩ = some (.int .u32 (bs.getD j 0))) ∧ bg < w1.heap.size := by
    obtain ⟨ad, cp, e1, e2, _, _, e5⟩ := q1.num.read
    have e2' := e2.later hb2
    rcases e2' with e | ⟨bg, bo, rfl, hc⟩
    · rw [e] at ebl; simp at ebl
    · exact ⟨bg, bo, cp, e1, hc, (e5 _ rfl).2⟩
  subst hbv
  have hwb := q1.wf
  have HFB := Lib.hid q1.full
  have q1eq := q1.eq
  have hrow := q2.num
  unfold Num at hrow
  have hcsw := q2.wf
  have hcse := q2.eq
  have hxl : cs.length ≤ 134217730 := by omega
  have hcx : cs.length ≤ xs.length + 1 := by omega
  have hN := Lib.hid q2.num
  have HEB := Lib.hid ebl
  have HTOP := Lib.hid etop
  have HC := Lib.hid hbcell
  have HQ1 := Lib.hid q1eq
  have HQ2 := Lib.hid hcse
  have hn1 : bs.length ≤ 134217730 := by omega
  obtain ⟨M, hM⟩ : ∃ M, M + bs.length = cs.length + 1 := ⟨cs.length + 1 - bs.length, by omega⟩
  have hMi : ((cs.length : Int) + 1 - (bs.length : Int)) = (M : Int) := by omega
  have hmk := make_runN M M (Nat.le_refl _) (by omega)
  have HM := Lib.hid hM
  clear hM
  clear q1 q2 hb1 A1 h1 h2 n1 n2 HNORM ebl etop hbcell q1eq hcse hle
  go_wp2_with (at_builtin; refine wpList_append_own _ rfl _ _ 56 rfl w1.heap.size 63 i0 (.int .u32 0) 1 4 Tryz.underlying56 hi hz0 hz1 hz2 rfl (by decide) _ _ _ rfl (hrow.alloc _) ⟨w2.heap.size, 0, none⟩ 1 1 [.int .u32 0] rfl rfl (cell_one_new _ _ _) (by simp [Value.oneCell']) (by unfold maxLen; omega) (by omega) (by simp; omega) ?_; intro v' w3 hown' hgrow _; have hnum : Num w1.heap.size w3 v' (cs ++ [0]) := (by unfold Num; rw [List.length_append, List.map_append]; exact hown'); obtain ⟨g, cap, rfl, hg, hcapm, hpart⟩ : ∃ g cap, v' = .slice (some ⟨g, 0, none⟩) (cs ++ [0]).length cap ∧ w1.heap.size ≤ g ∧ cap ≤ maxLen ∧ Part w3 g cap (cs ++ [0]) := hnum.parts.resolve_left (fun h => by have := h.2; simp at this))
  have hw3 : Below w.heap.size w w3 := (hB2.alloc (by omega) _).grown hgrow (by simp; omega) (fun k hk => Nat.le_trans hs1 (hN.out.lt k hk).1)
  have hs3 : w2.heap.size ≤ w3.heap.size := by have := hgrow.size; simp at this; omega
  have hlimb : Lim w3 (some ⟨bg, bo, none⟩) bs := by
    have h1 : Lim w2 (some ⟨bg, bo, none⟩) bs := .inr ⟨bg, bo, rfl, HC.out⟩
    refine Lim.grown (h1.later ((Below.refl w2.heap.size w2).alloc (Nat.le_refl _) _)) hgrow (fun a e => ?_)
    cases e
    intro e2
    have := (hN.out.lt bg e2.symm).1
    omega
  have hglt := hpart.lt
  obtain ⟨L, hL⟩ : ∃ L, (cs ++ [0]).length = L := ⟨_, rfl⟩
  have hLc : L = cs.length + 1 := by rw [← hL]; simp
  have hV := HQ1.out
  have hwz0 : Wf (cs ++ [0]) := hcsw.append (wf1 (by omega))
  have hv0 : val (cs ++ [0]) = val cs := by rw [val_append]; simp [val]
  have HL := Lib.hid hL
  have HLC := Lib.hid hLc
  have HV := Lib.hid hV
  have hpart0 := hpart.alloc (.cells (madeCells #[.int .u32 0] M) 63)
  have hblk0 := Blk.made w3 M
  have hlim0 := hlimb.later ((Below.refl w3.heap.size w3).alloc (Nat.le_refl _) (.cells (madeCells #[.int .u32 0] M) 63))
  have hw4 : Below w.heap.size w (w3.alloc (.cells (madeCells #[.int .u32 0] M) 63)) := hw3.alloc (by omega) _
  have hvstart : val (cs ++ [0]) < 4294967296 ^ M * val bs := by
    rw [hv0]
    have h1 := val_lt hcsw
    have hbl := HEB.out
    have h3 := full_ge (us := bs) hwb HFB.out (n + 1) (by omega)
    have h2 := mul_le_l (a := 4294967296 ^ (n + 1)) (b := val bs) (c := 4294967296 ^ M) (Int.le_of_lt (pow_pos' _)) h3
    rw [← Int.pow_add, show M + (n + 1) = cs.length by have := HM.out; omega] at h2
    omega
  have HBG := Lib.hid (show bg < g by omega)
  clear hpart hown' hgrow hnum hlimb hL hLc hV hrow hbg
  go_loopw [9] (fun i wr => ∃ (k : Nat) (zs qs : List Int), k ≤ M ∧ i = .int .i64 ((k : Int) - 1) ∧ zs.length = L ∧ Wf zs ∧ Part wr g cap zs ∧ Blk wr w3.heap.size (List.replicate k 0 ++ qs) ∧ qs.length + k = M ∧ Wf qs ∧
      val zs < 4294967296 ^ k * val bs ∧ val cs = val zs + val bs * (4294967296 ^ k * val qs) ∧ Lim wr (some ⟨bg, bo, none⟩) bs ∧ Below w.heap.size w wr) (fun i _ => (intOf i + 1).toNat)
  case atStart =>
    refine ⟨M, cs ++ [0], [], Nat.le_refl _, by simp, HL.out, hwz0, hpart0, by simpa using hblk0, by simp, Wf.nil, hvstart, by rw [hv0]; simp [val], hlim0, hw4⟩
  case round =>
    obtain ⟨k, zs, qs, hk, rfl, hzl, hzw, hpart, hblk, hql, hqw, hlt, hval, hlim, hb⟩ := hrel
    have hsz := hb.size
    have hM := HM.out
    have hLc := HLC.out
    clear hpart0 hblk0 hlim0 hw4 hvstart hwz0 hv0 hw3 hB2
    by_cases hgo : 0 < k
    · obtain ⟨j, rfl⟩ : ∃ j, k = j + 1 := ⟨k - 1, by omega⟩
      have hji : (((j + 1 : Nat) : Int) - 1) = (j : Int) := by omega
      rw [hji]
      have hcapL := hpart.le
      have hVn : 0 ≤ val bs := by omega
      obtain ⟨hU, _⟩ := long_step (zs := zs) (ls := List.replicate (bs.length + 1) 0) (i := j) (t := bs.length) (q := 0) (V := val bs) hzw (Wf.zeros _) (by simp) (by omega) hVn hV1 hlt
      have hcy : ∀ i, i < bs.length → wr.cell? ⟨bg, bo + i, none⟩ = some (.int .u32 (bs.getD i 0)) := by
        rcases hlim with e | ⟨b', o', e, hc⟩
        · rw [e]; intro i h; simp at h
        · cases e; exact hc
      have hbgg : bg ≠ g := by
        have := HBG.out
        omega
      have hdiv := divide_any (g := g) (cap := cap) (capp := cap - j) (i := j) (bg := bg) (bo := bo) (capb := capb1) (zs := zs) (ys := bs) (w := wr) n hpart hzw hwb HEB.out (by omega) (by omega) hcy hbgg HTOP.out hU
      have s1 : (0 : Int) ≤ (j : Int) := by omega
      have s2 : (j : Int) + (bs.length : Int) + 1 ≤ (cap : Int) := by omega
      have s3 : (j : Int) < (M : Int) := by omega
      have HK := Lib.hid hk
      have HZL := Lib.hid hzl
      have HQL := Lib.hid hql
      have HLT := Lib.hid hlt
      have HVAL := Lib.hid hval
      clear hk hzl hql hlt hval hLc hM hcy hgo
      go_wp2_with fail
      rw [show j + bs.length + 1 - j = bs.length + 1 from by omega]
      refine hdiv.mono ?_
      rintro e w5 ⟨q, ls, rfl, q0, q1, hll, hlw, hp5, hvl, hvlt, hg5⟩
      have hne : w3.heap.size ≠ g := by omega
      have hblk5 := hblk.grown hg5 (fun e => hne (Option.some.inj e))
      have hlim5 := Lim.grown hlim hg5 (fun a e => by cases e; intro e2; exact hbgg (Option.some.inj e2))
      have hb5 : Below w.heap.size w w5 := hb.grown hg5 hsz (fun k hk => by cases hk; omega)
      have hlz : (List.replicate (j + 1) 0 ++ qs).length = M := by rw [List.length_append, List.length_replicate]; have := HQL.out; omega
      have hcell := hblk5.cell j (by omega)
      have hfree := hblk5.free j
      have hset := hblk5.set j q
      rw [set_front] at hset
      have hzl := HZL.out
      obtain ⟨_, hst⟩ := long_step (zs := zs) (ls := ls) (i := j) (t := bs.length) (q := q) (V := val bs) hzw hlw hll (by have := HLC.out; have := HM.out; have := HK.out; omega) hVn hV1 HLT.out
      obtain ⟨st1, st2⟩ := hst hvl hvlt
      have hpl := putAt_length zs ls j (by rw [hll, hzl]; have := HLC.out; have := HM.out; have := HK.out; omega)
      have fin : ∃ (k' : Nat) (zs' qs' : List Int), k' ≤ M ∧ Value.int .i64 ((j : Int) - 1) = .int .i64 ((k' : Int) - 1) ∧ zs'.length = L ∧ Wf zs' ∧ Part (w5.setCell ⟨w3.heap.size, j, none⟩ (.int .u32 q)) g cap zs' ∧ Blk (w5.setCell ⟨w3.heap.size, j, none⟩ (.int .u32 q)) w3.heap.size (List.replicate k' 0 ++ qs') ∧ qs'.length + k' = M ∧ Wf qs' ∧
          val zs' < 4294967296 ^ k' * val bs ∧ val cs = val zs' + val bs * (4294967296 ^ k' * val qs') ∧ Lim (w5.setCell ⟨w3.heap.size, j, none⟩ (.int .u32 q)) (some ⟨bg, bo, none⟩) bs ∧ Below w.heap.size w (w5.setCell ⟨w3.heap.size, j, none⟩ (.int .u32 q)) := by
        have hO : Only w3.heap.size w5 (w5.setCell ⟨w3.heap.size, j, none⟩ (.int .u32 q)) := Only.set _ _ _ _
        refine ⟨j, putAt zs j ls, q :: qs, by have := HK.out; omega, rfl, hpl.trans hzl, putAt_wf _ hzw hlw, hp5.far (p := ⟨w3.heap.size, j, none⟩) (Ne.symm hne) _, hset, by rw [List.length_cons]; have := HQL.out; omega, Wf.cons ⟨q0, q1⟩ hqw, st2, ?_, Lim.grown hlim5 hO.grown (fun a e => by cases e; intro e2; have e3 : bg = w3.heap.size := Option.some.inj e2; have := HBG.out; omega), hb5.setCell (p := ⟨w3.heap.size, j, none⟩) (by simp; omega) _⟩
        rw [HVAL.out, st1]
        simp only [val]
        rw [Int.pow_succ]
        exact long_alg _ _ _ _ _
      have FIN := Lib.hid fin
      clear fin hset hp5 hblk5 hlim5 hb5 hg5 hvl hvlt st1 st2 hst hpl hlz hdiv hU
      go_wp2
      go_roundw
      case rel => exact FIN.out
      case measure => simp [intOf]
    · obtain rfl : k = 0 := by omega
      have hji : (((0 : Nat) : Int) - 1) = -1 := by omega
      rw [hji]
      rw [List.replicate_zero, List.nil_append] at hblk
      rw [Int.pow_zero, Int.one_mul] at hlt hval
      rw [HQ2.out, HV.out] at hval
      rw [HV.out] at hlt
      have hz0 := val_nonneg hzw
      obtain ⟨e1, e2⟩ := long_end (A := val xs) (B := val ys) (Q := val qs) (R := val zs) (s := 2 ^ s) (two_pos s) hval hz0 hlt
      have hql' : qs.length = M := by omega
      have Aq : Arg wr (.slice (some ⟨w3.heap.size, 0, none⟩) M M) qs (some ⟨w3.heap.size, 0, none⟩) M := ⟨by rw [hql'], hblk.lim, by omega, hqw⟩
      have Az : Arg wr (.slice (some ⟨g, 0, none⟩) (cs.length + 1) cap) zs (some ⟨g, 0, none⟩) cap := ⟨by rw [hzl, hLc], hpart.lim, hpart.le, hzw⟩
      have E1 := Lib.hid e1
      have E2 := Lib.hid e2
      have hzl2 : zs.length ≤ xs.length + 2 := by omega
      have HX := Lib.hid (show M ≤ xs.length + 2 by omega)
      clear hpart hblk hlt hval hlim e1 e2 hz0 hV0
      go_wp2_with fail
      refine (trim_res Aq (by omega)).mono ?_
      rintro e w6 ⟨r6, l6, rfl, q6, n6, hb6⟩
      have Az6 := Az.later hb6
      have hs6 := hb6.size
      go_wp2_with fail
      refine (shr_any s Az6 (by omega) (by omega) (by omega)).mono ?_
      rintro e w7 ⟨r7, l7, rfl, q7, n7, hb7⟩
      have q6' := q6.later hb7
      rw [Int.toNat_natCast] at q7
      have hB7 : Below w.heap.size w w7 := (hb.trans (hb6.mono hsz)).trans (hb7.mono (by omega))
      have hX := HX.out
      go_wp2_with fail
      go_ret2
      exact ⟨r6, r7, rfl, hB7, ⟨l6, ⟨q6'.num.mono hsz, q6'.wf, q6'.full, q6'.eq.trans E1.out⟩, by omega⟩, ⟨l7, ⟨q7.num.mono (by omega), q7.wf, q7.full, q7.eq.trans E2.out⟩, by omega⟩⟩
end
section
open Go.RowKit
set_option linter.unusedVariables false
set_option linter.unusedSimpArgs false
theorem full_len {zs : List Int} {m : Nat} (hw : Wf zs) (hf : trimN zs zs.length = zs.length) (h : val zs < 4294967296 ^ m) : zs.length ≤ m := by
  rcases Nat.lt_or_ge m zs.length with k | k
  · exfalso
    have h1 := full_ge hw hf (zs.length - 1) (by omega)
    have h2 : (4294967296 : Int) ^ m ≤ 4294967296 ^ (zs.length - 1) := by rw [pow_limb, pow_limb]; exact two_mono (by omega)
    omega
  · exact k
theorem Res.lenLe {base : Nat} {w : World} {u : Value} {zs xs : List Int} {n : Int} (h : Res base w u zs n) (hx : Wf xs) (hle : n ≤ val xs) : zs.length ≤ xs.length := by
  have := val_lt hx
  exact full_len h.wf h.full (by rw [h.eq]; omega)
theorem Res.nil (base : Nat) (w : World) : Res base w (.slice none 0 0) [] 0 := ⟨⟨rfl, .inl ⟨rfl, rfl⟩⟩, Wf.nil, rfl, rfl⟩
theorem ediv_le {a b : Int} (ha : 0 ≤ a) (hb : 0 < b) : a / b ≤ a := Int.ediv_le_self b ha
theorem emod_le {a b : Int} (ha : 0 ≤ a) (hb : 0 < b) : a % b ≤ a := by
  have h1 := Int.emod_add_mul_ediv a b
  have h2 := Int.mul_nonneg (show 0 ≤ b by omega) (Int.ediv_nonneg ha (show 0 ≤ b by omega))
  omega
theorem val_zero {xs : List Int} (h : Wf xs) : val xs = 0 ↔ trimN xs xs.length = 0 := by
  constructor
  · intro h0
    rcases Nat.eq_zero_or_pos (trimN xs xs.length) with k | k
    · exact k
    · exfalso
      have h1 := full_ge h.trim (trim_full xs) (trimN xs xs.length - 1) (by rw [trim_length]; omega)
      rw [val_trim] at h1
      have := pow_pos' (trimN xs xs.length - 1)
      omega
  · intro h0
    rw [← val_trim xs]
    unfold trim
    rw [h0]
    rfl
set_option maxRecDepth 100000 in
set_option maxHeartbeats 1000000 in
theorem div_any {u v : Value} {xs ys : List Int} {a b : Option Addr} {capa capb : Nat} {w : World} (h1 : Arg w u xs a capa) (h2 : Arg w v ys b capb) (hx : xs.length ≤ 134217728) (hy : ys.length ≤ 134217728) (h0 : 0 < val ys) :
    Calls Tryz.prog 122 #[u, v] w fun e w' => ∃ r t, e = .returned (.tuple #[r, t, .int .i64 0]) ∧ Below w.heap.size w w' ∧ (∃ zs, Res w.heap.size w' r zs (val xs / val ys) ∧ zs.length ≤ xs.length) ∧
      (∃ zs, Res w.heap.size w' t zs (val xs % val ys) ∧ zs.length ≤ xs.length ∧ zs.length ≤ ys.length) := by
  have hc := count_any h2 (by omega)
  have hx0 := val_nonneg h1.wf
  have hq := ediv_le hx0 h0
  have hr := emod_le hx0 h0
  have hr2 := Int.emod_lt_of_pos (val xs) h0
  obtain ⟨t, ht⟩ : ∃ t, trimN ys ys.length = t := ⟨_, rfl⟩
  have htp : t ≠ 0 := by
    intro e
    have := (val_zero h2.wf).2 (ht.trans e)
    omega
  rw [ht] at hc
  have hd0 : ((t : Int) == 0) = false := by simp; omega
  have HQ := Lib.hid hq
  have HR := Lib.hid hr
  have HR2 := Lib.hid hr2
  clear hq hr hr2
  by_cases ht1 : t = 1
  · subst ht1
    have hd1 : (((1 : Nat) : Int) == 1) = true := by decide
    have hv1 := val_take_ge ys 1 (by omega)
    rw [val_take_succ] at hv1
    simp only [List.take_zero, val, Int.pow_zero, Int.one_mul, Int.zero_add] at hv1
    have hb := h2.wf.getD 0
    obtain ⟨bx, hbx⟩ : ∃ bx, ys.getD 0 0 = bx := ⟨_, rfl⟩
    rw [hbx] at hv1 hb
    have hl1 := trim_le ys
    rw [ht] at hl1
    obtain ⟨rfl, ly, hle, wy⟩ := h2
    rcases ly with rfl | ⟨bb, off, rfl, hcell⟩
    · simp at hl1
    have hc0 := hcell 0 (by omega)
    rw [hbx, Nat.add_zero] at hc0
    have hlt : (0 : Int) < (ys.length : Int) := by omega
    have HV := Lib.hid hv1
    have HY := Lib.hid wy
    clear hcell ht hbx hv1 hd0 htp
    go_enter Tryz.func122, Tryz.ntmps122
    go_wp2_with fail
    refine hc.mono ?_
    rintro e w' ⟨rfl, rfl⟩
    clear hc
    go_wp2_with fail
    refine (short1_any bx h1 (by omega) ⟨by rw [HV.out]; exact h0, hb.2⟩).mono ?_
    rintro e w2 ⟨r2, rfl, z2, q2, n2, hb2⟩
    have hm0 : 0 ≤ val xs % bx := Int.emod_nonneg _ (by rw [HV.out]; omega)
    have hm1 : val xs % bx < 18446744073709551616 := by have := HR2.out; rw [← HV.out] at this; omega
    have hwm : IntKind.u64.wrap (val xs % bx) = val xs % bx := wrap_u64 hm0 hm1
    go_wp2_with fail
    refine (ofN_any (val xs % bx) _ hm0 hm1).mono ?_
    rintro e w3 ⟨r3, z3, rfl, q3, n3, hb3⟩
    have hs2 := hb2.size
    have q2' := q2.later hb3
    have hB : Below w.heap.size w w3 := hb2.trans (hb3.mono hs2)
    rw [HV.out] at q2' q3
    have l2 := q3.lenLe h1.wf HR.out
    have l3 := q3.lenLe HY.out (Int.le_of_lt HR2.out)
    go_wp2_with fail
    go_ret3
    exact ⟨r2, r3, rfl, hB, ⟨z2, q2', n2⟩, ⟨z3, ⟨q3.num.mono hs2, q3.wf, q3.full, q3.eq⟩, l2, l3⟩⟩
  · have hd1 : ((t : Int) == 1) = false := by simp; omega
    have hcmp := cmp_res h1 h2 (by omega) (by omega)
    by_cases hlt : val xs < val ys
    · rw [sign_lt hlt] at hcmp
      have hn : decide ((-1 : Int) < 0) = true := by decide
      go_enter Tryz.func122, Tryz.ntmps122
      go_wp2_with fail
      refine hc.mono ?_
      rintro e w' ⟨rfl, rfl⟩
      clear hc
      go_wp2_with fail
      refine hcmp.mono ?_
      rintro e w2 ⟨rfl, hb2⟩
      clear hcmp
      have A1 := h1.later hb2
      have hs2 := hb2.size
      go_wp2_with fail
      refine (trim_res A1 (by omega)).mono ?_
      rintro e w3 ⟨r3, z3, rfl, q3, n3, hb3⟩
      have hB : Below w.heap.size w w3 := hb2.trans (hb3.mono hs2)
      have e1 : val xs / val ys = 0 := Int.ediv_eq_zero_of_lt hx0 hlt
      have e2 : val xs % val ys = val xs := Int.emod_eq_of_lt hx0 hlt
      have l3 := q3.lenLe h2.wf (Int.le_of_lt hlt)
      have E1 := Lib.hid e1
      have E2 := Lib.hid e2
      clear e1 e2
      go_wp2_with fail
      go_ret3
      exact ⟨_, r3, rfl, hB, ⟨[], by rw [E1.out]; exact Res.nil _ _, by simp⟩, ⟨z3, ⟨q3.num.mono hs2, q3.wf, q3.full, q3.eq.trans E2.out.symm⟩, n3, l3⟩⟩
    · have hn : decide (sign (val xs) (val ys) < 0) = false := decide_eq_false (by unfold sign; rw [if_neg hlt]; split <;> omega)
      go_enter Tryz.func122, Tryz.ntmps122
      go_wp2_with fail
      refine hc.mono ?_
      rintro e w' ⟨rfl, rfl⟩
      clear hc
      go_wp2_with fail
      refine hcmp.mono ?_
      rintro e w2 ⟨rfl, hb2⟩
      clear hcmp
      have A1 := h1.later hb2
      have A2 := h2.later hb2
      have hs2 := hb2.size
      go_wp2_with fail
      refine (long_any A1 A2 (by omega) (by omega) (by omega) (by omega)).mono ?_
      rintro e w3 ⟨r3, t3, rfl, hb3, ⟨z3, q3, _⟩, ⟨z4, q4, _⟩⟩
      have hB : Below w.heap.size w w3 := hb2.trans (hb3.mono hs2)
      have l1 := q3.lenLe h1.wf HQ.out
      have l2 := q4.lenLe h1.wf HR.out
      have l3 := q4.lenLe h2.wf (Int.le_of_lt HR2.out)
      go_wp2_with fail
      go_ret3
      exact ⟨r3, t3, rfl, hB, ⟨z3, ⟨q3.num.mono hs2, q3.wf, q3.full, q3.eq⟩, l1⟩, ⟨z4, ⟨q4.num.mono hs2, q4.wf, q4.full, q4.eq⟩, l2, l3⟩⟩
end
section
open Go.RowKit
set_option linter.unusedVariables false
set_option linter.unusedSimpArgs false
set_option maxRecDepth 100000 in
set_option maxHeartbeats 1000000 in
theorem shortGcd_any (x y : Int) (w : World) (hx : 0 ≤ x ∧ x < 18446744073709551616) (hy : 0 ≤ y ∧ y < 18446744073709551616) :
    Calls Tryz.prog 137 #[.int .u64 x, .int .u64 y] w fun e w' => e = .returned (.int .u64 (Int.gcd x y : Int)) ∧ Below w.heap.size w w' := by
  obtain ⟨hx0, hx1⟩ := hx
  obtain ⟨hy0, hy1⟩ := hy
  go_enter Tryz.func137, Tryz.ntmps137
  go_wp2
  go_loopw [0, 1] (fun p q wr => ∃ P Q : Int, p = .int .u64 P ∧ q = .int .u64 Q ∧ 0 ≤ P ∧ P < 18446744073709551616 ∧ 0 ≤ Q ∧ Q < 18446744073709551616 ∧ Int.gcd P Q = Int.gcd x y ∧ Below w.heap.size w wr) (fun _ q _ => (intOf q).toNat)
  case atStart => exact ⟨x, y, rfl, rfl, hx0, hx1, hy0, hy1, rfl, Below.refl _ _⟩
  case round =>
    obtain ⟨P, Q, rfl, rfl, hP0, hP1, hQ0, hQ1, hg, hb⟩ := hrel
    have hsz := hb.size
    have HG := Lib.hid hg
    clear hg
    by_cases hgo : 0 < Q
    · obtain ⟨m, hm⟩ : ∃ m, P % Q = m := ⟨_, rfl⟩
      have htm : Int.tmod P Q = m := by rw [Int.tmod_eq_emod_of_nonneg hP0, hm]
      have hm0 : 0 ≤ m := by rw [← hm]; exact Int.emod_nonneg _ (by omega)
      have hm1 : m < Q := by rw [← hm]; exact Int.emod_lt_of_pos _ hgo
      have hwm : IntKind.u64.wrap m = m := wrap_u64 (by omega) (by omega)
      have hq0 : Q ≠ 0 := by omega
      have hg2 : Int.gcd Q m = Int.gcd x y := by rw [← hm, gcd_step]; exact HG.out
      have HG2 := Lib.hid hg2
      clear hg2 hm
      go_wp2
      go_quiet (fail)
      go_wp2
      go_roundw
      case rel => exact ⟨Q, m, rfl, rfl, hQ0, hQ1, hm0, by omega, HG2.out, ⟨hb.os, hb.tape, hb.output, hb.size, hb.block⟩⟩
      case measure => simp [intOf]; omega
    · obtain rfl : Q = 0 := by omega
      have hfin : P = (Int.gcd x y : Int) := by rw [← HG.out]; exact (gcd_end hP0).symm
      have HF := Lib.hid hfin
      clear hfin
      go_wp2
      go_ret
      exact ⟨by rw [← HF.out]; rfl, hb⟩
/-- loops over pairs: how much is left -/
def leftN (w : World) (v : Value) : Nat := (val (readV w v)).toNat
theorem Arg.left {w : World} {u : Value} {xs : List Int} {a : Option Addr} {cap : Nat} (h : Arg w u xs a cap) : leftN w u = (val xs).toNat := by unfold leftN; rw [h.read]
theorem bits_pos {xs : List Int} (h : Wf xs) : 0 < val xs ↔ 0 < bitsN xs := by
  rcases bitsN_is h with ⟨h1, h2⟩ | ⟨j, h1, h2, _⟩
  · omega
  · have := two_pos j; omega
theorem uint_gen {u : Value} {xs : List Int} {a : Option Addr} {capa : Nat} {w : World} (h1 : Arg w u xs a capa) (hx : xs.length ≤ 35184372088832) :
    Calls Tryz.prog 136 #[u] w fun e w' => (∃ X : Int, e = .returned (.tuple #[.int .u64 X, .bool (decide (val xs < 18446744073709551616))])) ∧ w = w' := by
  by_cases h : val xs < 18446744073709551616
  · rw [decide_eq_true h]
    exact (uint_small h1 hx h).mono fun e w' ⟨he, hw⟩ => ⟨⟨_, he⟩, hw⟩
  · rw [decide_eq_false h]
    exact (uint_big h1 hx (by omega)).mono fun e w' ⟨he, hw⟩ => ⟨⟨_, he⟩, hw⟩
set_option maxRecDepth 100000 in
set_option maxHeartbeats 2000000 in
theorem gcd_any {u v : Value} {xs ys : List Int} {a b : Option Addr} {capa capb : Nat} {w : World} (h1 : Arg w u xs a capa) (h2 : Arg w v ys b capb) (hx : xs.length ≤ 134217728) (hy : ys.length ≤ 134217728) :
    Calls Tryz.prog 119 #[u, v] w fun e w' => ∃ r zs, e = .returned r ∧ Res w.heap.size w' r zs (Int.gcd (val xs) (val ys) : Int) ∧ zs.length ≤ max xs.length ys.length + 2 ∧ Below w.heap.size w w' := by
  obtain ⟨m, hm⟩ : ∃ m, max xs.length ys.length = m := ⟨_, rfl⟩
  have hm2 : m ≤ 134217728 := by omega
  have hmx : xs.length ≤ m := by omega
  have hmy : ys.length ≤ m := by omega
  rw [hm]
  clear hm hx hy
  go_enter Tryz.func119, Tryz.ntmps119
  go_wp2
  go_loopw [0, 1, 5, 6, 7, 8, 9, 10, 11] (fun p q _ _ _ _ _ _ _ wr => ∃ (p' q' : Value) (us vs : List Int) (ad bd : Option Addr) (cp cq : Nat), p' = p ∧ q' = q ∧ Arg wr p' us ad cp ∧ Arg wr q' vs bd cq ∧ us.length ≤ m ∧ vs.length ≤ m ∧ Int.gcd (val us) (val vs) = Int.gcd (val xs) (val ys) ∧ Below w.heap.size w wr) (fun _ q _ _ _ _ _ _ _ wr => leftN wr q)
  case atStart => exact ⟨u, v, xs, ys, a, b, capa, capb, rfl, rfl, h1, h2, hmx, hmy, rfl, Below.refl _ _⟩
  case round =>
    obtain ⟨p, q, us, vs, ad, bd, cp, cq, rfl, rfl, A1, A2, hu, hv, hg, hb⟩ := hrel
    have hsz := hb.size
    have HG := Lib.hid hg
    clear hg h1 h2
    have hbits := bits_res A2 (by omega) (bitsN_is A2.wf)
    obtain ⟨nb, hnb⟩ : ∃ nb, bitsN vs = nb := ⟨_, rfl⟩
    have hbp := bits_pos A2.wf
    rw [hnb] at hbits hbp
    have hu0 := val_nonneg A1.wf
    have hv0 := val_nonneg A2.wf
    clear hnb
    by_cases hgo : 0 < nb
    · have hpos := hbp.2 hgo
      have hgo2 : (0 : Int) < (nb : Int) := by omega
      by_cases hs : val us < 18446744073709551616 ∧ val vs < 18446744073709551616
      · obtain ⟨hs1, hs2⟩ := hs
        go_wp2_with fail
        refine hbits.mono ?_
        rintro e w' ⟨rfl, rfl⟩
        clear hbits
        go_wp2_with fail
        refine (uint_small A1 (by omega) hs1).mono ?_
        rintro e w' ⟨rfl, rfl⟩
        go_wp2_with fail
        refine (uint_small A2 (by omega) hs2).mono ?_
        rintro e w' ⟨rfl, rfl⟩
        go_wp2_with fail
        refine (shortGcd_any (val us) (val vs) _ ⟨hu0, hs1⟩ ⟨hv0, hs2⟩).mono ?_
        rintro e w2 ⟨rfl, hb2⟩
        have hgl : (Int.gcd (val us) (val vs) : Int) < 18446744073709551616 := by
          have h3 : Int.gcd (val us) (val vs) ∣ (val vs).natAbs := Int.gcd_dvd_natAbs_right _ _
          have h4 := Nat.le_of_dvd (by omega) h3
          omega
        have hs3 := hb2.size
        go_wp2_with fail
        refine (ofN_any _ _ (Int.natCast_nonneg _) hgl).mono ?_
        rintro e w3 ⟨r3, z3, rfl, q3, n3, hb3⟩
        have hB := (hb.trans (hb2.mono hsz)).trans (hb3.mono (by omega))
        have q3e := q3.eq
        rw [HG.out] at q3e
        have HE := Lib.hid q3e
        clear q3e hgl hs1 hs2 hgo2 hpos hbp
        go_wp2_with fail
        go_ret
        exact ⟨r3, z3, rfl, ⟨q3.num.mono (by omega), q3.wf, q3.full, HE.out⟩, by omega, hB⟩
      · by_cases hs1 : val us < 18446744073709551616
        · have hs2 : ¬ val vs < 18446744073709551616 := fun h => hs ⟨hs1, h⟩
          have d1 : decide (val us < 18446744073709551616) = true := decide_eq_true hs1
          have d2 : decide (val vs < 18446744073709551616) = false := decide_eq_false hs2
          have u1 := uint_gen A1 (by omega)
          have u2 := uint_gen A2 (by omega)
          rw [d1] at u1
          rw [d2] at u2
          clear d1 d2
          go_wp2_with fail
          refine hbits.mono ?_
          rintro e w' ⟨rfl, rfl⟩
          clear hbits
          go_wp2_with fail
          refine u1.mono ?_
          rintro e w' ⟨⟨X, rfl⟩, rfl⟩
          go_wp2_with fail
          refine u2.mono ?_
          rintro e w' ⟨⟨Y, rfl⟩, rfl⟩
          go_wp2_with fail
          refine (div_any A1 A2 (by omega) (by omega) hpos).mono ?_
          rintro e w2 ⟨r2, s2, rfl, hb2, _, ⟨z2, q2, n2, n2'⟩⟩
          obtain ⟨ad2, cap2, A3⟩ := q2.arg
          have A2' := A2.later hb2
          have hB2 := hb.trans (hb2.mono hsz)
          have hl2 := A3.left
          have hleft := A2.left
          have hr1 := Int.emod_lt_of_pos (val us) hpos
          have hr2 := Int.emod_nonneg (val us) (show val vs ≠ 0 by omega)
          have hm3 : leftN w2 s2 < leftN wr q := by rw [hleft, hl2, q2.eq]; omega
          have hg3 : Int.gcd (val vs) (val z2) = Int.gcd (val xs) (val ys) := by rw [q2.eq, gcd_step]; exact HG.out
          have HG3 := Lib.hid hg3
          have HM3 := Lib.hid hm3
          clear hg3 hm3 hr1 hr2 hl2 hleft q2 A1 A2 hb2 hpos hbp hs
          go_wp2
          go_roundw
          case rel => exact ⟨_, _, vs, z2, bd, ad2, cq, cap2, rfl, rfl, A2', A3, hv, by omega, HG3.out, hB2⟩
          case measure => exact HM3.out
        · have d1 : decide (val us < 18446744073709551616) = false := decide_eq_false hs1
          have u1 := uint_gen A1 (by omega)
          have u2 := uint_gen A2 (by omega)
          rw [d1] at u1
          generalize decide (val vs < 18446744073709551616) = f2 at u2
          clear d1
          go_wp2_with fail
          refine hbits.mono ?_
          rintro e w' ⟨rfl, rfl⟩
          clear hbits
          go_wp2_with fail
          refine u1.mono ?_
          rintro e w' ⟨⟨X, rfl⟩, rfl⟩
          go_wp2_with fail
          refine u2.mono ?_
          rintro e w' ⟨⟨Y, rfl⟩, rfl⟩
          go_wp2_with fail
          refine (div_any A1 A2 (by omega) (by omega) hpos).mono ?_
          rintro e w2 ⟨r2, s2, rfl, hb2, _, ⟨z2, q2, n2, n2'⟩⟩
          obtain ⟨ad2, cap2, A3⟩ := q2.arg
          have A2' := A2.later hb2
          have hB2 := hb.trans (hb2.mono hsz)
          have hl2 := A3.left
          have hleft := A2.left
          have hr1 := Int.emod_lt_of_pos (val us) hpos
          have hr2 := Int.emod_nonneg (val us) (show val vs ≠ 0 by omega)
          have hm3 : leftN w2 s2 < leftN wr q := by rw [hleft, hl2, q2.eq]; omega
          have hg3 : Int.gcd (val vs) (val z2) = Int.gcd (val xs) (val ys) := by rw [q2.eq, gcd_step]; exact HG.out
          have HG3 := Lib.hid hg3
          have HM3 := Lib.hid hm3
          clear hg3 hm3 hr1 hr2 hl2 hleft q2 A1 A2 hb2 hpos hbp hs
          go_wp2
          go_roundw
          case rel => exact ⟨_, _, vs, z2, bd, ad2, cq, cap2, rfl, rfl, A2', A3, hv, by omega, HG3.out, hB2⟩
          case measure => exact HM3.out
    · have h0 : nb = 0 := by omega
      have hvz : val vs = 0 := by omega
      have hfin : val us = (Int.gcd (val xs) (val ys) : Int) := by rw [← HG.out, hvz]; exact (gcd_end hu0).symm
      have HF := Lib.hid hfin
      subst h0
      have hd : decide ((0 : Int) < ((0 : Nat) : Int)) = false := by decide
      clear hfin hvz hbp
      go_wp2_with fail
      refine hbits.mono ?_
      rintro e w' ⟨rfl, rfl⟩
      clear hbits
      go_wp2_with fail
      refine (trim_res A1 (by omega)).mono ?_
      rintro e w3 ⟨r3, z3, rfl, q3, n3, hb3⟩
      have hB := hb.trans (hb3.mono hsz)
      have HE := Lib.hid (q3.eq.trans HF.out)
      go_wp2_with fail
      go_ret
      exact ⟨r3, z3, rfl, ⟨q3.num.mono hsz, q3.wf, q3.full, HE.out⟩, by omega, hB⟩
end
section
open Go.RowKit Go.ChangeShapes Go.WideShapes Go.ChangeAt
set_option linter.unusedVariables false
set_option linter.unusedSimpArgs false
theorem lenD_pos {ds : List Int} (h : 0 < valD ds) : ((ds.length : Int) == 0) = false := by
  cases ds with
  | nil => simp [valD] at h
  | cons x l => simp; omega
theorem lenD_zero {ds : List Int} (h : WfD ds) (f : trimN ds ds.length = ds.length) (e : valD ds = 0) : ((ds.length : Int) == 0) = true := by rw [valD_zero h f e]; rfl
end
section
open Go.RowKit
set_option linter.unusedVariables false
set_option linter.unusedSimpArgs false
/-- a natural number with a sign -/
def sgn (neg : Bool) (A : Int) : Int := if neg = true then -A else A
/-- the number of a sign and two natural numbers; 0, if one of them is 0 -/
def ratOf (neg : Bool) (A B : Int) : Rat := Rat.divInt (sgn neg A) B
theorem sgn_neg (A : Int) : sgn true A = -A := rfl
theorem sgn_pos (A : Int) : sgn false A = A := rfl
theorem sgn_zero (n : Bool) : sgn n 0 = 0 := by cases n <;> rfl
theorem ratOf_zero_left (n : Bool) (B : Int) : ratOf n 0 B = 0 := by unfold ratOf; rw [sgn_zero, Rat.zero_divInt]
theorem ratOf_zero_right (n : Bool) (A : Int) : ratOf n A 0 = 0 := by unfold ratOf; rw [Rat.divInt_zero]
theorem gcd_pos {A B : Int} (hA : 0 < A) : (0 : Int) < (Int.gcd A B : Int) := by
  have := Int.gcd_pos_of_ne_zero_left (a := A) B (by omega)
  omega
theorem gcd_pos_right {A B : Int} (hB : 0 < B) : (0 : Int) < (Int.gcd A B : Int) := by rw [Int.gcd_comm]; exact gcd_pos hB
/-- what the number's parts are: reduced -/
theorem ratOf_num {n : Bool} {A B : Int} (hA : 0 ≤ A) (hB : 0 < B) : (ratOf n A B).num = sgn n (A / (Int.gcd A B : Int)) := by
  unfold ratOf
  rw [Rat.num_divInt, Int.sign_eq_one_of_pos hB, Int.one_mul]
  cases n with
  | false => simp only [sgn_pos]; rw [Int.gcd_comm]
  | true =>
    simp only [sgn_neg]
    rw [Int.gcd_neg, Int.gcd_comm, Int.neg_ediv_of_dvd (Int.gcd_dvd_left _ _)]
theorem ratOf_den {n : Bool} {A B : Int} (hB : 0 < B) : ((ratOf n A B).den : Int) = B / (Int.gcd A B : Int) := by
  unfold ratOf
  rw [Rat.den_divInt, if_neg (by omega)]
  have e : Int.gcd B (sgn n A) = Int.gcd A B := by
    cases n with
    | false => rw [sgn_pos, Int.gcd_comm]
    | true => rw [sgn_neg, Int.gcd_neg, Int.gcd_comm]
  rw [e, Int.natCast_ediv, Int.natAbs_of_nonneg (by omega)]
theorem quo_pos {A g : Int} (hA : 0 < A) (hg : 0 < g) (hd : g ∣ A) : 0 < A / g := Int.ediv_pos_of_pos_of_dvd hA (by omega) hd
theorem ratOf_abs {n : Bool} {A B : Int} (hA : 0 ≤ A) (hB : 0 < B) : ((ratOf n A B).num.natAbs : Int) = A / (Int.gcd A B : Int) := by
  rw [ratOf_num hA hB]
  have h := Int.ediv_nonneg hA (Int.natCast_nonneg (Int.gcd A B))
  cases n with
  | false => rw [sgn_pos]; omega
  | true => rw [sgn_neg]; omega
theorem ratOf_lt {n : Bool} {A B : Int} (hA : 0 ≤ A) (hB : 0 < B) : decide ((ratOf n A B).num < 0) = (n && decide (A ≠ 0)) := by
  rw [ratOf_num hA hB]
  by_cases h : A = 0
  · subst h; cases n <;> simp [sgn]
  · have h2 := quo_pos (A := A) (g := (Int.gcd A B : Int)) (by omega) (gcd_pos (by omega)) (Int.gcd_dvd_left _ _)
    cases n with
    | false => simp only [sgn_pos, Bool.false_and]; exact decide_eq_false (by omega)
    | true =>
      have e1 : decide (sgn true (A / (Int.gcd A B : Int)) < 0) = true := decide_eq_true (by rw [sgn_neg]; omega)
      rw [e1, decide_eq_true h]; rfl
/-- a number is that of its own parts -/
theorem ratOf_self (x : Rat) : ratOf (decide (x.num < 0)) (x.num.natAbs : Int) (x.den : Int) = x := by
  unfold ratOf
  have e : sgn (decide (x.num < 0)) (x.num.natAbs : Int) = x.num := by
    by_cases h : x.num < 0
    · rw [decide_eq_true h, sgn_neg]; omega
    · rw [decide_eq_false h, sgn_pos]; omega
  rw [e, Rat.num_divInt_den]
theorem den_pos' (x : Rat) : (0 : Int) < (x.den : Int) := by have := Rat.den_pos x; omega
theorem ratOf_neg {n : Bool} {A B : Int} (hA : 0 ≤ A) (hB : 0 < B) (h : A = 0 → n = false) : decide ((ratOf n A B).num < 0) = n := by
  rw [ratOf_lt hA hB]
  by_cases k : A = 0
  · rw [h k]; rfl
  · rw [decide_eq_true k, Bool.and_true]
theorem rat_sum {m n r : Bool} {A B C D S : Int} (hB : 0 < B) (hD : 0 < D) (h : sgn r S = sgn m (A * D) + sgn n (C * B)) : ratOf r S (B * D) = ratOf m A B + ratOf n C D := by
  unfold ratOf
  rw [h, Rat.divInt_add_divInt _ _ (by omega) (by omega)]
  have e : ∀ (m : Bool) (A D : Int), sgn m (A * D) = sgn m A * D := fun m A D => by cases m <;> simp [sgn, Int.neg_mul]
  rw [e, e]
end
section
open Go.RowKit
set_option linter.unusedVariables false
set_option linter.unusedSimpArgs false
/-- a rational number, as it came in: a sign, two rows of limbs -/
def ArgQ (w : World) (v : Value) (x : Rat) (n : Nat) : Prop :=
  ∃ (neg : Bool) (xs ys : List Int) (ad bd : Option Addr) (ca cb : Nat), v = .agg #[.bool neg, .slice ad xs.length ca, .slice bd ys.length cb] ∧
    Arg w (.slice ad xs.length ca) xs ad ca ∧ Arg w (.slice bd ys.length cb) ys bd cb ∧ ratOf neg (val xs) (val ys) = x ∧ xs.length ≤ n ∧ ys.length ≤ n
/-- the same, with a denominator above 0, and 0 without a sign -/
def PlainQ (w : World) (v : Value) (x : Rat) (n : Nat) : Prop :=
  ∃ (neg : Bool) (xs ys : List Int) (ad bd : Option Addr) (ca cb : Nat), v = .agg #[.bool neg, .slice ad xs.length ca, .slice bd ys.length cb] ∧
    Arg w (.slice ad xs.length ca) xs ad ca ∧ Arg w (.slice bd ys.length cb) ys bd cb ∧ ratOf neg (val xs) (val ys) = x ∧ xs.length ≤ n ∧ ys.length ≤ n ∧ 0 < val ys ∧ (val xs = 0 → neg = false)
/-- a rational number as it is answered: its parts, each in its one way, in new memory -/
def ResQ (base : Nat) (w : World) (v : Value) (x : Rat) (n : Nat) : Prop :=
  ∃ (zs ys : List Int) (ad bd : Option Addr) (ca cb : Nat), v = .agg #[.bool (decide (x.num < 0)), .slice ad zs.length ca, .slice bd ys.length cb] ∧
    Res base w (.slice ad zs.length ca) zs (x.num.natAbs : Int) ∧ Res base w (.slice bd ys.length cb) ys (x.den : Int) ∧ zs.length ≤ n ∧ ys.length ≤ n
/-- the reference's rational number: its parts, in digits -/
def ArgR (w : World) (v : Value) (x : Rat) (n : Nat) : Prop :=
  ∃ (zs ys : List Int) (ad bd : Option Addr) (ca cb : Nat), v = .agg #[.bool (decide (x.num < 0)), .slice ad zs.length ca, .slice bd ys.length cb] ∧
    ArgD w (.slice ad zs.length ca) zs ad ca ∧ ArgD w (.slice bd ys.length cb) ys bd cb ∧ valD zs = (x.num.natAbs : Int) ∧ valD ys = (x.den : Int) ∧ zs.length ≤ n ∧ ys.length ≤ n
/-- a whole number with a sign -/
def SgnQ (w : World) (v : Value) (S : Int) (n : Nat) : Prop :=
  ∃ (neg : Bool) (xs : List Int) (ad : Option Addr) (ca : Nat), v = .agg #[.bool neg, .slice ad xs.length ca] ∧ Arg w (.slice ad xs.length ca) xs ad ca ∧ sgn neg (val xs) = S ∧ xs.length ≤ n
theorem ArgQ.later {w w' : World} {v : Value} {x : Rat} {n : Nat} (h : ArgQ w v x n) (hb : Below w.heap.size w w') : ArgQ w' v x n := by
  obtain ⟨neg, xs, ys, ad, bd, ca, cb, rfl, A, B, h⟩ := h
  exact ⟨neg, xs, ys, ad, bd, ca, cb, rfl, A.later hb, B.later hb, h⟩
theorem PlainQ.later {w w' : World} {v : Value} {x : Rat} {n : Nat} (h : PlainQ w v x n) (hb : Below w.heap.size w w') : PlainQ w' v x n := by
  obtain ⟨neg, xs, ys, ad, bd, ca, cb, rfl, A, B, h⟩ := h
  exact ⟨neg, xs, ys, ad, bd, ca, cb, rfl, A.later hb, B.later hb, h⟩
theorem ResQ.later {base : Nat} {w w' : World} {v : Value} {x : Rat} {n : Nat} (h : ResQ base w v x n) (hb : Below w.heap.size w w') : ResQ base w' v x n := by
  obtain ⟨zs, ys, ad, bd, ca, cb, rfl, A, B, h⟩ := h
  exact ⟨zs, ys, ad, bd, ca, cb, rfl, A.later hb, B.later hb, h⟩
theorem ArgR.later {w w' : World} {v : Value} {x : Rat} {n : Nat} (h : ArgR w v x n) (hb : Below w.heap.size w w') : ArgR w' v x n := by
  obtain ⟨zs, ys, ad, bd, ca, cb, rfl, A, B, h⟩ := h
  exact ⟨zs, ys, ad, bd, ca, cb, rfl, A.later hb, B.later hb, h⟩
theorem SgnQ.later {w w' : World} {v : Value} {S : Int} {n : Nat} (h : SgnQ w v S n) (hb : Below w.heap.size w w') : SgnQ w' v S n := by
  obtain ⟨neg, xs, ad, ca, rfl, A, h⟩ := h
  exact ⟨neg, xs, ad, ca, rfl, A.later hb, h⟩
theorem ArgQ.more {w : World} {v : Value} {x : Rat} {n m : Nat} (h : ArgQ w v x n) (hm : n ≤ m) : ArgQ w v x m := by
  obtain ⟨neg, xs, ys, ad, bd, ca, cb, rfl, A, B, h, h1, h2⟩ := h
  exact ⟨neg, xs, ys, ad, bd, ca, cb, rfl, A, B, h, by omega, by omega⟩
theorem PlainQ.more {w : World} {v : Value} {x : Rat} {n m : Nat} (h : PlainQ w v x n) (hm : n ≤ m) : PlainQ w v x m := by
  obtain ⟨neg, xs, ys, ad, bd, ca, cb, rfl, A, B, h, h1, h2, h3⟩ := h
  exact ⟨neg, xs, ys, ad, bd, ca, cb, rfl, A, B, h, by omega, by omega, h3⟩
theorem ResQ.more {base : Nat} {w : World} {v : Value} {x : Rat} {n m : Nat} (h : ResQ base w v x n) (hm : n ≤ m) : ResQ base w v x m := by
  obtain ⟨zs, ys, ad, bd, ca, cb, rfl, A, B, h1, h2⟩ := h
  exact ⟨zs, ys, ad, bd, ca, cb, rfl, A, B, by omega, by omega⟩
theorem ArgR.more {w : World} {v : Value} {x : Rat} {n m : Nat} (h : ArgR w v x n) (hm : n ≤ m) : ArgR w v x m := by
  obtain ⟨zs, ys, ad, bd, ca, cb, rfl, A, B, h1, h2, h3, h4⟩ := h
  exact ⟨zs, ys, ad, bd, ca, cb, rfl, A, B, h1, h2, by omega, by omega⟩
theorem PlainQ.arg {w : World} {v : Value} {x : Rat} {n : Nat} (h : PlainQ w v x n) : ArgQ w v x n := by
  obtain ⟨neg, xs, ys, ad, bd, ca, cb, rfl, A, B, h, h1, h2, _⟩ := h
  exact ⟨neg, xs, ys, ad, bd, ca, cb, rfl, A, B, h, h1, h2⟩
theorem Res.at_ {base : Nat} {w : World} {ad : Option Addr} {n cap : Nat} {zs : List Int} {N : Int} (h : Res base w (.slice ad n cap) zs N) : n = zs.length ∧ Arg w (.slice ad n cap) zs ad cap := by
  obtain ⟨ad', cap', A⟩ := h.arg
  have e := A.is
  simp only [Value.slice.injEq] at e
  obtain ⟨rfl, rfl, rfl⟩ := e
  exact ⟨rfl, A⟩
theorem Res.slice {base : Nat} {w : World} {u : Value} {zs : List Int} {N : Int} (h : Res base w u zs N) : ∃ ad cap, u = .slice ad zs.length cap ∧ Res base w (.slice ad zs.length cap) zs N ∧ Arg w (.slice ad zs.length cap) zs ad cap := by
  obtain ⟨ad, cap, A⟩ := h.arg
  have e := A.is
  subst e
  exact ⟨ad, cap, rfl, h, A⟩
theorem ResD.slice {base : Nat} {w : World} {u : Value} {zs : List Int} {N : Int} (h : ResD base w u zs N) : ∃ ad cap, u = .slice ad zs.length cap ∧ ResD base w (.slice ad zs.length cap) zs N ∧ ArgD w (.slice ad zs.length cap) zs ad cap := by
  obtain ⟨ad, cap, A⟩ := h.arg
  have e := A.is
  subst e
  exact ⟨ad, cap, rfl, h, A⟩
theorem Res.mono {base base' : Nat} {w : World} {u : Value} {zs : List Int} {n : Int} (h : Res base w u zs n) (hb : base' ≤ base) : Res base' w u zs n := ⟨h.num.mono hb, h.wf, h.full, h.eq⟩
theorem ResQ.mono {base base' : Nat} {w : World} {v : Value} {x : Rat} {n : Nat} (h : ResQ base w v x n) (hb : base' ≤ base) : ResQ base' w v x n := by
  obtain ⟨zs, ys, ad, bd, ca, cb, rfl, A, B, h⟩ := h
  exact ⟨zs, ys, ad, bd, ca, cb, rfl, A.mono hb, B.mono hb, h⟩
theorem ResQ.arg {base : Nat} {w : World} {v : Value} {x : Rat} {n : Nat} (h : ResQ base w v x n) : ArgQ w v x n := by
  obtain ⟨zs, ys, ad, bd, ca, cb, rfl, A, B, h1, h2⟩ := h
  exact ⟨_, zs, ys, ad, bd, ca, cb, rfl, A.at_.2, B.at_.2, by rw [A.eq, B.eq, ratOf_self], h1, h2⟩
theorem ResQ.plain {base : Nat} {w : World} {v : Value} {x : Rat} {n : Nat} (h : ResQ base w v x n) : PlainQ w v x n := by
  obtain ⟨zs, ys, ad, bd, ca, cb, rfl, A, B, h1, h2⟩ := h
  exact ⟨_, zs, ys, ad, bd, ca, cb, rfl, A.at_.2, B.at_.2, by rw [A.eq, B.eq, ratOf_self], h1, h2, by rw [B.eq]; exact den_pos' x, fun h0 => decide_eq_false (by rw [A.eq] at h0; omega)⟩
/-- block g holds just the cells cs, of type t -/
def Row (w : World) (g : Nat) (t : TypeId) (cs : Array Value) : Prop := w.heap[g]? = some (.cells cs t (0, 0))
theorem Row.new (w : World) (t : TypeId) (cs : Array Value) : Row (w.alloc (.cells cs t)) w.heap.size t cs := heap_alloc_new w _
theorem Row.lt {w : World} {g : Nat} {t : TypeId} {cs : Array Value} (h : Row w g t cs) : g < w.heap.size := lt_of_block h
theorem Row.cell {w : World} {g : Nat} {t : TypeId} {cs : Array Value} (h : Row w g t cs) (i : Nat) : w.cell? ⟨g, i, none⟩ = cs[i]? := cell_of_row w g i cs t (0, 0) h
theorem Row.free {w : World} {g : Nat} {t : TypeId} {cs : Array Value} (h : Row w g t cs) (i : Nat) : w.frozen? ⟨g, i, none⟩ = false := frozen_of_row w g i cs t h
theorem Row.alloc {w : World} {g : Nat} {t : TypeId} {cs : Array Value} (h : Row w g t cs) (o : Obj) : Row (w.alloc o) g t cs := (Below.heap_alloc _ _ _ h.lt).trans h
theorem Row.drew {w : World} {g : Nat} {t : TypeId} {cs : Array Value} (h : Row w g t cs) : Row w.drew g t cs := h
theorem Row.below {w w' : World} {g B : Nat} {t : TypeId} {cs : Array Value} (h : Row w g t cs) (hb : Below B w w') (hg : g < B) : Row w' g t cs := (hb.block g hg).trans h
theorem Row.later {w w' : World} {g : Nat} {t : TypeId} {cs : Array Value} (h : Row w g t cs) (hb : Below w.heap.size w w') : Row w' g t cs := h.below hb h.lt
theorem Row.set {w : World} {g : Nat} {t : TypeId} {cs : Array Value} (h : Row w g t cs) (i : Nat) (u : Value) : Row (w.setCell ⟨g, i, none⟩ u) g t (cs.setIfInBounds i u) := heap_setCell_same w g i cs t u h
theorem Row.far {w : World} {g : Nat} {t : TypeId} {cs : Array Value} (h : Row w g t cs) {p : Addr} (hp : g ≠ p.block) (u : Value) : Row (w.setCell p u) g t cs := (Below.heap_setCell w p u g hp).trans h
theorem Row.two {w : World} {g : Nat} {t : TypeId} {a b : Value} (h : Row w g t #[a, b]) :
    w.cell? ⟨g, 0, none⟩ = some a ∧ w.cell? ⟨g, 1, none⟩ = some b ∧ w.frozen? ⟨g, 0, none⟩ = false ∧ w.frozen? ⟨g, 1, none⟩ = false := ⟨h.cell 0, h.cell 1, h.free 0, h.free 1⟩
theorem Row.three {w : World} {g : Nat} {t : TypeId} {a b c : Value} (h : Row w g t #[a, b, c]) :
    w.cell? ⟨g, 0, none⟩ = some a ∧ w.cell? ⟨g, 1, none⟩ = some b ∧ w.cell? ⟨g, 2, none⟩ = some c ∧ w.frozen? ⟨g, 0, none⟩ = false ∧ w.frozen? ⟨g, 1, none⟩ = false ∧ w.frozen? ⟨g, 2, none⟩ = false :=
  ⟨h.cell 0, h.cell 1, h.cell 2, h.free 0, h.free 1, h.free 2⟩
theorem Row.set2 {w : World} {g : Nat} {t : TypeId} {a b : Value} (h : Row w g t #[a, b]) (x y : Value) : Row ((w.setCell ⟨g, 0, none⟩ x).setCell ⟨g, 1, none⟩ y) g t #[x, y] := (h.set 0 x).set 1 y
theorem Row.set3 {w : World} {g : Nat} {t : TypeId} {a b c : Value} (h : Row w g t #[a, b, c]) (x y z : Value) : Row (((w.setCell ⟨g, 0, none⟩ x).setCell ⟨g, 1, none⟩ y).setCell ⟨g, 2, none⟩ z) g t #[x, y, z] := ((h.set 0 x).set 1 y).set 2 z
theorem below_set2 {B g : Nat} {w w' : World} (h : Below B w w') (hg : B ≤ g) (x y : Value) : Below B w ((w'.setCell ⟨g, 0, none⟩ x).setCell ⟨g, 1, none⟩ y) := (h.setCell hg x).setCell hg y
theorem below_set3 {B g : Nat} {w w' : World} (h : Below B w w') (hg : B ≤ g) (x y z : Value) : Below B w (((w'.setCell ⟨g, 0, none⟩ x).setCell ⟨g, 1, none⟩ y).setCell ⟨g, 2, none⟩ z) := ((h.setCell hg x).setCell hg y).setCell hg z
/-- a result, where only block g has been written to, which lies below what was made -/
theorem Res.kept {base g : Nat} {w w' : World} {u : Value} {zs : List Int} {n : Int} (h : Res base w u zs n) (hk : ∀ k, k ≠ g → w'.heap[k]? = w.heap[k]?) (hg : g < base) : Res base w' u zs n := by
  refine ⟨?_, h.wf, h.full, h.eq⟩
  obtain ⟨h1, h2⟩ := h.num
  refine ⟨h1, ?_⟩
  rcases h2 with h2 | ⟨k, cap, cur, rfl, hg0, hg', hc, hm, hs, ht⟩
  · exact .inl h2
  · exact .inr ⟨k, cap, cur, rfl, hg0, (hk k (by omega)).trans hg', hc, hm, hs, ht⟩
theorem kept3 {g : Nat} {w : World} (x y z : Value) : ∀ k, k ≠ g → (((w.setCell ⟨g, 0, none⟩ x).setCell ⟨g, 1, none⟩ y).setCell ⟨g, 2, none⟩ z).heap[k]? = w.heap[k]? := fun k hk =>
  ((Below.heap_setCell _ _ _ _ hk).trans (Below.heap_setCell _ _ _ _ hk)).trans (Below.heap_setCell _ _ _ _ hk)
theorem kept2 {g : Nat} {w : World} (x y : Value) : ∀ k, k ≠ g → ((w.setCell ⟨g, 0, none⟩ x).setCell ⟨g, 1, none⟩ y).heap[k]? = w.heap[k]? := fun k hk =>
  (Below.heap_setCell _ _ _ _ hk).trans (Below.heap_setCell _ _ _ _ hk)
/-- all blocks of w but g are in w' as they were -/
structure Kept (g : Nat) (w w' : World) : Prop where
  os : w'.os = w.os
  tape : w'.tape = w.tape
  output : w'.output = w.output
  size : w.heap.size ≤ w'.heap.size
  block : ∀ k, k < w.heap.size → k ≠ g → w'.heap[k]? = w.heap[k]?
theorem Kept.refl (g : Nat) (w : World) : Kept g w w := ⟨rfl, rfl, rfl, Nat.le_refl _, fun _ _ _ => rfl⟩
theorem Kept.drew {g : Nat} {a w : World} (h : Kept g a w) : Kept g a w.drew := ⟨h.os, h.tape, h.output, h.size, h.block⟩
theorem Kept.below {g : Nat} {a w w' : World} (h : Kept g a w) (hb : Below w.heap.size w w') : Kept g a w' :=
  ⟨hb.os.trans h.os, hb.tape.trans h.tape, hb.output.trans h.output, Nat.le_trans h.size hb.size, fun k hk hg => (hb.block k (Nat.lt_of_lt_of_le hk h.size)).trans (h.block k hk hg)⟩
theorem Kept.alloc {g : Nat} {a w : World} (h : Kept g a w) (o : Obj) : Kept g a (w.alloc o) := h.below ((Below.refl _ _).alloc (Nat.le_refl _) o)
theorem Kept.set {g : Nat} {a w : World} (h : Kept g a w) (i : Nat) (u : Value) : Kept g a (w.setCell ⟨g, i, none⟩ u) := by
  have hb := (Below.refl 0 w).setCell (Nat.zero_le (⟨g, i, none⟩ : Addr).block) u
  exact ⟨hb.os.trans h.os, hb.tape.trans h.tape, hb.output.trans h.output, Nat.le_trans h.size hb.size, fun k hk hg => (Below.heap_setCell w _ u k hg).trans (h.block k hk hg)⟩
theorem Kept.under {B g : Nat} {a w w' : World} (k : Kept g w w') (h : Below B a w) (hB : B ≤ w.heap.size) (hg : B ≤ g) : Below B a w' :=
  ⟨k.os.trans h.os, k.tape.trans h.tape, k.output.trans h.output, Nat.le_trans h.size k.size, fun j hj => (k.block j (by omega) (by omega)).trans (h.block j hj)⟩
theorem Row.kept {w w' : World} {g r : Nat} {t : TypeId} {cs : Array Value} (h : Row w g t cs) (k : Kept r w w') (hg : g ≠ r) : Row w' g t cs := (k.block g h.lt hg).trans h
/-- cells that are neither limbs nor digits -/
def NoInts (cs : Array Value) : Prop := ∀ (i : Nat) (k : IntKind) (x : Int), cs[i]? ≠ some (Value.int k x)
theorem noInts3 (p : Bool) (ad bd : Option Addr) (n cap m cbp : Nat) : NoInts #[.bool p, .slice ad n cap, .slice bd m cbp] := by
  intro i k x
  match i with
  | 0 => simp
  | 1 => simp
  | 2 => simp
  | _ + 3 => simp
theorem Lim.far {w w' : World} {ad : Option Addr} {xs : List Int} {g : Nat} {t : TypeId} {cs : Array Value} (h : Lim w ad xs) (R : Row w g t cs) (hn : NoInts cs) (hk : ∀ k, k ≠ g → w'.heap[k]? = w.heap[k]?) : Lim w' ad xs := by
  rcases h with rfl | ⟨b, off, rfl, hc⟩
  · exact .inl rfl
  · refine .inr ⟨b, off, rfl, fun i hi => ?_⟩
    by_cases hb : b = g
    · subst hb
      have h1 := hc i hi
      rw [R.cell] at h1
      exact absurd h1 (hn _ _ _)
    · rw [World.cell?_of_block (hk b hb)]
      exact hc i hi
theorem LimI.far {w w' : World} {ad : Option Addr} {xs : List Int} {g : Nat} {t : TypeId} {cs : Array Value} (h : LimI w ad xs) (R : Row w g t cs) (hn : NoInts cs) (hk : ∀ k, k ≠ g → w'.heap[k]? = w.heap[k]?) : LimI w' ad xs := by
  rcases h with rfl | ⟨b, off, rfl, hc⟩
  · exact .inl rfl
  · refine .inr ⟨b, off, rfl, fun i hi => ?_⟩
    by_cases hb : b = g
    · subst hb
      have h1 := hc i hi
      rw [R.cell] at h1
      exact absurd h1 (hn _ _ _)
    · rw [World.cell?_of_block (hk b hb)]
      exact hc i hi
theorem Arg.far {w w' : World} {u : Value} {ad : Option Addr} {xs : List Int} {cap g : Nat} {t : TypeId} {cs : Array Value} (h : Arg w u xs ad cap) (R : Row w g t cs) (hn : NoInts cs) (hk : ∀ k, k ≠ g → w'.heap[k]? = w.heap[k]?) : Arg w' u xs ad cap :=
  ⟨h.is, h.lim.far R hn hk, h.le, h.wf⟩
theorem ArgD.far {w w' : World} {u : Value} {ad : Option Addr} {xs : List Int} {cap g : Nat} {t : TypeId} {cs : Array Value} (h : ArgD w u xs ad cap) (R : Row w g t cs) (hn : NoInts cs) (hk : ∀ k, k ≠ g → w'.heap[k]? = w.heap[k]?) : ArgD w' u xs ad cap :=
  ⟨h.is, h.lim.far R hn hk, h.le, h.wf, h.full⟩
theorem Res.far {base : Nat} {w w' : World} {u : Value} {zs : List Int} {n : Int} {g : Nat} {t : TypeId} {cs : Array Value} (h : Res base w u zs n) (R : Row w g t cs) (ht : t ≠ 63) (hk : ∀ k, k ≠ g → w'.heap[k]? = w.heap[k]?) : Res base w' u zs n := by
  refine ⟨?_, h.wf, h.full, h.eq⟩
  obtain ⟨h1, h2⟩ := h.num
  refine ⟨h1, ?_⟩
  rcases h2 with h2 | ⟨k, cap, cur, rfl, hg0, hg', hc, hm, hs, ht'⟩
  · exact .inl h2
  · refine .inr ⟨k, cap, cur, rfl, hg0, (hk k ?_).trans hg', hc, hm, hs, ht'⟩
    rintro rfl
    have e := hg'.symm.trans R
    injection e with e
    injection e with _ e
    exact ht e.symm
theorem ArgQ.far {w w' : World} {v : Value} {x : Rat} {n : Nat} {g : Nat} {t : TypeId} {cs : Array Value} (h : ArgQ w v x n) (R : Row w g t cs) (hn : NoInts cs) (hk : ∀ k, k ≠ g → w'.heap[k]? = w.heap[k]?) : ArgQ w' v x n := by
  obtain ⟨neg, xs, ys, ad, bd, ca, cb, rfl, A, B, h⟩ := h
  exact ⟨neg, xs, ys, ad, bd, ca, cb, rfl, A.far R hn hk, B.far R hn hk, h⟩
theorem PlainQ.far {w w' : World} {v : Value} {x : Rat} {n : Nat} {g : Nat} {t : TypeId} {cs : Array Value} (h : PlainQ w v x n) (R : Row w g t cs) (hn : NoInts cs) (hk : ∀ k, k ≠ g → w'.heap[k]? = w.heap[k]?) : PlainQ w' v x n := by
  obtain ⟨neg, xs, ys, ad, bd, ca, cb, rfl, A, B, h⟩ := h
  exact ⟨neg, xs, ys, ad, bd, ca, cb, rfl, A.far R hn hk, B.far R hn hk, h⟩
theorem SgnQ.far {w w' : World} {v : Value} {X : Int} {n : Nat} {g : Nat} {t : TypeId} {cs : Array Value} (h : SgnQ w v X n) (R : Row w g t cs) (hn : NoInts cs) (hk : ∀ k, k ≠ g → w'.heap[k]? = w.heap[k]?) : SgnQ w' v X n := by
  obtain ⟨neg, xs, ad, ca, rfl, A, h⟩ := h
  exact ⟨neg, xs, ad, ca, rfl, A.far R hn hk, h⟩
theorem ResQ.far {base : Nat} {w w' : World} {v : Value} {x : Rat} {n : Nat} {g : Nat} {t : TypeId} {cs : Array Value} (h : ResQ base w v x n) (R : Row w g t cs) (ht : t ≠ 63) (hk : ∀ k, k ≠ g → w'.heap[k]? = w.heap[k]?) : ResQ base w' v x n := by
  obtain ⟨zs, ys, ad, bd, ca, cb, rfl, A, B, h⟩ := h
  exact ⟨zs, ys, ad, bd, ca, cb, rfl, A.far R ht hk, B.far R ht hk, h⟩
theorem ArgR.far {w w' : World} {v : Value} {x : Rat} {n : Nat} {g : Nat} {t : TypeId} {cs : Array Value} (h : ArgR w v x n) (R : Row w g t cs) (hn : NoInts cs) (hk : ∀ k, k ≠ g → w'.heap[k]? = w.heap[k]?) : ArgR w' v x n := by
  obtain ⟨zs, ys, ad, bd, ca, cb, rfl, A, B, h⟩ := h
  exact ⟨zs, ys, ad, bd, ca, cb, rfl, A.far R hn hk, B.far R hn hk, h⟩
theorem wrap_abs (a : Nat) (h : a ≤ 9223372036854775808) : IntKind.u64.wrap (wrap64 (a : Int)) = (a : Int) := by
  unfold wrap64
  simp only [IntKind.wrap, IntKind.signed, IntKind.bits]
  simp
  omega
theorem wrap_abs' (a : Nat) (h : a ≤ 9223372036854775808) : IntKind.u64.wrap (IntKind.i64.wrap (a : Int)) = (a : Int) := by
  simp only [IntKind.wrap, IntKind.signed, IntKind.bits]
  simp
  omega
set_option maxHeartbeats 1000000 in
theorem size_any (n : Int) (w : World) (h0 : -9223372036854775808 ≤ n) (h1 : n ≤ 9223372036854775807) :
    Calls Tryz.prog 112 #[.int .i64 n] w fun e w' => ∃ r zs, e = .returned r ∧ Res w.heap.size w' r zs (n.natAbs : Int) ∧ zs.length ≤ 2 ∧ Below w.heap.size w w' := by
  by_cases hn : n < 0
  · have hd : decide (n < 0) = true := decide_eq_true hn
    obtain ⟨a, ha⟩ : ∃ a, n.natAbs = a := ⟨_, rfl⟩
    have ha2 : n = -(a : Int) := by omega
    rw [ha]
    subst ha2
    have hc : IntKind.u64.wrap (wrap64 (a : Int)) = (a : Int) := wrap_abs a (by omega)
    have hc2 : IntKind.u64.wrap (IntKind.i64.wrap (a : Int)) = (a : Int) := wrap_abs' a (by omega)
    clear ha
    go_enter Tryz.func112, Tryz.ntmps112
    go_wp2_with fail
    refine (ofN_any (a : Int) _ (by omega) (by omega)).mono ?_
    rintro e w' ⟨r, z, rfl, q, nz, hb⟩
    go_wp2_with fail
    go_ret
    exact ⟨r, z, rfl, q, nz, hb⟩
  · have hd : decide (n < 0) = false := decide_eq_false hn
    obtain ⟨a, ha⟩ : ∃ a, n.natAbs = a := ⟨_, rfl⟩
    have ha2 : n = (a : Int) := by omega
    rw [ha]
    subst ha2
    have hc : IntKind.u64.wrap (a : Int) = (a : Int) := wrap_u64 (by omega) (by omega)
    clear ha
    go_enter Tryz.func112, Tryz.ntmps112
    go_wp2_with fail
    refine (ofN_any (a : Int) _ (by omega) (by omega)).mono ?_
    rintro e w' ⟨r, z, rfl, q, nz, hb⟩
    go_wp2_with fail
    go_ret
    exact ⟨r, z, rfl, q, nz, hb⟩
end
end Go.Proofs.YtooglnhlhgmhdaaGreat
