/-
  Part 4 of 39: contracts and what they rest on (Dig, Seen, RMath).
-/
import Derived.Test.YtengpgodmbfmkaaGreatG1
import Derived.Test.YtengpgodmbfmkaaGreatG2
namespace Go.Proofs.YtengpgodmbfmkaaGreat
set_option linter.unusedVariables false
set_option linter.unusedSimpArgs false
set_option maxRecDepth 100000
set_option maxHeartbeats 40000000
section
open Go.RowKit
def LimI (w : World) (ad : Option Addr) (xs : List Int) : Prop :=
 xs = [] ∨ ∃ b off, ad = some ⟨b, off, none⟩ ∧ ∀ i, i < xs.length → w.cell? ⟨b, off + i, none⟩ = some (.int .i64 (xs.getD i 0))
theorem LimI.later {w w' : World} {ad : Option Addr} {xs : List Int} (h : LimI w ad xs) (hb : Below w.heap.size w w') : LimI w' ad xs := by
 rcases h with rfl | ⟨b, off, rfl, hc⟩
 · exact .inl rfl
 · refine .inr ⟨b, off, rfl, fun i hi => ?_⟩
   have hlt := World.block_lt_of_cell? w _ (hc i hi)
   exact (hb.cell (p := ⟨b, off + i, none⟩) hlt).trans (hc i hi)
def NumI (base : Nat) (w : World) (v : Value) (xs : List Int) : Prop := w.ownsRow base 3 1 v xs.length (xs.map (Value.int .i64))
theorem NumI.read {base : Nat} {w : World} {v : Value} {xs : List Int} (h : NumI base w v xs) : ∃ ad cap, v = .slice ad xs.length cap ∧ LimI w ad xs ∧ xs.length ≤ cap ∧ cap ≤ maxLen ∧ (∀ a, ad = some a → base ≤ a.block ∧ a.block < w.heap.size) := by
 obtain ⟨h1, h2⟩ := h
 rcases h2 with ⟨rfl, hn⟩ | ⟨g, cap, cur, rfl, hb, hg, hc, hm, hs, ht⟩
 · obtain rfl := List.eq_nil_of_length_eq_zero hn
   exact ⟨none, 0, rfl, .inl rfl, Nat.le_refl _, by unfold maxLen; omega, fun a ha => by cases ha⟩
 · refine ⟨_, cap, rfl, .inr ⟨g, 0, rfl, fun i hi => ?_⟩, hc, hm, fun a ha => by cases ha; exact ⟨hb, lt_of_block hg⟩⟩
   have hj := World.ownsRow.cellAt (w := w) (base := base) (e := 3) (size := 1) (g := g) (n := xs.length) (cap := cap) (xs := xs.map (Value.int .i64)) ⟨h1, .inr ⟨g, cap, cur, rfl, hb, hg, hc, hm, hs, ht⟩⟩ i (by omega)
   rw [Nat.zero_add, hj]
   simp [hi]
theorem NumI.cut {base : Nat} {w : World} {ad : Option Addr} {xs : List Int} {n cap : Nat} (h : NumI base w (.slice ad n cap) xs) : NumI base w (.slice ad (trimN xs xs.length) cap) (trim xs) := by
 have hl := trim_le xs
 unfold NumI at *
 rw [trim_length]
 obtain ⟨h1, h2⟩ := h
 rcases h2 with ⟨hv, hn⟩ | ⟨g, cap', cur, hv, hb, hg, hc, hm, hs, ht⟩
 · obtain rfl := List.eq_nil_of_length_eq_zero hn
   cases hv
   exact ⟨rfl, .inl ⟨rfl, rfl⟩⟩
 · cases hv
   refine ⟨by rw [List.length_map, trim_length, Nat.mul_one], .inr ⟨g, cap, cur, rfl, hb, hg, by omega, hm, hs, ?_⟩⟩
   unfold trim
   rw [List.map_take, ← ht, List.take_take]
   congr 1
   omega
theorem NumI.lt {base : Nat} {w : World} {v : Value} {xs : List Int} (h : NumI base w v xs) : ∀ k, v.ownBlock = some k → base ≤ k ∧ k < w.heap.size := World.ownsRow.lt h
theorem NumI.kept {base B : Nat} {w w' : World} {v : Value} {xs : List Int} (h : NumI base w v xs) (hb : Below B w w') (hB : ∀ k, v.ownBlock = some k → k < B) : NumI base w' v xs := by
 obtain ⟨h1, h2⟩ := h
 refine ⟨h1, ?_⟩
 rcases h2 with h2 | ⟨g, cap, cur, rfl, hg0, hg, hc, hm, hs, ht⟩
 · exact .inl h2
 · exact .inr ⟨g, cap, cur, rfl, hg0, (hb.block g (hB g rfl)).trans hg, hc, hm, hs, ht⟩
theorem NumI.later {base : Nat} {w w' : World} {v : Value} {xs : List Int} (h : NumI base w v xs) (hb : Below w.heap.size w w') : NumI base w' v xs := h.kept hb fun k hk => (h.lt k hk).2
theorem NumI.mono {base base' : Nat} {w : World} {v : Value} {xs : List Int} (h : NumI base w v xs) (hb : base' ≤ base) : NumI base' w v xs := by
 obtain ⟨h1, h2⟩ := h
 refine ⟨h1, ?_⟩
 rcases h2 with h2 | ⟨g, cap, cur, rfl, hg0, hg, hc, hm, hs, ht⟩
 · exact .inl h2
 · exact .inr ⟨g, cap, cur, rfl, Nat.le_trans hb hg0, hg, hc, hm, hs, ht⟩
def WfD (xs : List Int) : Prop := ∀ x ∈ xs, 0 ≤ x ∧ x < 10000
end
section
open Go.RowKit Go.Shelf
theorem range_seen {α : Type} {n : Nat} {P : Program} {g : Operand} {ps : Array Tmp} {assign body : Code} {Q : Exit → Act → World → Prop} {a : Act} {w : World}
 {gf : Nat} {lb : Array Value} (hg : a.eval g = .func (.func gf) #[] lb) (eg : ∀ args w, (callFunc gf args).run P w = .ok (.enter gf args) w)
 {encs : α → Array Value} (hps : ∀ x, (encs x).size = ps.size) (I : List α → World → Prop) (Nx : List α → α → Prop) (S : List α → Prop) (hI : OwnFrom w.heap.size I) (h0 : I [] w) (a₁ : α → Act)
 (hseq : ∀ (l : Nat) (J : List α → World → Prop), (∀ pre W, J pre W → I pre W) →
   (∀ pre x W, J pre W → Nx pre x → YieldAt Fence.wide (n - 1 - 1) P l (encs x) W fun e W' => e = .returned (.bool true) ∧ J (pre ++ [x]) W') → ∀ W, J [] W →
   CallsIn Fence.wide (n - 1) P gf (#[.func (.yield l) #[] #[]] ++ lb) W fun e W' => (∃ v, e = .returned v) ∧ ∃ xs, S xs ∧ J xs W')
 (hassign : ∀ (l : Nat) (x : α) (W : World) (K : Act → World → Prop), K (a₁ x) W →
   assign.wpIn (Fence.wide.inRound l) (n - 1 - 1) P (Exit.then K (fun _ _ _ => False)) { tmps := (ps.zip (encs x)).foldl (fun t (p, v) => t.setIfInBounds p v) a.tmps, defers := [] } W)
 (hbody : ∀ (l : Nat) (pre : List α) (x : α) (W : World), I pre W → Nx pre x →
   body.wpIn (Fence.wide.inRound l) (n - 1 - 1) P (fun e _ W' => e = .normal ∧ KeepsFrom w.heap.size W W' ∧ I (pre ++ [x]) W') (a₁ x) W)
 (hdone : ∀ (D : Nat) (xs : List α) (W : World), w.heap.size ≤ D → S xs → I xs W → W.heap[D]? = some (.deferred (some [])) → Q .normal { a with defers := { target := .collected D, args := #[] } :: a.defers } W) :
 (Code.rangeFunc g ps assign body).wpIn Fence.wide n P Q a w := by
 refine wpIn_rangeFunc fun fn hfn => ?_
 obtain ⟨lp, hlp⟩ : ∃ lp : LoopState → Option Code → Loop, lp = fun s p => { state := s, pending := p, fn, tmps := a.tmps, params := ps, assign, body, defers := w.heap.size } := ⟨_, rfl⟩
 obtain ⟨V, hV⟩ : ∃ V, (w.alloc (.deferred (some []))).alloc (.loop (lp .ready none)) = V := ⟨_, rfl⟩
 -- the two blocks of the loop's own
 have vl : V.heap[w.heap.size + 1]? = some (.loop (lp .ready none)) := by
  have h := World.alloc_heap_new (w.alloc (.deferred (some []))) (.loop (lp .ready none))
  rw [World.size_alloc, hV] at h
  exact h
 have vd : V.heap[w.heap.size]? = some (.deferred (some [])) := by
  rw [← hV]
  exact (Below.heap_alloc _ _ _ (by simp)).trans (World.alloc_heap_new w _)
 have vi : I [] V := by rw [← hV]; exact hI.alloc _ (hI.alloc _ h0)
 have enter := run_enterLoop_outer (P := P) (w := w) fn a.tmps ps assign body
 rw [show ({ state := LoopState.ready, pending := none, fn := fn, tmps := a.tmps, params := ps, assign := assign, body := body, defers := w.heap.size } : Loop) = lp .ready none by rw [hlp], hV] at enter
 refine ⟨_, _, V, { target := .fn (.func gf) lb, args := #[.func (.yield (w.heap.size + 1)) #[] #[]] }, V, gf, #[.func (.yield (w.heap.size + 1)) #[] #[]] ++ lb, V, enter, ?_, fun _ _ => trivial, ?_, (fun h => by cases h), ?_⟩
 · simp only [resolve, hg]
   simp [go_sem]
 · simp [invoke, go_sem, eg]
 refine (hseq (w.heap.size + 1) (fun pre W => I pre W ∧ W.heap[w.heap.size + 1]? = some (.loop (lp .ready none)) ∧ W.heap[w.heap.size]? = some (.deferred (some [])))
  (fun _ _ h => h.1) ?_ V ⟨vi, vl, vd⟩).mono ?_
 · -- a round
   rintro pre x W ⟨wi, wl, wd⟩ hx
   have hlt : w.heap.size + 1 < W.heap.size := (Array.getElem?_eq_some_iff.1 wl).1
   have hy := run_yield (P := P) (args := encs x) wl (by rw [hlp]; exact hps x)
   rw [hlp] at hy
   refine ⟨fn, _, assign, body, hy, roundIn_of_wpIn hfn (hassign _ x W _ ⟨_, run_beginRound wl (by rw [hlp]), ?_⟩)⟩
   have el : ({ state := LoopState.busy, pending := (lp .ready none).pending, fn := (lp .ready none).fn, tmps := (lp .ready none).tmps, params := (lp .ready none).params, assign := (lp .ready none).assign, body := (lp .ready none).body, defers := (lp .ready none).defers } : Loop) = lp .busy none := by rw [hlp]
   rw [el]
   have bl : (W.putObj (w.heap.size + 1) (.loop (lp .busy none))).heap[w.heap.size + 1]? = some (.loop (lp .busy none)) := World.putObj_heap_same hlt
   have bd : (W.putObj (w.heap.size + 1) (.loop (lp .busy none))).heap[w.heap.size]? = some (.deferred (some [])) := (World.putObj_heap_other (by omega)).trans wd
   refine wpIn_mono (hbody _ pre x _ (hI.putObj _ wi (by omega) wl rfl) hx) ?_
   rintro e a3 W3 ⟨rfl, hk, i3⟩
   have l3 := hk.same _ _ (by omega) bl rfl
   have d3 := hk.same _ _ (Nat.le_refl _) bd rfl
   have fin := run_endRound (P := P) none l3
   have er : ({ state := if (none : Option Code).isNone = true then LoopState.ready else LoopState.done, pending := none, fn := (lp .busy none).fn, tmps := (lp .busy none).tmps, params := (lp .busy none).params, assign := (lp .busy none).assign, body := (lp .busy none).body, defers := (lp .busy none).defers } : Loop) = lp .ready none := by rw [hlp]; rfl
   rw [er] at fin
   exact ⟨_, _, fin, rfl, hI.putObj _ i3 (by omega) l3 rfl, World.putObj_heap_same (Array.getElem?_eq_some_iff.1 l3).1, (World.putObj_heap_other (by omega)).trans d3⟩
 · -- behind the function
   rintro e W2 ⟨⟨v, rfl⟩, xs, hS, i2, l2, d2⟩
   have h := run_endLoop (P := P) l2 (by rw [hlp]; simp)
   rw [show (lp .ready none).pending = none by rw [hlp]] at h
   exact ⟨none, _, h, hdone _ xs _ (Nat.le_refl _) hS (hI.putObj _ i2 (by omega) l2 rfl) ((World.putObj_heap_other (by omega)).trans d2)⟩
theorem back_seen (n : Nat) (Bs g N cap : Nat) (ad : Option Addr) (hg : 0 < N → ad = some ⟨g, 0, none⟩) (hm : N ≤ 35184372088832) (xs : List Int) (hxs : xs.length = N) (I : List (Fin N) → World → Prop)
 (hR : ∀ pre W, I pre W → W.cell? ⟨Bs, 0, none⟩ = some (.slice ad N cap) ∧ ∀ i, i + pre.length < N → W.cell? ⟨g, i, none⟩ = some (.int .u32 (xs.getD i 0)))
 (l : Nat) (J : List (Fin N) → World → Prop) (hJ : ∀ pre W, J pre W → I pre W)
 (hY : ∀ pre x W, J pre W → (Downto pre pre.length ∧ x.val + pre.length + 1 = N) → YieldAt Fence.wide (n - 1) Tryz.prog l (limbAt xs x) W fun e W' => e = .returned (.bool true) ∧ J (pre ++ [x]) W')
 (W : World) (h0 : J [] W) :
 CallsIn Fence.wide n Tryz.prog 186 (#[.func (.yield l) #[] #[]] ++ #[.pointer (some ⟨Bs, 0, none⟩)]) W fun e W' => (∃ v, e = .returned v) ∧ ∃ ys, Downto ys N ∧ J ys W' := by
 have hBs := (hR [] W (hJ _ _ h0)).1
 refine callsIn_of_wp Tryz.func186 rfl trivial ?_ rfl
 simp only [Tryz.ntmps186, List.size_toArray, List.length_cons, List.length_nil, Nat.reduceAdd, Nat.reduceSub, Array.replicate_succ, Array.replicate_zero, List.push_toArray, List.append_toArray, List.nil_append, List.cons_append]
 gi_wp2_with fail
 gi_loopw [3] (fun i wr => ∃ (k : Nat) (pre : List (Fin N)), k ≤ N ∧ i = .int .i64 ((N : Int) - 1 - k) ∧ Downto pre k ∧ J pre wr)
  (fun i _ => (intOf i + 1).toNat)
 case atStart => exact ⟨0, [], Nat.zero_le _, by simp, Downto.nil, h0⟩
 case round =>
  obtain ⟨k, pre, hk, rfl, hdn, hJs⟩ := hrel
  obtain ⟨hBr, hc⟩ := hR pre wr (hJ _ _ hJs)
  have hpl := hdn.1
  by_cases hlt : k < N
  · obtain ⟨j, hj⟩ : ∃ j, j + k + 1 = N := ⟨N - k - 1, by omega⟩
    have hji : ((N : Int) - 1 - k) = (j : Int) := by omega
    rw [hji]
    have hjl : j < N := by omega
    obtain rfl := hg (by omega)
    obtain ⟨fn, tmps, assign, body, hy, hR'⟩ := hY pre ⟨j, hjl⟩ wr hJs ⟨by rw [hpl]; exact hdn, by rw [hpl]; exact hj⟩
    simp only [limbAt] at hy
    have hcx := hc j (by omega)
    have hjn : (j : Int) < (N : Int) := by omega
    have HJ := Lib.hid hj
    have HP := Lib.hid hpl
    clear hc hj hji hBs hxs hpl
    gi_wp2
    refine ⟨(fun h => by cases h), hR'.mono ?_⟩
    rintro e W3 ⟨rfl, hJ3⟩
    gi_wp2
    go_roundw
    case rel => exact ⟨k + 1, _, by omega, by have := HJ.out; congr 1; omega, hdn.snoc ⟨j, hjl⟩ HJ.out, hJ3⟩
    case measure => simp [intOf]
  · obtain rfl : k = N := by omega
    have hji : ((k : Int) - 1 - k) = -1 := by omega
    rw [hji]
    clear hji
    gi_wp2
    go_end0
    exact ⟨⟨_, rfl⟩, _, hdn, hJs⟩
end
section
open Go.RowKit
def sgn (neg : Bool) (A : Int) : Int := if neg = true then -A else A
def ratOf (neg : Bool) (A B : Int) : Rat := Rat.divInt (sgn neg A) B
theorem sgn_neg (A : Int) : sgn true A = -A := rfl
theorem sgn_pos (A : Int) : sgn false A = A := rfl
theorem sgn_zero (n : Bool) : sgn n 0 = 0 := by cases n <;> rfl
theorem sgn_mul (m n : Bool) (A B : Int) : sgn m A * sgn n B = sgn (m != n) (A * B) := by
 cases m <;> cases n <;> simp [sgn, Int.neg_mul, Int.mul_neg]
theorem ratOf_zero_left (n : Bool) (B : Int) : ratOf n 0 B = 0 := by unfold ratOf; rw [sgn_zero, Rat.zero_divInt]
theorem ratOf_zero_right (n : Bool) (A : Int) : ratOf n A 0 = 0 := by unfold ratOf; rw [Rat.divInt_zero]
theorem gcd_pos {A B : Int} (hA : 0 < A) : (0 : Int) < (Int.gcd A B : Int) := by
 have := Int.gcd_pos_of_ne_zero_left (a := A) B (by omega)
 omega
theorem gcd_pos_right {A B : Int} (hB : 0 < B) : (0 : Int) < (Int.gcd A B : Int) := by rw [Int.gcd_comm]; exact gcd_pos hB
theorem ratOf_num {n : Bool} {A B : Int} (hA : 0 ≤ A) (hB : 0 < B) : (ratOf n A B).num = sgn n (A / (Int.gcd A B : Int)) := by
 unfold ratOf
 rw [Rat.num_divInt, Int.sign_eq_one_of_pos hB, Int.one_mul]
 cases n with
 | false => simp only [sgn_pos]; rw [Int.gcd_comm]
 | true =>
   simp only [sgn_neg]
   rw [Int.gcd_neg, Int.gcd_comm, Int.neg_ediv_of_dvd (Int.gcd_dvd_left _ _)]
theorem ratOf_den {n : Bool} {A B : Int} (hB : 0 < B) : ((ratOf n A B).den : Int) = B / (Int.gcd A B : Int) := by
 unfold ratOf
 rw [Rat.den_divInt, if_neg (by omega)]
 have e : Int.gcd B (sgn n A) = Int.gcd A B := by
  cases n with
  | false => rw [sgn_pos, Int.gcd_comm]
  | true => rw [sgn_neg, Int.gcd_neg, Int.gcd_comm]
 rw [e, Int.natCast_ediv, Int.natAbs_of_nonneg (by omega)]
theorem quo_pos {A g : Int} (hA : 0 < A) (hg : 0 < g) (hd : g ∣ A) : 0 < A / g := Int.ediv_pos_of_pos_of_dvd hA (by omega) hd
theorem ratOf_abs {n : Bool} {A B : Int} (hA : 0 ≤ A) (hB : 0 < B) : ((ratOf n A B).num.natAbs : Int) = A / (Int.gcd A B : Int) := by
 rw [ratOf_num hA hB]
 have h := Int.ediv_nonneg hA (Int.natCast_nonneg (Int.gcd A B))
 cases n with
 | false => rw [sgn_pos]; omega
 | true => rw [sgn_neg]; omega
theorem ratOf_lt {n : Bool} {A B : Int} (hA : 0 ≤ A) (hB : 0 < B) : decide ((ratOf n A B).num < 0) = (n && decide (A ≠ 0)) := by
 rw [ratOf_num hA hB]
 by_cases h : A = 0
 · subst h; cases n <;> simp [sgn]
 · have h2 := quo_pos (A := A) (g := (Int.gcd A B : Int)) (by omega) (gcd_pos (by omega)) (Int.gcd_dvd_left _ _)
   cases n with
   | false => simp only [sgn_pos, Bool.false_and]; exact decide_eq_false (by omega)
   | true =>
     have e1 : decide (sgn true (A / (Int.gcd A B : Int)) < 0) = true := decide_eq_true (by rw [sgn_neg]; omega)
     rw [e1, decide_eq_true h]; rfl
theorem ratOf_self (x : Rat) : ratOf (decide (x.num < 0)) (x.num.natAbs : Int) (x.den : Int) = x := by
 unfold ratOf
 have e : sgn (decide (x.num < 0)) (x.num.natAbs : Int) = x.num := by
  by_cases h : x.num < 0
  · rw [decide_eq_true h, sgn_neg]; omega
  · rw [decide_eq_false h, sgn_pos]; omega
 rw [e, Rat.num_divInt_den]
theorem sgn_num (x : Rat) : sgn (decide (x.num < 0)) (x.num.natAbs : Int) = x.num := by
 by_cases h : x.num < 0
 · rw [decide_eq_true h, sgn_neg]; omega
 · rw [decide_eq_false h, sgn_pos]; omega
theorem den_pos' (x : Rat) : (0 : Int) < (x.den : Int) := by have := Rat.den_pos x; omega
theorem x_eq (x : Rat) : x = Rat.divInt x.num x.den := (Rat.num_divInt_den x).symm
theorem rat_mul (x y : Rat) : ratOf ((decide (x.num < 0)) != (decide (y.num < 0))) ((x.num.natAbs : Int) * (y.num.natAbs : Int)) ((x.den : Int) * (y.den : Int)) = x * y := by
 unfold ratOf
 rw [← sgn_mul, sgn_num, sgn_num]
 conv => rhs; rw [x_eq x, x_eq y]
 rw [Rat.divInt_mul_divInt]
theorem rat_add_same (x y : Rat) (h : decide (x.num < 0) = decide (y.num < 0)) :
 ratOf (decide (x.num < 0)) ((x.num.natAbs : Int) * (y.den : Int) + (y.num.natAbs : Int) * (x.den : Int)) ((x.den : Int) * (y.den : Int)) = x + y := by
 have e : sgn (decide (x.num < 0)) ((x.num.natAbs : Int) * (y.den : Int) + (y.num.natAbs : Int) * (x.den : Int)) = x.num * y.den + y.num * x.den := by
  have h1 := sgn_num x
  have h2 := sgn_num y
  rw [← h] at h2
  generalize decide (x.num < 0) = s at *
  generalize (x.num.natAbs : Int) = X at *
  generalize (y.num.natAbs : Int) = Y at *
  rw [← h1, ← h2]
  cases s
  · simp only [sgn_pos]
  · simp only [sgn_neg, Int.neg_mul]; omega
 unfold ratOf
 rw [e]
 conv => rhs; rw [x_eq x, x_eq y]
 rw [Rat.divInt_add_divInt _ _ (by have := den_pos' x; omega) (by have := den_pos' y; omega)]
theorem rat_add_left (x y : Rat) (h : decide (x.num < 0) ≠ decide (y.num < 0)) :
 ratOf (decide (x.num < 0)) ((x.num.natAbs : Int) * (y.den : Int) - (y.num.natAbs : Int) * (x.den : Int)) ((x.den : Int) * (y.den : Int)) = x + y := by
 have e : sgn (decide (x.num < 0)) ((x.num.natAbs : Int) * (y.den : Int) - (y.num.natAbs : Int) * (x.den : Int)) = x.num * y.den + y.num * x.den := by
  have h1 := sgn_num x
  have h2 := sgn_num y
  by_cases hx : x.num < 0
  · have hy : ¬ y.num < 0 := fun hy => h (by rw [decide_eq_true hx, decide_eq_true hy])
    rw [decide_eq_true hx, sgn_neg]
    rw [show x.num = -(x.num.natAbs : Int) by omega, show y.num = (y.num.natAbs : Int) by omega]
    simp only [Int.neg_mul, Int.natAbs_neg, Int.natAbs_natCast]; omega
  · have hy : y.num < 0 := by
     rcases Int.lt_or_le y.num 0 with k | k
     · exact k
     · exact absurd (by rw [decide_eq_false hx, decide_eq_false (by omega)]) h
    rw [decide_eq_false hx, sgn_pos]
    rw [show x.num = (x.num.natAbs : Int) by omega, show y.num = -(y.num.natAbs : Int) by omega]
    simp only [Int.neg_mul, Int.natAbs_neg, Int.natAbs_natCast]; omega
 unfold ratOf
 rw [e]
 conv => rhs; rw [x_eq x, x_eq y]
 rw [Rat.divInt_add_divInt _ _ (by have := den_pos' x; omega) (by have := den_pos' y; omega)]
theorem rat_add_right (x y : Rat) (h : decide (x.num < 0) ≠ decide (y.num < 0)) :
 ratOf (decide (y.num < 0)) ((y.num.natAbs : Int) * (x.den : Int) - (x.num.natAbs : Int) * (y.den : Int)) ((x.den : Int) * (y.den : Int)) = x + y := by
 rw [Rat.add_comm, Int.mul_comm (x.den : Int)]
 exact rat_add_left y x (Ne.symm h)
theorem ratOf_neg {n : Bool} {A B : Int} (hA : 0 ≤ A) (hB : 0 < B) (h : A = 0 → n = false) : decide ((ratOf n A B).num < 0) = n := by
 rw [ratOf_lt hA hB]
 by_cases k : A = 0
 · rw [h k]; rfl
 · rw [decide_eq_true k, Bool.and_true]
theorem rat_sum {m n r : Bool} {A B C D S : Int} (hB : 0 < B) (hD : 0 < D) (h : sgn r S = sgn m (A * D) + sgn n (C * B)) : ratOf r S (B * D) = ratOf m A B + ratOf n C D := by
 unfold ratOf
 rw [h, Rat.divInt_add_divInt _ _ (by omega) (by omega)]
 have e : ∀ (m : Bool) (A D : Int), sgn m (A * D) = sgn m A * D := fun m A D => by cases m <;> simp [sgn, Int.neg_mul]
 rw [e, e]
theorem rat_prod (m n : Bool) (A B C D : Int) : ratOf (m != n) (A * C) (B * D) = ratOf m A B * ratOf n C D := by
 unfold ratOf
 rw [← sgn_mul, Rat.divInt_mul_divInt]
end
end Go.Proofs.YtengpgodmbfmkaaGreat
