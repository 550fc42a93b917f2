/-
  Package point as it landed: the small functions: slices.Clone, shaped, mayPair, mayPower, cmp.Or, relu, step, and the closures of Pow, Scale, total.
-/
import Derived.Test.YtjcacmnmbbnffaaGreatE6
import Derived.Lib.SliceRun
namespace Go.Proofs.YtjcacmnmbbnffaaGreat
open Go.RowKit
set_option linter.unusedVariables false
set_option linter.unusedSimpArgs false

theorem make_rowP (m : Nat) (hc : m ≤ 1000000000000) (w : World) :
    (Instr.makeSlice 24 (.int .i64 0) (.int .i64 (m : Int))).run Tryz.prog w = .ok (.slice (some ⟨w.heap.size, 0, none⟩) 0 m) (w.alloc (.cells (madeCells #[.bool false, .slice none 0 0, .slice none 0 0] (m * 3)) 51)) := by
  obtain ⟨i0, hi, hz0, hz1, hz2⟩ := info_parts infoQ
  have h := run_make (P := Tryz.prog) w 24 51 i0 (.agg #[.bool false, .slice none 0 0, .slice none 0 0]) Tryz.underlying24 hi hz0 .i64 .i64 0 m (by omega) (by omega) (by rw [hz2]; omega) (by omega)
  simpa [hz1, Value.cells] using h
theorem madeP_len (z : Array Value) (m : Nat) : (madeCells z m).size = m := by
  simp [madeCells]
theorem cells_argU {w : World} {ys : List Int} {ad : Addr} {cap : Nat} (lx : Lim w (some ad) ys) : ∀ j u, (ys.map (Value.int .u32))[j]? = some u → w.cell? (ad.add j) = some u := by
  intro j u hj
  rcases lx with rfl | ⟨b, off, e, hc⟩
  · simp at hj
  · cases e
    rw [List.getElem?_map] at hj
    have hjl : j < ys.length := by
      rcases Nat.lt_or_ge j ys.length with h | h
      · exact h
      · rw [List.getElem?_eq_none h] at hj; cases hj
    rw [show (⟨b, off, none⟩ : Addr).add j = ⟨b, off + j, none⟩ from (by unfold Addr.add; split <;> simp_all), hc j hjl, ← hj]
    simp [hjl]
set_option maxRecDepth 100000 in
set_option maxHeartbeats 2000000 in
theorem cloneN_any {u : Value} {xs : List Int} {ad : Option Addr} {cap : Nat} {w : World} (A : Arg w u xs ad cap) (hn : ad = none → cap = 0) (hx : xs.length ≤ 134217728) :
    Calls Tryz.prog 106 #[u] w fun e w' => ∃ r, e = .returned r ∧ Num w.heap.size w' r xs ∧ Below w.heap.size w w' := by
  obtain ⟨i0, hi, hz0, hz1, hz2⟩ := info_parts infoLimb
  have q22 : ∀ (w : World) (a : Option Addr) (n c n' c' : Nat), (binOp .eql 49 (.slice a n c) (.slice none n' c')).run Tryz.prog w = .ok (.bool a.isNone) w := fun w a n c n' c' => Lib.run_eql_slice_nil w _ _ a n c n' c' Tryz.underlying49
  obtain ⟨rfl, lx, hle, wx⟩ := A
  clear wx
  cases ad with
  | none =>
    have hc := hn rfl
    subst hc
    obtain rfl : xs = [] := List.eq_nil_of_length_eq_zero (by omega)
    clear lx hle hn hx
    go_enter Tryz.func106, Tryz.ntmps106
    go_wp2
    go_ret
    exact ⟨_, rfl, World.ownsRow_nil _ _ _ _, Below.refl _ _⟩
  | some a =>
    have HC := Lib.hid (cells_argU (cap := cap) (lx.later ((Below.refl w.heap.size w).alloc (Nat.le_refl _) (.cells #[] 64))))
    clear lx hn
    go_enter Tryz.func106, Tryz.ntmps106
    go_wp2_with (at_builtin; refine wpList_append_own _ rfl _ _ 49 rfl w.heap.size 64 i0 (.int .u32 0) 1 4 Tryz.underlying49 hi hz0 hz1 hz2 rfl (by decide) _ _ _ rfl (World.ownsRow_made w #[] 0 (Nat.le_refl _) (Nat.zero_le _) rfl) a xs.length cap (xs.map (Value.int .u32)) rfl ?qc1 HC.out (ints_oneCell _ _) ?qc4 ?qc5 ?qc6 ?_)
    case qc1 => simp
    case qc4 => unfold maxLen; omega
    case qc5 => omega
    case qc6 => simp
    intro v' w1 hown hgrow hnil
    go_wp2
    go_ret
    refine ⟨v', rfl, ?_, ?_⟩
    · unfold Num; simpa using hown
    · exact ((Below.refl _ w).alloc (Nat.le_refl _) _).grown hgrow (by simp) (by intro k hk; simp [Value.ownBlock] at hk; omega)
set_option maxRecDepth 100000 in
set_option maxHeartbeats 2000000 in
theorem cloneS_any {u : Value} {xs : List Int} {ad : Option Addr} {cap : Nat} {w : World} (A : ArgS w u xs ad cap) (hn : ad = none → cap = 0) (hx : xs.length ≤ 17592186044416) :
    Calls Tryz.prog 129 #[u] w fun e w' => ∃ r, e = .returned r ∧ ResS w.heap.size w' r xs ∧ Below w.heap.size w w' := by
  obtain ⟨i0, hi, hz0, hz1, hz2⟩ := info_parts infoS
  have q22 : ∀ (w : World) (a : Option Addr) (n c n' c' : Nat), (binOp .eql 23 (.slice a n c) (.slice none n' c')).run Tryz.prog w = .ok (.bool a.isNone) w := fun w a n c n' c' => Lib.run_eql_slice_nil w _ _ a n c n' c' Tryz.underlying23
  have HW := Lib.hid A.wf
  obtain ⟨rfl, lx, hle, wx⟩ := A
  clear wx
  cases ad with
  | none =>
    have hc := hn rfl
    subst hc
    obtain rfl : xs = [] := List.eq_nil_of_length_eq_zero (by omega)
    clear lx hle hn hx
    go_enter Tryz.func129, Tryz.ntmps129
    go_wp2
    go_ret
    exact ⟨_, rfl, ResS.nil _ _, Below.refl _ _⟩
  | some a =>
    have HC := Lib.hid (cells_argS (cap := cap) (lx.later ((Below.refl w.heap.size w).alloc (Nat.le_refl _) (.cells #[] 3))))
    clear lx hn
    go_enter Tryz.func129, Tryz.ntmps129
    go_wp2_with (at_builtin; refine wpList_append_own _ rfl _ _ 23 rfl w.heap.size 3 i0 (.int .i64 0) 1 8 Tryz.underlying23 hi hz0 hz1 hz2 rfl (by decide) _ _ _ rfl (World.ownsRow_made w #[] 0 (Nat.le_refl _) (Nat.zero_le _) rfl) a xs.length cap (xs.map (Value.int .i64)) rfl ?qc1 HC.out (ints_oneCell _ _) ?qc4 ?qc5 ?qc6 ?_)
    case qc1 => simp
    case qc4 => unfold maxLen; omega
    case qc5 => omega
    case qc6 => simp
    intro v' w1 hown hgrow hnil
    go_wp2
    go_ret
    refine ⟨v', rfl, ⟨?_, HW.out⟩, ?_⟩
    · unfold NumS; simpa using hown
    · exact ((Below.refl _ w).alloc (Nat.le_refl _) _).grown hgrow (by simp) (by intro k hk; simp [Value.ownBlock] at hk; omega)
set_option maxRecDepth 100000 in
set_option maxHeartbeats 2000000 in
theorem shaped_any {u : Value} {xs : List Int} {ad b : Option Addr} {cap n cb : Nat} {w : World} (A : ArgS w u xs ad cap) (hn : ad = none → cap = 0) (hx : xs.length ≤ 17592186044416) :
    Calls Tryz.prog 92 #[u, .slice b n cb] w fun e w' => ∃ a' ca', e = .returned (.agg #[.slice a' xs.length ca', .slice b n cb]) ∧ ResS w.heap.size w' (.slice a' xs.length ca') xs ∧ Below w.heap.size w w' := by
  obtain rfl := A.is
  obtain ⟨W, hW⟩ : ∃ W, w.alloc (.cells #[.slice none 0 0, .slice none 0 0] 26) = W := ⟨_, rfl⟩
  have R0 : Row W w.heap.size 26 #[.slice none 0 0, .slice none 0 0] := by rw [← hW]; exact Row.new _ _ _
  have hBW : Below w.heap.size w W := by rw [← hW]; exact (Below.refl _ _).alloc (Nat.le_refl _) _
  have hs : W.heap.size = w.heap.size + 1 := by rw [← hW]; simp
  have hc := cloneS_any (A.later hBW) hn hx
  go_enter Tryz.func92, Tryz.ntmps92
  (try rw [hW])
  go_wp2_with (go_at_call 129; refine hc.mono ?_; rintro e w1 ⟨r, rfl, hr, hb⟩; obtain ⟨a', ca', rfl, hr, -, -⟩ := hr.slice; have R1 := R0.later hb; obtain ⟨u0, u1, f0, f1⟩ := R1.two)
  have R2 := R1.set2 (.slice a' xs.length ca') (.slice b n cb)
  obtain ⟨z0, z1, _, _⟩ := R2.two
  refine bodyPost_ret (v := .agg #[.slice a' xs.length ca', .slice b n cb]) (by simp [results, Tryz.results92, go_sem, z0, z1]) rfl ⟨_, _, rfl, ?_, ?_⟩
  · exact (hr.mono (by omega)).far R1 (by decide) (kept2 _ _)
  · exact below_set2 (hBW.trans (hb.mono (by omega))) (Nat.le_refl _) _ _
set_option maxRecDepth 100000 in
theorem mayPair_any {u v : Value} {s1 s2 : List Int} {q1 q2 : List Q3} {a1 b1 a2 b2 : Option Addr} {ca1 cb1 ca2 cb2 : Nat} {w : World} (T1 : TensQ w u s1 q1 a1 ca1 b1 cb1) (T2 : TensQ w v s2 q2 a2 ca2 b2 cb2) (h1 : s1.length ≤ 17592186044416) (h2 : s2.length ≤ 17592186044416) :
    Calls Tryz.prog 90 #[u, v] w fun e w' => e = .returned (.int .i64 (if s1 = s2 then 0 else 13)) ∧ Below w.heap.size w w' := by
  obtain rfl := T1.is
  obtain rfl := T2.is
  obtain ⟨W, hW⟩ : ∃ W, (w.alloc (.cells #[.slice a1 s1.length ca1, .slice b1 q1.length cb1] 26)).alloc (.cells #[.slice a2 s2.length ca2, .slice b2 q2.length cb2] 26) = W := ⟨_, rfl⟩
  have R0 : Row W w.heap.size 26 #[.slice a1 s1.length ca1, .slice b1 q1.length cb1] := by rw [← hW]; exact (Row.new _ _ _).alloc _
  have R1 : Row W (w.heap.size + 1) 26 #[.slice a2 s2.length ca2, .slice b2 q2.length cb2] := by rw [← hW]; have h := (Row.new (w.alloc (.cells #[.slice a1 s1.length ca1, .slice b1 q1.length cb1] 26)) 26 #[.slice a2 s2.length ca2, .slice b2 q2.length cb2]); simp only [World.size_alloc] at h; exact h
  have hBW : Below w.heap.size w W := by rw [← hW]; exact ((Below.refl _ _).alloc (by simp) _).alloc (by simp) _
  have hs := sameS_any (T1.later hBW).sh (T2.later hBW).sh T1.nila T2.nila h1 h2
  obtain ⟨c0, _, _, _⟩ := R0.two
  obtain ⟨c1, _, _, _⟩ := R1.two
  by_cases h : s1 = s2
  · rw [decide_eq_true h] at hs
    rw [if_pos h]
    clear h T1 T2 R0 R1
    go_enter Tryz.func90, Tryz.ntmps90
    (try rw [hW])
    go_wp2_with (go_at_call 78; refine hs.mono ?_; rintro e w1 ⟨rfl, hb⟩)
    go_ret
    exact ⟨rfl, hBW.trans (hb.mono hBW.size)⟩
  · rw [decide_eq_false h] at hs
    rw [if_neg h]
    clear h T1 T2 R0 R1
    go_enter Tryz.func90, Tryz.ntmps90
    (try rw [hW])
    go_wp2_with (go_at_call 78; refine hs.mono ?_; rintro e w1 ⟨rfl, hb⟩)
    go_ret
    exact ⟨rfl, hBW.trans (hb.mono hBW.size)⟩
def powC (n : Int) : Int := if n < 0 ∨ 16 < n then 11 else 0
set_option maxRecDepth 100000 in
theorem mayPower_any (n : Int) (w : World) :
    Calls Tryz.prog 69 #[.int .i64 n] w fun e w' => e = .returned (.int .i64 (powC n)) ∧ w = w' := by
  unfold powC
  by_cases h1 : n < 0
  · rw [if_pos (Or.inl h1)]
    go_enter Tryz.func69, Tryz.ntmps69
    go_wp2
    go_ret
    exact ⟨rfl, rfl⟩
  · by_cases h2 : 16 < n
    · rw [if_pos (Or.inr h2)]
      go_enter Tryz.func69, Tryz.ntmps69
      go_wp2
      go_ret
      exact ⟨rfl, rfl⟩
    · rw [if_neg (by omega)]
      go_enter Tryz.func69, Tryz.ntmps69
      go_wp2
      go_ret
      exact ⟨rfl, rfl⟩
/-- the first number that is not 0 -/
def orL : List Int → Int
  | [] => 0
  | x :: r => if x = 0 then orL r else x
theorem orL_nil {xs : List Int} (h : ∀ x ∈ xs, x = 0) : orL xs = 0 := by
  induction xs with
  | nil => rfl
  | cons x r ih =>
    unfold orL
    rw [if_pos (h x (by simp))]
    exact ih fun y hy => h y (by simp [hy])
theorem orL_at {xs : List Int} {k : Nat} {x : Int} (h : ∀ j, j < k → xs.getD j 0 = 0) (hk : xs[k]? = some x) (hx : x ≠ 0) : orL xs = x := by
  induction xs generalizing k with
  | nil => simp at hk
  | cons y r ih =>
    cases k with
    | zero =>
      simp at hk
      subst hk
      unfold orL
      rw [if_neg hx]
    | succ k =>
      have h0 := h 0 (by omega)
      simp at h0
      unfold orL
      rw [if_pos h0]
      exact ih (k := k) (fun j hj => by simpa using h (j + 1) (by omega)) (by simpa using hk)
set_option maxRecDepth 100000 in
set_option maxHeartbeats 2000000 in
theorem or_any {w : World} {xs : List Int} {b : Nat} {cap : Nat} (hc : ∀ k, k < xs.length → w.cell? ⟨b, k, none⟩ = some (.int .i64 (xs.getD k 0))) (hm : xs.length ≤ 1000000) :
    Calls Tryz.prog 68 #[.slice (some ⟨b, 0, none⟩) xs.length cap] w fun e w' => e = .returned (.int .i64 (orL xs)) ∧ w = w' := by
  obtain ⟨d, hd⟩ : ∃ d, orL xs = d := ⟨_, rfl⟩
  have HD := Lib.hid hd
  have HC := Lib.hid hc
  obtain ⟨m, hm2⟩ : ∃ m, xs.length = m := ⟨_, rfl⟩
  have HM := Lib.hid hm2
  rw [hd]
  rw [hm2] at hm ⊢
  clear hd hc hm2
  go_enter Tryz.func68, Tryz.ntmps68
  go_wp2_with fail
  go_loopw [5, 8] (fun _ i wr => ∃ k : Nat, i = .int .i64 k ∧ k ≤ m ∧ (∀ j, j < k → xs.getD j 0 = 0) ∧ w = wr) (fun _ i _ => m - (intOf i).toNat)
  case atStart => exact ⟨0, rfl, Nat.zero_le _, (fun j hj => by omega), by trivial⟩
  case round =>
    obtain ⟨k, rfl, hk, hall, rfl⟩ := hrel
    have HA := Lib.hid hall
    clear hall
    by_cases hlt : k < m
    · have c1 := HC.out k (by rw [HM.out]; exact hlt)
      obtain ⟨x, hx⟩ : ∃ x, xs.getD k 0 = x := ⟨_, rfl⟩
      rw [hx] at c1
      have HX := Lib.hid hx
      have hk0 : (0 : Int) ≤ (k : Int) := Int.natCast_nonneg _
      have hk1 : (k : Int) < (m : Int) := by omega
      clear hx
      by_cases e : x = 0
      · have hne : (x != 0) = false := by simp [e]
        go_wp2
        go_roundw
        case rel =>
          refine ⟨k + 1, by go_num, by omega, fun j hj => ?_, by trivial⟩
          by_cases h : j = k
          · rw [h, HX.out, e]
          · exact HA.out j (by omega)
        case measure => simp [intOf]; omega
      · have hne : (x != 0) = true := by simp [e]
        have hd : d = x := by
          rw [← HD.out]
          refine orL_at HA.out ?_ e
          have : k < xs.length := by rw [HM.out]; exact hlt
          rw [List.getElem?_eq_getElem this, ← HX.out]
          simp [this]
        subst hd
        go_wp2
        go_ret
        exact ⟨rfl, rfl⟩
    · obtain rfl : k = m := by omega
      have hk1 : ¬ (k : Int) < (k : Int) := by omega
      have hd : d = 0 := by
        rw [← HD.out]
        refine orL_nil fun x hx => ?_
        obtain ⟨j, hj, rfl⟩ := List.mem_iff_getElem.1 hx
        have h := HA.out j (by rw [← HM.out]; exact hj)
        simpa [hj] using h
      subst hd
      go_wp2
      go_ret
      exact ⟨rfl, rfl⟩
end Go.Proofs.YtjcacmnmbbnffaaGreat
