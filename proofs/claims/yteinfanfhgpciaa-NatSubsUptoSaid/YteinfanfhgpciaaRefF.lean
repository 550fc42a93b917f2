/-
  Contracts of the reference: Sub.
-/
import Derived.Test.YteinfanfhgpciaaRefC
namespace Go.Proofs.Yteinfanfhgpciaa
open Go.RowKit

theorem Calls.quiet_eq {P : Program} {f : FuncId} {args : Array Value} {w : World} {n : Nat} {v : Value} (h : Calls P f args (w.drewN n) fun e w' => e = .returned v ∧ w.drewN n = w') :
    Calls P f args (w.drewN n) fun e w'' => e = .returned v ∧ ∃ m, w'' = w.drewN m := h.mono fun _ _ ⟨he, hm⟩ => ⟨he, n, hm.symm⟩

def subToD (xs ys : List Int) : Nat → List Int × Int
  | 0 => ([], 0)
  | k + 1 => ((subToD xs ys k).1 ++ [(xs.getD k 0 - ys.getD k 0 + (subToD xs ys k).2) % 10000], (xs.getD k 0 - ys.getD k 0 + (subToD xs ys k).2) / 10000)
theorem subToD_length (xs ys : List Int) (k : Nat) : (subToD xs ys k).1.length = k := by
  induction k with
  | zero => rfl
  | succ k ih => simp [subToD, ih]
theorem subToD_carry (xs ys : List Int) (hx : WfD xs) (hy : WfD ys) (k : Nat) : -1 ≤ (subToD xs ys k).2 ∧ (subToD xs ys k).2 ≤ 0 := by
  induction k with
  | zero => simp [subToD]
  | succ k ih => have h1 := hx.getD k; have h2 := hy.getD k; simp only [subToD]; omega
theorem subToD_wf (xs ys : List Int) (k : Nat) : WfD (subToD xs ys k).1 := by
  induction k with
  | zero => exact WfD.nil
  | succ k ih => exact ih.append (WfD.cons (by omega) WfD.nil)
theorem val_subToD (xs ys : List Int) (k : Nat) : valD (subToD xs ys k).1 + 10000 ^ k * (subToD xs ys k).2 = valD (xs.take k) - valD (ys.take k) := by
  induction k with
  | zero => simp [subToD, valD]
  | succ k ih =>
    rw [val_take_succD, val_take_succD]
    simp only [subToD]
    rw [valD_snoc, subToD_length]
    simp only [Int.pow_succ]
    have hm := mod_divD (xs.getD k 0 - ys.getD k 0 + (subToD xs ys k).2)
    generalize (subToD xs ys k).2 = c at *
    generalize ((xs.getD k 0 - ys.getD k 0 + c) % 10000) = r at *
    generalize ((xs.getD k 0 - ys.getD k 0 + c) / 10000) = q at *
    generalize (10000 : Int) ^ k = P at *
    grind
theorem val_subD {xs ys : List Int} (hx : WfD xs) (hy : WfD ys) (hl : ys.length ≤ xs.length) (h : valD ys ≤ valD xs) : valD (subToD xs ys xs.length).1 = valD xs - valD ys := by
  have h1 := val_subToD xs ys xs.length
  rw [List.take_length, List.take_of_length_le hl] at h1
  have h2 := subToD_carry xs ys hx hy xs.length
  have h3 := val_ltD (subToD_wf xs ys xs.length)
  rw [subToD_length] at h3
  rcases (show (subToD xs ys xs.length).2 = 0 ∨ (subToD xs ys xs.length).2 = -1 by omega) with e | e
  · rw [e] at h1; simpa using h1
  · rw [e] at h1; omega

set_option maxHeartbeats 2000000 in
theorem subD_any {u v : Value} {xs ys : List Int} {a b : Option Addr} {capa capb : Nat} {w : World} (h1 : ArgD w u xs a capa) (h2 : ArgD w v ys b capb) (hx : xs.length ≤ 68719476736) (hy : ys.length ≤ 68719476736) :
    Calls Try.prog 30 #[u, v] w fun e w' => ∃ r f, e = .returned (.tuple #[r, .bool f]) ∧ Below w.heap.size w w' ∧ (valD xs < valD ys → r = .slice none 0 0 ∧ f = false) ∧
      (valD ys ≤ valD xs → f = true ∧ ∃ zs, ResD w.heap.size w' r zs (valD xs - valD ys) ∧ zs.length ≤ xs.length) := by
  obtain ⟨i0, hi, hz0, hz1, hz2⟩ := info_parts infoInt
  have cmp := cmpD_any h1 h2 hx hy
  obtain ⟨rfl, lx, _, wx, fx⟩ := h1
  obtain ⟨rfl, ly, _, wy, fy⟩ := h2
  have hlen : valD ys ≤ valD xs → ys.length ≤ xs.length := fun h => by
    rcases Nat.lt_or_ge xs.length ys.length with h3 | h3
    · have := len_ltD wx wy fy h3; omega
    · exact h3
  have HL := Lib.hid hlen
  clear fx fy hlen
  go_enter Try.func30, Try.ntmps30
  go_wp2_with fail
  refine cmp.mono ?_
  rintro e V ⟨rfl, hV⟩
  clear cmp
  by_cases hlt : valD xs < valD ys
  · rw [sign_lt hlt]
    have hd : decide ((-1 : Int) < 0) = true := by decide
    go_wp2
    go_ret2
    exact ⟨_, _, rfl, hV, fun _ => ⟨rfl, rfl⟩, fun h => by omega⟩
  · have hd : decide (sign (valD xs) (valD ys) < 0) = false := decide_eq_false (by unfold sign; rw [if_neg hlt]; split <;> omega)
    have hL := HL.out (by omega)
    go_wp2
    go_loopw [6, 7, 8, 9] (fun s c i _ wr => ∃ (k : Nat) (q : Value), k ≤ xs.length ∧ q = s ∧ c = .int .i64 (-(subToD xs ys k).2) ∧ i = .int .i64 k ∧ NumI w.heap.size wr q (subToD xs ys k).1 ∧ Below w.heap.size w wr) (fun _ _ i _ _ => xs.length + 1 - (intOf i).toNat)
    case atStart => exact ⟨0, _, Nat.zero_le _, rfl, rfl, rfl, World.ownsRow_nil _ _ _ _, hV⟩
    case round =>
      obtain ⟨k, q, hk, rfl, rfl, rfl, hown, hb⟩ := hrel
      have hsz := hb.size
      obtain ⟨c, hck⟩ : ∃ c, (subToD xs ys k).2 = c := ⟨_, rfl⟩
      have bc := subToD_carry xs ys wx wy k
      rw [hck] at bc ⊢
      obtain ⟨bc0, bc1⟩ := bc
      have hrow : wr.ownsRow w.heap.size 3 1 q k ((subToD xs ys k).1.map (Value.int .i64)) := by
        have h := hown; unfold NumI at h; rw [subToD_length] at h; exact h
      have HO := Lib.hid hown
      have HC := Lib.hid hck
      have HK := Lib.hid hk
      clear hown hck
      by_cases hgo : k < xs.length
      · obtain ⟨x, hxk⟩ : ∃ x, xs.getD k 0 = x := ⟨_, rfl⟩
        obtain ⟨y, hyk⟩ : ∃ y, ys.getD k 0 = y := ⟨_, rfl⟩
        obtain ⟨bx0, bx1⟩ : 0 ≤ x ∧ x < 10000 := hxk ▸ wx.getD k
        obtain ⟨by0, by1⟩ : 0 ≤ y ∧ y < 10000 := hyk ▸ wy.getD k
        rcases lx with rfl | ⟨ba, offa, rfl, hca⟩
        · simp at hgo
        have cx := hca k hgo
        rw [hxk] at cx
        have cx0 := (hb.cell (p := ⟨ba, offa + k, none⟩) (World.block_lt_of_cell? w _ cx)).trans cx
        have ly' := ly.later hb
        have HX := Lib.hid hxk
        have HY := Lib.hid hyk
        clear hxk cx hca
        have done : ∀ (W : World) (D C : Int) (w1 : World) (v' : Value) (o : Obj), Below w.heap.size w W → wr.heap.size ≤ W.heap.size → D = (x - y + c) % 10000 → C = -((x - y + c) / 10000) → w1.ownsRow w.heap.size 3 1 v' (k + 1) ((subToD xs ys k).1.map (Value.int .i64) ++ [Value.int .i64 D]) → (W.alloc o).grownBy w1 q.ownBlock →
            ∃ (j : Nat) (p : Value), j ≤ xs.length ∧ p = v' ∧ Value.int .i64 C = .int .i64 (-(subToD xs ys j).2) ∧ Value.int .i64 ((k : Int) + 1) = .int .i64 j ∧ NumI w.heap.size w1 p (subToD xs ys j).1 ∧ Below w.heap.size w w1 := fun W D C w1 v' o hbW hsW eD eC ho hg => by
          subst eD
          subst eC
          have hown' : w1.ownsRow w.heap.size 3 1 v' ((subToD xs ys k).1.length + 1) ((subToD xs ys k).1.map (Value.int .i64) ++ [Value.int .i64 ((x - y + c) % 10000)]) := by rw [subToD_length]; exact ho
          refine ⟨k + 1, v', by omega, rfl, by simp only [subToD]; rw [HX.out, HY.out, HC.out], by go_num, ?_, ?_⟩
          · simp only [subToD]; rw [HX.out, HY.out, HC.out]
            unfold NumI
            rw [List.length_append, List.map_append]
            exact hown'
          · exact (hbW.alloc (by omega) o).grown hg (by simp; omega) (fun k hk => (HO.out.lt k hk).1)
        have DONE := Lib.hid done
        have hwr2 : ∀ nq, Below w.heap.size w (wr.drewN nq) := fun nq => ⟨hb.os, hb.tape, hb.output, hb.size, hb.block⟩
        have HWR2 := Lib.hid hwr2
        clear done hwr2
        obtain ⟨l, hl⟩ : ∃ l, -c = l := ⟨_, rfl⟩
        obtain rfl : c = -l := by omega
        rw [hl]
        clear hl
        by_cases hn : x - y - l < 0
        · have hdd : decide (x - y - l < 0) = true := decide_eq_true hn
          go_wp2
          go_quiet ((go_at_call 40; refine Calls.quiet_eq (digit_any b ys capb k y _ ?_ (by omega) HY.out); exact ly.later (HWR2.out _)))
          have hWR := HWR2.out nq
          have hsR : wr.heap.size ≤ (wr.drewN nq).heap.size := Nat.le_refl _
          have hrowR : (wr.drewN nq).ownsRow w.heap.size 3 1 q k ((subToD xs ys k).1.map (Value.int .i64)) := hrow
          generalize wr.drewN nq = WR at *
          go_wp2_with (at_builtin; refine wpList_append_own _ rfl _ _ 30 rfl w.heap.size 3 i0 (.int .i64 0) 1 8 Try.underlying30 hi hz0 hz1 hz2 rfl (by decide) _ _ _ rfl (hrowR.alloc _) ⟨WR.heap.size, 0, none⟩ 1 1 [.int .i64 (x - y - l + 10000)] rfl rfl (cell_one_new _ _ _) (by simp [Value.oneCell']) (by unfold maxLen; omega) (by omega) (by simp; omega) ?_; intro v' w1 hown' hgrow _)
          go_roundw
          case rel => exact DONE.out _ _ _ _ _ _ hWR hsR (by omega) (by omega) hown' hgrow
          case measure => simp [intOf]; omega
        · have hdd : decide (x - y - l < 0) = false := decide_eq_false hn
          go_wp2
          go_quiet ((go_at_call 40; refine Calls.quiet_eq (digit_any b ys capb k y _ ?_ (by omega) HY.out); exact ly.later (HWR2.out _)))
          have hWR := HWR2.out nq
          have hsR : wr.heap.size ≤ (wr.drewN nq).heap.size := Nat.le_refl _
          have hrowR : (wr.drewN nq).ownsRow w.heap.size 3 1 q k ((subToD xs ys k).1.map (Value.int .i64)) := hrow
          generalize wr.drewN nq = WR at *
          go_wp2_with (at_builtin; refine wpList_append_own _ rfl _ _ 30 rfl w.heap.size 3 i0 (.int .i64 0) 1 8 Try.underlying30 hi hz0 hz1 hz2 rfl (by decide) _ _ _ rfl (hrowR.alloc _) ⟨WR.heap.size, 0, none⟩ 1 1 [.int .i64 (x - y - l)] rfl rfl (cell_one_new _ _ _) (by simp [Value.oneCell']) (by unfold maxLen; omega) (by omega) (by simp; omega) ?_; intro v' w1 hown' hgrow _)
          go_roundw
          case rel => exact DONE.out _ _ _ _ _ _ hWR hsR (by omega) (by omega) hown' hgrow
          case measure => simp [intOf]; omega
      · obtain rfl : k = xs.length := by omega
        have hv := val_subD wx wy hL (by omega)
        have HV := Lib.hid hv
        clear hv
        go_wp2_with fail
        refine (trimD_num HO.out (by rw [subToD_length]; omega)).mono ?_
        rintro e w' ⟨r, rfl, hr, rfl⟩
        go_wp2_with fail
        go_ret2
        have hlen : (trim (subToD xs ys xs.length).1).length ≤ xs.length := by have h := Nat.le_trans (Nat.le_of_eq (trim_length _)) (trim_le (subToD xs ys xs.length).1); rw [subToD_length] at h; exact h
        exact ⟨_, _, rfl, hb, fun h => by omega, fun _ => ⟨rfl, trim (subToD xs ys xs.length).1, ⟨hr, (subToD_wf xs ys _).trim, trim_full _, by rw [val_trimD, HV.out]⟩, hlen⟩⟩
end Go.Proofs.Yteinfanfhgpciaa
