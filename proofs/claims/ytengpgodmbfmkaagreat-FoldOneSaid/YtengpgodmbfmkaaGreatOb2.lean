/-
  Part 2 of 5: contracts and what they rest on (Mem, RefE, RefF, DigB, QRef, QRefB, QRefC, QLaw0, RVar, SMem, SCode1, TRat, DSame, TDef, TCode1, TReg, PCode1, PCode2, POneB, FShort, FMatx).
-/
import Derived.Test.YtengpgodmbfmkaaGreatD30
namespace Go.Proofs.YtengpgodmbfmkaaGreat
set_option linter.unusedVariables false
set_option linter.unusedSimpArgs false
set_option maxRecDepth 100000
set_option maxHeartbeats 40000000
section
open Go.RowKit
theorem Blk.only {w w' : World} {g b : Nat} {zs : List Int} (h : Blk w g zs) (k : Only b w w') (hb : g ≠ b) : Blk w' g zs := h.same (k.block g hb)
end
section
open Go.RowKit
theorem LimI.news {w : World} {ad : Addr} {xs : List Int} (h : LimI w (some ad) xs) : ∀ j u, (xs.map (Value.int .i64))[j]? = some u → w.cell? (ad.add j) = some u := by
 intro j u hj
 rcases h with rfl | ⟨b, off, e, hc⟩
 · simp at hj
 · cases e
   rw [List.getElem?_map] at hj
   have hjl : j < xs.length := by
    rcases Nat.lt_or_ge j xs.length with h | h
    · exact h
    · rw [List.getElem?_eq_none h] at hj; cases hj
   rw [show (⟨b, off, none⟩ : Addr).add j = ⟨b, off + j, none⟩ from (by unfold Addr.add; split <;> simp_all), hc j hjl, ← hj]
   simp [hjl]
theorem valD_drop (xs : List Int) (j : Nat) (h : j < xs.length) : valD (xs.drop j) = xs.getD j 0 + 10000 * valD (xs.drop (j + 1)) := by
 rw [List.drop_eq_getElem_cons h]
 simp [valD, h]
end
section
open Go.RowKit
theorem Calls.quiet_eq {P : Program} {f : FuncId} {args : Array Value} {w : World} {n : Nat} {v : Value} (h : Calls P f args (w.drewN n) fun e w' => e = .returned v ∧ w.drewN n = w') :
 Calls P f args (w.drewN n) fun e w'' => e = .returned v ∧ ∃ m, w'' = w.drewN m := h.mono fun _ _ ⟨he, hm⟩ => ⟨he, n, hm.symm⟩
def subToD (xs ys : List Int) : Nat → List Int × Int
 | 0 => ([], 0)
 | k + 1 => ((subToD xs ys k).1 ++ [(xs.getD k 0 - ys.getD k 0 + (subToD xs ys k).2) % 10000], (xs.getD k 0 - ys.getD k 0 + (subToD xs ys k).2) / 10000)
theorem subToD_length (xs ys : List Int) (k : Nat) : (subToD xs ys k).1.length = k := by
 induction k with
 | zero => rfl
 | succ k ih => simp [subToD, ih]
theorem subToD_carry (xs ys : List Int) (hx : WfD xs) (hy : WfD ys) (k : Nat) : -1 ≤ (subToD xs ys k).2 ∧ (subToD xs ys k).2 ≤ 0 := by
 induction k with
 | zero => simp [subToD]
 | succ k ih => have h1 := hx.getD k; have h2 := hy.getD k; simp only [subToD]; omega
theorem subToD_wf (xs ys : List Int) (k : Nat) : WfD (subToD xs ys k).1 := by
 induction k with
 | zero => exact WfD.nil
 | succ k ih => exact ih.append (WfD.cons (by omega) WfD.nil)
theorem val_subToD (xs ys : List Int) (k : Nat) : valD (subToD xs ys k).1 + 10000 ^ k * (subToD xs ys k).2 = valD (xs.take k) - valD (ys.take k) := by
 induction k with
 | zero => simp [subToD, valD]
 | succ k ih =>
  rw [val_take_succD, val_take_succD]
  simp only [subToD]
  rw [valD_snoc, subToD_length]
  simp only [Int.pow_succ]
  have hm := mod_divD (xs.getD k 0 - ys.getD k 0 + (subToD xs ys k).2)
  generalize (subToD xs ys k).2 = c at *
  generalize ((xs.getD k 0 - ys.getD k 0 + c) % 10000) = r at *
  generalize ((xs.getD k 0 - ys.getD k 0 + c) / 10000) = q at *
  generalize (10000 : Int) ^ k = P at *
  grind
theorem val_subD {xs ys : List Int} (hx : WfD xs) (hy : WfD ys) (hl : ys.length ≤ xs.length) (h : valD ys ≤ valD xs) : valD (subToD xs ys xs.length).1 = valD xs - valD ys := by
 have h1 := val_subToD xs ys xs.length
 rw [List.take_length, List.take_of_length_le hl] at h1
 have h2 := subToD_carry xs ys hx hy xs.length
 have h3 := val_ltD (subToD_wf xs ys xs.length)
 rw [subToD_length] at h3
 rcases (show (subToD xs ys xs.length).2 = 0 ∨ (subToD xs ys xs.length).2 = -1 by omega) with e | e
 · rw [e] at h1; simpa using h1
 · rw [e] at h1; omega
theorem subD_any {u v : Value} {xs ys : List Int} {a b : Option Addr} {capa capb : Nat} {w : World} (h1 : ArgD w u xs a capa) (h2 : ArgD w v ys b capb) (hx : xs.length ≤ 68719476736) (hy : ys.length ≤ 68719476736) :
 Calls Tryz.prog 80 #[u, v] w fun e w' => ∃ r f, e = .returned (.tuple #[r, .bool f]) ∧ Below w.heap.size w w' ∧ (valD xs < valD ys → r = .slice none 0 0 ∧ f = false) ∧
  (valD ys ≤ valD xs → f = true ∧ ∃ zs, ResD w.heap.size w' r zs (valD xs - valD ys) ∧ zs.length ≤ xs.length) := by
 obtain ⟨i0, hi, hz0, hz1, hz2⟩ := info_parts infoInt
 have cmp := cmpD_any h1 h2 hx hy
 obtain ⟨rfl, lx, _, wx, fx⟩ := h1
 obtain ⟨rfl, ly, _, wy, fy⟩ := h2
 have hlen : valD ys ≤ valD xs → ys.length ≤ xs.length := fun h => by
  rcases Nat.lt_or_ge xs.length ys.length with h3 | h3
  · have := len_ltD wx wy fy h3; omega
  · exact h3
 have HL := Lib.hid hlen
 clear fx fy hlen
 go_enter Tryz.func80, Tryz.ntmps80
 go_wp2_with fail
 refine cmp.mono ?_
 rintro e V ⟨rfl, hV⟩
 clear cmp
 by_cases hlt : valD xs < valD ys
 · rw [sign_lt hlt]
   have hd : decide ((-1 : Int) < 0) = true := by decide
   go_wp2
   go_ret2
   exact ⟨_, _, rfl, hV, fun _ => ⟨rfl, rfl⟩, fun h => by omega⟩
 · have hd : decide (sign (valD xs) (valD ys) < 0) = false := decide_eq_false (by unfold sign; rw [if_neg hlt]; split <;> omega)
   have hL := HL.out (by omega)
   go_wp2
   go_loopw [6, 7, 8, 9] (fun s c i _ wr => ∃ (k : Nat) (q : Value), k ≤ xs.length ∧ q = s ∧ c = .int .i64 (-(subToD xs ys k).2) ∧ i = .int .i64 k ∧ NumI w.heap.size wr q (subToD xs ys k).1 ∧ Below w.heap.size w wr) (fun _ _ i _ _ => xs.length + 1 - (intOf i).toNat)
   case atStart => exact ⟨0, _, Nat.zero_le _, rfl, rfl, rfl, World.ownsRow_nil _ _ _ _, hV⟩
   case round =>
    obtain ⟨k, q, hk, rfl, rfl, rfl, hown, hb⟩ := hrel
    have hsz := hb.size
    obtain ⟨c, hck⟩ : ∃ c, (subToD xs ys k).2 = c := ⟨_, rfl⟩
    have bc := subToD_carry xs ys wx wy k
    rw [hck] at bc ⊢
    obtain ⟨bc0, bc1⟩ := bc
    have hrow : wr.ownsRow w.heap.size 3 1 q k ((subToD xs ys k).1.map (Value.int .i64)) := by
     have h := hown; unfold NumI at h; rw [subToD_length] at h; exact h
    have HO := Lib.hid hown
    have HC := Lib.hid hck
    have HK := Lib.hid hk
    clear hown hck
    by_cases hgo : k < xs.length
    · obtain ⟨x, hxk⟩ : ∃ x, xs.getD k 0 = x := ⟨_, rfl⟩
      obtain ⟨y, hyk⟩ : ∃ y, ys.getD k 0 = y := ⟨_, rfl⟩
      obtain ⟨bx0, bx1⟩ : 0 ≤ x ∧ x < 10000 := hxk ▸ wx.getD k
      obtain ⟨by0, by1⟩ : 0 ≤ y ∧ y < 10000 := hyk ▸ wy.getD k
      rcases lx with rfl | ⟨ba, offa, rfl, hca⟩
      · simp at hgo
      have cx := hca k hgo
      rw [hxk] at cx
      have cx0 := (hb.cell (p := ⟨ba, offa + k, none⟩) (World.block_lt_of_cell? w _ cx)).trans cx
      have ly' := ly.later hb
      have HX := Lib.hid hxk
      have HY := Lib.hid hyk
      clear hxk cx hca
      have done : ∀ (W : World) (D C : Int) (w1 : World) (v' : Value) (o : Obj), Below w.heap.size w W → wr.heap.size ≤ W.heap.size → D = (x - y + c) % 10000 → C = -((x - y + c) / 10000) → w1.ownsRow w.heap.size 3 1 v' (k + 1) ((subToD xs ys k).1.map (Value.int .i64) ++ [Value.int .i64 D]) → (W.alloc o).grownBy w1 q.ownBlock →
       ∃ (j : Nat) (p : Value), j ≤ xs.length ∧ p = v' ∧ Value.int .i64 C = .int .i64 (-(subToD xs ys j).2) ∧ Value.int .i64 ((k : Int) + 1) = .int .i64 j ∧ NumI w.heap.size w1 p (subToD xs ys j).1 ∧ Below w.heap.size w w1 := fun W D C w1 v' o hbW hsW eD eC ho hg => by
       subst eD
       subst eC
       have hown' : w1.ownsRow w.heap.size 3 1 v' ((subToD xs ys k).1.length + 1) ((subToD xs ys k).1.map (Value.int .i64) ++ [Value.int .i64 ((x - y + c) % 10000)]) := by rw [subToD_length]; exact ho
       refine ⟨k + 1, v', by omega, rfl, by simp only [subToD]; rw [HX.out, HY.out, HC.out], by go_num, ?_, ?_⟩
       · simp only [subToD]; rw [HX.out, HY.out, HC.out]
         unfold NumI
         rw [List.length_append, List.map_append]
         exact hown'
       · exact (hbW.alloc (by omega) o).grown hg (by simp; omega) (fun k hk => (HO.out.lt k hk).1)
      have DONE := Lib.hid done
      have hwr2 : ∀ nq, Below w.heap.size w (wr.drewN nq) := fun nq => ⟨hb.os, hb.tape, hb.output, hb.size, hb.block⟩
      have HWR2 := Lib.hid hwr2
      clear done hwr2
      obtain ⟨l, hl⟩ : ∃ l, -c = l := ⟨_, rfl⟩
      obtain rfl : c = -l := by omega
      rw [hl]
      clear hl
      by_cases hn : x - y - l < 0
      · have hdd : decide (x - y - l < 0) = true := decide_eq_true hn
        go_wp2
        go_quiet ((go_at_call 122; refine Calls.quiet_eq (digit_any b ys capb k y _ ?_ (by omega) HY.out); exact ly.later (HWR2.out _)))
        have hWR := HWR2.out nq
        have hsR : wr.heap.size ≤ (wr.drewN nq).heap.size := Nat.le_refl _
        have hrowR : (wr.drewN nq).ownsRow w.heap.size 3 1 q k ((subToD xs ys k).1.map (Value.int .i64)) := hrow
        generalize wr.drewN nq = WR at *
        go_wp2_with (at_builtin; refine wpList_append_own _ rfl _ _ 56 rfl w.heap.size 3 i0 (.int .i64 0) 1 8 Tryz.underlying56 hi hz0 hz1 hz2 rfl (by decide) _ _ _ rfl (hrowR.alloc _) ⟨WR.heap.size, 0, none⟩ 1 1 [.int .i64 (x - y - l + 10000)] rfl rfl (cell_one_new _ _ _) (by simp [Value.oneCell']) (by unfold maxLen; omega) (by omega) (by simp; omega) ?_; intro v' w1 hown' hgrow _)
        go_roundw
        case rel => exact DONE.out _ _ _ _ _ _ hWR hsR (by omega) (by omega) hown' hgrow
        case measure => simp [intOf]; omega
      · have hdd : decide (x - y - l < 0) = false := decide_eq_false hn
        go_wp2
        go_quiet ((go_at_call 122; refine Calls.quiet_eq (digit_any b ys capb k y _ ?_ (by omega) HY.out); exact ly.later (HWR2.out _)))
        have hWR := HWR2.out nq
        have hsR : wr.heap.size ≤ (wr.drewN nq).heap.size := Nat.le_refl _
        have hrowR : (wr.drewN nq).ownsRow w.heap.size 3 1 q k ((subToD xs ys k).1.map (Value.int .i64)) := hrow
        generalize wr.drewN nq = WR at *
        go_wp2_with (at_builtin; refine wpList_append_own _ rfl _ _ 56 rfl w.heap.size 3 i0 (.int .i64 0) 1 8 Tryz.underlying56 hi hz0 hz1 hz2 rfl (by decide) _ _ _ rfl (hrowR.alloc _) ⟨WR.heap.size, 0, none⟩ 1 1 [.int .i64 (x - y - l)] rfl rfl (cell_one_new _ _ _) (by simp [Value.oneCell']) (by unfold maxLen; omega) (by omega) (by simp; omega) ?_; intro v' w1 hown' hgrow _)
        go_roundw
        case rel => exact DONE.out _ _ _ _ _ _ hWR hsR (by omega) (by omega) hown' hgrow
        case measure => simp [intOf]; omega
    · obtain rfl : k = xs.length := by omega
      have hv := val_subD wx wy hL (by omega)
      have HV := Lib.hid hv
      clear hv
      go_wp2_with fail
      refine (trimD_num HO.out (by rw [subToD_length]; omega)).mono ?_
      rintro e w' ⟨r, rfl, hr, rfl⟩
      go_wp2_with fail
      go_ret2
      have hlen : (trim (subToD xs ys xs.length).1).length ≤ xs.length := by have h := Nat.le_trans (Nat.le_of_eq (trim_length _)) (trim_le (subToD xs ys xs.length).1); rw [subToD_length] at h; exact h
      exact ⟨_, _, rfl, hb, fun h => by omega, fun _ => ⟨rfl, trim (subToD xs ys xs.length).1, ⟨hr, (subToD_wf xs ys _).trim, trim_full _, by rw [val_trimD, HV.out]⟩, hlen⟩⟩
end
section
open Go.RowKit
theorem BlkI.only {w w' : World} {g b : Nat} {zs : List Int} (h : BlkI w g zs) (k : Only b w w') (hb : g ≠ b) : BlkI w' g zs := h.same (k.block g hb)
end
section
open Go.RowKit
theorem trimQ_any (ad : Option Addr) (xs : List Int) (cap : Nat) (w : World) (hl : LimI w ad xs) (hm : xs.length ≤ 1099511627776) (hcap : xs.length ≤ cap) :
 Calls Tryz.prog 145 #[.slice ad xs.length cap] w fun e w' => e = .returned (.slice ad (trimN xs xs.length) cap) ∧ w = w' := by
 go_enter Tryz.func145, Tryz.ntmps145
 go_wp2
 go_loop [3] (fun n => ∃ j : Nat, j ≤ xs.length ∧ n = .int .i64 j ∧ trimN xs j = trimN xs xs.length) (fun n => (intOf n).toNat)
 case atStart => exact ⟨xs.length, Nat.le_refl _, rfl, rfl⟩
 case round =>
  obtain ⟨j, hj, rfl, ht⟩ := hrel
  have HT := Lib.hid ht
  clear ht
  rcases j with _ | m
  · have h0 : trimN xs xs.length = 0 := HT.out.symm
    go_wp2
    go_ret
    exact ⟨rfl, rfl⟩
  · rcases hl with rfl | ⟨b, off, rfl, hc⟩
    · simp at hj
    · have hck := hc m (by omega)
      clear hc
      go_wp2
      · have hz : xs.getD m 0 = 0 := by
         have h : (xs[m]?.getD 0 == 0) = true := by assumption
         simpa using h
        go_round
        case rel => exact ⟨m, by omega, by go_num, by rw [← HT.out]; simp only [trimN]; rw [if_pos hz]⟩
        case measure => simp [intOf]
      · have hz : xs.getD m 0 ≠ 0 := by
         have h : (xs[m]?.getD 0 == 0) = false := by assumption
         simpa using h
        have ht : trimN xs xs.length = m + 1 := by rw [← HT.out]; simp only [trimN]; rw [if_neg hz]
        go_ret
        exact ⟨by rw [ht]; simp, rfl⟩
theorem trimQ_num {base : Nat} {v : Value} {xs : List Int} {w : World} (h : NumI base w v xs) (hm : xs.length ≤ 1099511627776) :
 Calls Tryz.prog 145 #[v] w fun e w' => ∃ u, e = .returned u ∧ NumI base w u (trim xs) ∧ w = w' := by
 obtain ⟨ad, cap, rfl, hl, hc, _, _⟩ := h.read
 exact (trimQ_any ad xs cap w hl hm hc).mono fun e w' ⟨he, hw⟩ => ⟨_, he, h.cut, hw⟩
theorem sign_le {x y : Int} : sign x y ≤ 0 ↔ x ≤ y := by unfold sign; split <;> (try split) <;> omega
theorem digitQ_any {u v : Value} {rs ys : List Int} {a b : Option Addr} {capa capb : Nat} {w : World} (h1 : ArgD w u rs a capa) (h2 : ArgD w v ys b capb) (hx : rs.length ≤ 17179869184) (hy : ys.length ≤ 17179869184)
 (hlt : valD rs < valD ys * 10000) :
 Calls Tryz.prog 146 #[u, v] w fun e w' => ∃ d : Int, e = .returned (.int .i64 d) ∧ 0 ≤ d ∧ d < 10000 ∧ valD ys * d ≤ valD rs ∧ valD rs < valD ys * (d + 1) ∧ Below w.heap.size w w' := by
 have hr0 := val_nonnegD h1.wf
 go_enter Tryz.func146, Tryz.ntmps146
 go_wp2
 go_loopw [5, 6, 7] (fun lo hi _ wr => ∃ l h : Int, lo = .int .i64 l ∧ hi = .int .i64 h ∧ 0 ≤ l ∧ l < h ∧ h ≤ 10000 ∧ valD ys * l ≤ valD rs ∧ valD rs < valD ys * h ∧ Below w.heap.size w wr) (fun lo hi _ _ => (intOf hi - intOf lo).toNat)
 case atStart => exact ⟨0, 10000, rfl, rfl, by omega, by omega, by omega, by simpa using hr0, hlt, Below.refl _ _⟩
 case round =>
  obtain ⟨l, h, rfl, rfl, hl0, hlh, hh, hlo, hhi, hb⟩ := hrel
  have hsz := hb.size
  have HLO := Lib.hid hlo
  have HHI := Lib.hid hhi
  clear hlo hhi
  by_cases hgo : 1 < h - l
  · have hq : Int.tdiv (l + h) 2 = (l + h) / 2 := Int.tdiv_eq_ediv_of_nonneg (by omega)
    obtain ⟨m, hm⟩ : ∃ m, (l + h) / 2 = m := ⟨_, rfl⟩
    rw [hm] at hq
    have hm1 : l < m := by omega
    have hm2 : m < h := by omega
    clear hm
    have A1 := h1.later hb
    have A2 := h2.later hb
    go_wp2_with fail
    refine (times_any m A2 (by omega) (by omega)).mono ?_
    rintro e w2 ⟨r2, rfl, z2, q2, n2, hb2⟩
    obtain ⟨ad2, cap2, A3⟩ := q2.arg
    have A1' := A1.later hb2
    have hs2 := hb2.size
    go_wp2_with fail
    refine (cmpD_any A3 A1' (by omega) (by omega)).mono ?_
    rintro e w3 ⟨rfl, hb3⟩
    have hB3 : Below w.heap.size w w3 := (hb.trans (hb2.mono hsz)).trans (hb3.mono (by omega))
    have hv := q2.eq
    rw [hv]
    clear A1 A2 A3 A1' hb2 hb3 q2 hv
    by_cases hle : valD ys * m ≤ valD rs
    · have hd : decide (sign (valD ys * m) (valD rs) ≤ 0) = true := decide_eq_true (sign_le.2 hle)
      have HLE := Lib.hid hle
      clear hle
      go_wp2
      go_roundw
      case rel => exact ⟨m, h, rfl, rfl, by omega, hm2, hh, HLE.out, HHI.out, hB3⟩
      case measure => simp [intOf]; omega
    · have hd : decide (sign (valD ys * m) (valD rs) ≤ 0) = false := decide_eq_false (fun h => hle (sign_le.1 h))
      have HLE := Lib.hid (Int.not_le.1 hle)
      clear hle
      go_wp2
      go_roundw
      case rel => exact ⟨l, m, rfl, rfl, hl0, hm1, by omega, HLO.out, HLE.out, hB3⟩
      case measure => simp [intOf]; omega
  · obtain rfl : h = l + 1 := by omega
    go_wp2
    go_ret
    exact ⟨l, rfl, hl0, by omega, HLO.out, HHI.out, hb⟩
end
section
open Go.RowKit
theorem NumI.only {base b : Nat} {w w' : World} {v : Value} {xs : List Int} (h : NumI base w v xs) (k : Only b w w') (hb : b < base) : NumI base w' v xs := by
 obtain ⟨h1, h2⟩ := h
 refine ⟨h1, ?_⟩
 rcases h2 with h2 | ⟨g, cap, cur, rfl, hg0, hg, hc, hm, hs, ht⟩
 · exact .inl h2
 · exact .inr ⟨g, cap, cur, rfl, hg0, (k.block g (by omega)).trans hg, hc, hm, hs, ht⟩
theorem ResD.only {base b : Nat} {w w' : World} {u : Value} {zs : List Int} {n : Int} (h : ResD base w u zs n) (k : Only b w w') (hb : b < base) : ResD base w' u zs n := ⟨h.num.only k hb, h.wf, h.full, h.eq⟩
theorem NumI.nilCap {base : Nat} {w : World} {n cap : Nat} {xs : List Int} (h : NumI base w (.slice none n cap) xs) : xs = [] ∧ n = 0 ∧ cap = 0 := by
 obtain ⟨_, h2⟩ := h
 rcases h2 with ⟨e, hn⟩ | ⟨g, cap', cur, e, _⟩
 · simp only [Value.slice.injEq] at e
   exact ⟨List.eq_nil_of_length_eq_zero hn, e.2.1, e.2.2⟩
 · simp at e
theorem divD_any {u v : Value} {xs ys : List Int} {a b : Option Addr} {capa capb : Nat} {w : World} (h1 : ArgD w u xs a capa) (h2 : ArgD w v ys b capb) (hx : xs.length ≤ 8589934592) (hy : ys.length ≤ 8589934592) (hpos : 0 < valD ys) :
 Calls Tryz.prog 111 #[u, v] w fun e w' => ∃ r s, e = .returned (.tuple #[r, s]) ∧ Below w.heap.size w w' ∧ (∃ zs, ResD w.heap.size w' r zs (valD xs / valD ys) ∧ zs.length ≤ xs.length) ∧
  (∃ zs, ResD w.heap.size w' s zs (valD xs % valD ys) ∧ zs.length ≤ ys.length) := by
 obtain ⟨rfl, lx, _, wx, _⟩ := h1
 obtain ⟨i0, hi, hz0, hz1, hz2⟩ := info_parts infoInt
 obtain ⟨n, hn⟩ : ∃ n, xs.length = n := ⟨_, rfl⟩
 have hmk := makeI_runN n n (Nat.le_refl _) (by omega)
 rw [hn]
 have HN := Lib.hid hn
 rw [hn] at hx
 clear hn
 go_enter Tryz.func111, Tryz.ntmps111
 go_wp2
 go_loopw [7, 8, 9, 10, 11] (fun s i _ _ _ wr => ∃ (k : Nat) (q : Value) (rs qs : List Int), k ≤ n ∧ q = s ∧ i = .int .i64 ((n : Int) - 1 - k) ∧ BlkI wr w.heap.size (List.replicate (n - k) 0 ++ qs) ∧ qs.length = k ∧ WfD qs ∧
  ResD (w.heap.size + 1) wr q rs (valD rs) ∧ valD (xs.drop (n - k)) = valD ys * valD qs + valD rs ∧ valD rs < valD ys ∧ Below w.heap.size w wr) (fun _ i _ _ _ _ => (intOf i + 1).toNat)
 case atStart =>
  have e : xs.drop (n - 0) = [] := by rw [Nat.sub_zero, ← HN.out, List.drop_length]
  refine ⟨0, _, [], [], Nat.zero_le _, rfl, by simp, ?_, rfl, WfD.nil, ⟨World.ownsRow_nil _ _ _ _, WfD.nil, rfl, rfl⟩, by rw [e]; simp [valD], by simpa [valD] using hpos, ((Below.refl _ w).alloc (Nat.le_refl _) _)⟩
  simpa using BlkI.made w n
 case round =>
  obtain ⟨k, q, rs, qs, hk, rfl, rfl, hblk, hql, hqw, hres, hval, hlt, hb⟩ := hrel
  have hsz := hb.size
  by_cases hgo : k < n
  · rcases lx with rfl | ⟨bx, off, rfl, hc⟩
    · have := HN.out; simp at this; omega
    obtain ⟨j, hj⟩ : ∃ j, j + k + 1 = n := ⟨n - k - 1, by omega⟩
    have hji : ((n : Int) - 1 - k) = (j : Int) := by omega
    obtain ⟨x, hxk⟩ : ∃ x, xs.getD j 0 = x := ⟨_, rfl⟩
    obtain ⟨bx0, bx1⟩ : 0 ≤ x ∧ x < 10000 := hxk ▸ wx.getD j
    have hjl : j < xs.length := by have := HN.out; omega
    have hcj := hc j hjl
    rw [hxk] at hcj
    have hc0 : wr.cell? ⟨bx, off + j, none⟩ = some (.int .i64 x) := (hb.cell (p := ⟨bx, off + j, none⟩) (World.block_lt_of_cell? w _ hcj)).trans hcj
    have hge : (0 : Int) ≤ (j : Int) := by omega
    have hjn : (j : Int) < (n : Int) := by omega
    have hstep : valD (xs.drop (n - (k + 1))) = x + 10000 * valD (xs.drop (n - k)) := by
     rw [show n - (k + 1) = j from by omega, valD_drop xs j hjl, hxk, show n - k = j + 1 from by omega]
    rw [show n - k = j + 1 from by omega] at hblk
    rw [hji]
    have hrl : rs.length ≤ ys.length := by
     obtain ⟨ad, cap, A⟩ := hres.arg
     exact A.lenLe h2 (by omega)
    have hgb : w.heap.size < wr.heap.size := hblk.lt
    have HST := Lib.hid hstep
    have HV := Lib.hid hval
    have HJ := Lib.hid hj
    have HL := Lib.hid hlt
    have HB := Lib.hid hblk
    have HQ := Lib.hid hql
    clear hstep hval hj hji hxk hc hlt hblk hql
    have hs1 : w.heap.size + 1 ≤ wr.heap.size := hgb
    have hlit := NumI.lit (base := w.heap.size + 1) (w := wr) hs1 [x] (by unfold maxLen; simp)
    have hrow : (wr.alloc (.cells #[.int .i64 x] 3)).ownsRow (w.heap.size + 1) 3 1 (.slice (some ⟨wr.heap.size, 0, none⟩) 1 1) 1 [.int .i64 x] := hlit
    have hal : Below w.heap.size w (wr.alloc (.cells #[.int .i64 x] 3)) := hb.alloc hsz _
    have hba := HB.out.alloc (.cells #[.int .i64 x] 3)
    obtain ⟨ad, cap, h1q, h2q, h3q, h4q, h5q⟩ := hres.num.read
    clear h5q
    have wrs := hres.wf
    have hnumq := hres.num
    subst h1q
    clear hres
    have HN2 := Lib.hid hnumq
    clear hnumq
    cases ad
    case' none =>
     obtain ⟨hrs, hr0, hcap⟩ := HN2.out.nilCap
     subst hcap
     rw [hr0]
     have HRS := Lib.hid hrs
     clear hrs hr0
     have hrun := run_append_owned_none (P := Tryz.prog) (wr.alloc (.cells #[.int .i64 x] 3)) (w.heap.size + 1) 56 56 3 i0 1 Tryz.underlying56 hi (.slice (some ⟨wr.heap.size, 0, none⟩) 1 1) 1 [.int .i64 x] hrow
     go_wp2_with fail
     have hup : NumI (w.heap.size + 1) (wr.alloc (.cells #[.int .i64 x] 3)) (.slice (some ⟨wr.heap.size, 0, none⟩) 1 1) (x :: rs) := by rw [HRS.out]; exact hlit
     have hB1 := hal
     have hb1 := hba
     clear hrun hlit hrow hal hba h2q hc0
     generalize wr.alloc (.cells #[.int .i64 x] 3) = w1 at *
     generalize Value.slice (some ⟨wr.heap.size, 0, none⟩) 1 1 = v' at *
    case' some ad =>
     have hnews := (h2q.later ((Below.refl wr.heap.size wr).alloc (Nat.le_refl _) (.cells #[.int .i64 x] 3))).news
     go_wp2_with (at_builtin; refine wpList_append_own _ rfl _ _ 56 rfl (w.heap.size + 1) 3 i0 (.int .i64 0) 1 8 Tryz.underlying56 hi hz0 hz1 hz2 rfl (by decide) _ 1 [.int .i64 x] rfl hrow ad rs.length cap (rs.map (Value.int .i64)) rfl (by simp) hnews (ints_oneCell _ _) (by unfold maxLen; omega) (by omega) (by simp; omega) ?_; intro v' w1 hown' hgrow _)
     have hB1 : Below w.heap.size w w1 := hal.grown hgrow (by simp; omega) (fun k hk => by cases hk; exact hsz)
     have hb1 := hba.grown hgrow (fun e => by have h : w.heap.size = wr.heap.size := Option.some.inj e; omega)
     have hup : NumI (w.heap.size + 1) w1 v' (x :: rs) := by
      unfold NumI
      rw [List.length_cons, List.map_cons, Nat.add_comm rs.length 1]
      exact hown'
     clear hown' hgrow hnews hlit hrow hal hba h2q hc0
    all_goals
     have hs2 := hb1.lt
     have hR1 : ResD (w.heap.size + 1) w1 v' (x :: rs) 0 → True := fun _ => trivial
     clear hR1
     go_wp2_with fail
     refine (trimQ_num hup (by simp only [List.length_cons]; omega)).mono ?_
     rintro e w' ⟨q1, rfl, hq1, rfl⟩
     have R1 : ResD (w.heap.size + 1) w1 q1 (trim (x :: rs)) (x + 10000 * valD rs) := ⟨hq1, (WfD.cons ⟨bx0, bx1⟩ wrs).trim, trim_full _, by rw [val_trimD]; rfl⟩
     have hl1 : (trim (x :: rs)).length ≤ rs.length + 1 := Nat.le_trans (Nat.le_of_eq (trim_length _)) (trim_le (x :: rs))
     generalize trim (x :: rs) = rs1 at *
     clear hup hq1
     obtain ⟨ad1, cap1, A1⟩ := R1.arg
     have A2 := h2.later hB1
     have hV := HL.out
     go_wp2_with fail
     refine (digitQ_any A1 A2 (by omega) (by omega) (by rw [R1.eq]; omega)).mono ?_
     rintro e w2 ⟨d, rfl, d0, d1, dlo, dhi, hb2⟩
     rw [R1.eq] at dlo dhi
     have hB2 := hB1.trans (hb2.mono (by omega))
     have R2 := R1.later hb2
     have hblk2 := hb1.below hb2 (by omega)
     have hlz : (List.replicate (j + 1) 0 ++ qs).length = n := by rw [List.length_append, List.length_replicate, HQ.out]; have := HJ.out; omega
     have hcell := hblk2.cell j (by omega)
     have hfree := hblk2.free j
     have hset := hblk2.set j d
     rw [set_front] at hset
     have hO : Only w.heap.size w2 (w2.setCell ⟨w.heap.size, j, none⟩ (.int .i64 d)) := Only.set _ _ _ _
     have R3 := R2.only hO (Nat.lt_succ_self _)
     have hB3 : Below w.heap.size w (w2.setCell ⟨w.heap.size, j, none⟩ (.int .i64 d)) := hB2.setCell (p := ⟨w.heap.size, j, none⟩) (Nat.le_refl _) _
     have hs3 : w.heap.size + 1 ≤ w2.heap.size := hblk2.lt
     have hs3' : w2.heap.size = (w2.setCell ⟨w.heap.size, j, none⟩ (.int .i64 d)).heap.size := hO.size.symm
     have DLO := Lib.hid dlo
     have DHI := Lib.hid dhi
     clear A1 A2 hB1 hb1 hb2 hB2 R1 R2 hblk2 dlo dhi hO hs2 hlz
     go_wp2_with fail
     generalize w2.setCell ⟨w.heap.size, j, none⟩ (.int .i64 d) = w3 at *
     clear hcell hfree
     have A3 := h2.later hB3
     refine (times_any d A3 (by omega) (by omega)).mono ?_
     rintro e w4 ⟨r4, rfl, z4, q4, n4, hb4⟩
     have hB4 := hB3.trans (hb4.mono (by omega))
     have R4 := R3.later hb4
     have hset4 := hset.below hb4 (by omega)
     have hs4 := hb4.size
     obtain ⟨ad4, cap4, A4⟩ := R4.arg
     obtain ⟨ad5, cap5, A5⟩ := q4.arg
     clear hB3 hb4 R3 A3 hset
     go_wp2_with fail
     refine (subD_any A4 A5 (by omega) (by omega)).mono ?_
     rintro e w5 ⟨r5, f5, rfl, hb5, _, hsub⟩
     obtain ⟨rfl, z5, q5, n5⟩ := hsub (by rw [R4.eq, q4.eq]; exact DLO.out)
     have hB5 := hB4.trans (hb5.mono (by omega))
     have hset5 := hset4.below hb5 (by omega)
     have hs5 := hb5.size
     have hv5 : valD z5 = x + 10000 * valD rs - valD ys * d := by rw [q5.eq, R4.eq, q4.eq]
     have fin : ∃ (k' : Nat) (q' : Value) (rs' qs' : List Int), k' ≤ n ∧ q' = r5 ∧ Value.int .i64 ((j : Int) - 1) = .int .i64 ((n : Int) - 1 - k') ∧ BlkI w5 w.heap.size (List.replicate (n - k') 0 ++ qs') ∧ qs'.length = k' ∧ WfD qs' ∧
      ResD (w.heap.size + 1) w5 q' rs' (valD rs') ∧ valD (xs.drop (n - k')) = valD ys * valD qs' + valD rs' ∧ valD rs' < valD ys ∧ Below w.heap.size w w5 := by
      have hj := HJ.out
      refine ⟨k + 1, r5, z5, d :: qs, by omega, rfl, by congr 1; omega, ?_, by rw [List.length_cons, HQ.out], WfD.cons ⟨d0, d1⟩ hqw, ⟨q5.num.mono (by omega), q5.wf, q5.full, rfl⟩, ?_, ?_, hB5⟩
      · rw [show n - (k + 1) = j from by omega]; exact hset5
      · rw [HST.out, HV.out, hv5]
        have e : valD (d :: qs) = d + 10000 * valD qs := rfl
        have e2 : valD ys * (d + 10000 * valD qs) = valD ys * d + 10000 * (valD ys * valD qs) := by rw [Int.mul_add, Int.mul_left_comm]
        rw [e, e2]
        omega
      · rw [hv5]
        have h := DHI.out
        rw [Int.mul_add, Int.mul_one] at h
        omega
     have FIN := Lib.hid fin
     clear fin hset5 hset4 hB5 hB4 hb5 A4 A5 R4 q4 q5 hv5
     go_wp2
     go_roundw
     case rel => exact FIN.out
     case measure => simp [intOf]
  · obtain rfl : k = n := by omega
    have hji : ((k : Int) - 1 - k) = -1 := by omega
    rw [hji]
    clear hji
    rw [Nat.sub_self] at hblk hval
    rw [List.drop_zero] at hval
    rw [List.replicate_zero, List.nil_append] at hblk
    have hnum := NumI.ofBlk hblk (Nat.le_refl _) k (by omega) (by rw [hql]; unfold maxLen; omega)
    rw [hql, List.take_of_length_le (by omega)] at hnum
    have hr0 := val_nonnegD hres.wf
    obtain ⟨e1, e2⟩ := quo_eq (V := valD qs) (d := valD ys) (r := valD rs) (N := valD xs) hpos (by rw [hval, Int.mul_comm]) ⟨hr0, hlt⟩
    have hrl : rs.length ≤ ys.length := by
     obtain ⟨ad, cap, A⟩ := hres.arg
     exact A.lenLe h2 (by omega)
    have hlen : (trim qs).length ≤ k := by have h := Nat.le_trans (Nat.le_of_eq (trim_length _)) (trim_le qs); omega
    have E1 := Lib.hid e1
    have E2 := Lib.hid e2
    clear hblk e1 e2 hval hlt
    go_wp2_with fail
    refine (trimQ_num hnum (by omega)).mono ?_
    rintro e w' ⟨p, rfl, hp, rfl⟩
    go_wp2_with fail
    go_ret2
    exact ⟨p, q, rfl, hb, ⟨trim qs, ⟨hp, hqw.trim, trim_full _, by rw [val_trimD, E1.out]⟩, hlen⟩, ⟨rs, ⟨hres.num.mono (Nat.le_succ _), hres.wf, hres.full, E2.out⟩, hrl⟩⟩
end
section
open Go.RowKit
theorem posD {ds : List Int} {a : Option Addr} {cap : Nat} {w : World} {u : Value} (h : ArgD w u ds a cap) (hl : 0 < ds.length) : 0 < valD ds := by
 have h1 := full_geD h.wf h.full (ds.length - 1) (by omega)
 have h2 := pow_posD (ds.length - 1)
 omega
theorem gcdD_any {u v : Value} {xs ys : List Int} {a b : Option Addr} {capa capb : Nat} {w : World} (h1 : ArgD w u xs a capa) (h2 : ArgD w v ys b capb) (hx : xs.length ≤ 8589934592) (hy : ys.length ≤ 8589934592) :
 Calls Tryz.prog 110 #[u, v] w fun e w' => ∃ r, e = .returned r ∧ ∃ zs ad cap, ArgD w' r zs ad cap ∧ valD zs = (Int.gcd (valD xs) (valD ys) : Int) ∧ zs.length ≤ max xs.length ys.length ∧ Below w.heap.size w w' := by
 obtain ⟨m, hm⟩ : ∃ m, max xs.length ys.length = m := ⟨_, rfl⟩
 have hm2 : m ≤ 8589934592 := by omega
 have hmx : xs.length ≤ m := by omega
 have hmy : ys.length ≤ m := by omega
 rw [hm]
 clear hm hx hy
 go_enter Tryz.func110, Tryz.ntmps110
 go_wp2
 go_loopw [0, 1, 5, 6] (fun p q _ _ wr => ∃ (p' q' : Value) (us vs : List Int) (ad bd : Option Addr) (cp cq : Nat), p' = p ∧ q' = q ∧ ArgD wr p' us ad cp ∧ ArgD wr q' vs bd cq ∧ us.length ≤ m ∧ vs.length ≤ m ∧ Int.gcd (valD us) (valD vs) = Int.gcd (valD xs) (valD ys) ∧ Below w.heap.size w wr) (fun _ q _ _ wr => leftD wr q)
 case atStart => exact ⟨u, v, xs, ys, a, b, capa, capb, rfl, rfl, h1, h2, hmx, hmy, rfl, Below.refl _ _⟩
 case round =>
  obtain ⟨p, q, us, vs, ad, bd, cp, cq, rfl, rfl, A1, A2, hu, hv, hg, hb⟩ := hrel
  have hsz := hb.size
  have HG := Lib.hid hg
  clear hg
  have hq := A2.is
  by_cases hgo : 0 < vs.length
  · have hgo2 : (0 : Int) < (vs.length : Int) := by omega
    have hpos := posD A2 hgo
    have hleft := A2.left
    subst hq
    go_wp2_with fail
    refine (divD_any A1 A2 (by omega) (by omega) hpos).mono ?_
    rintro e w2 ⟨r2, s2, rfl, hb2, _, ⟨z2, q2, n2⟩⟩
    obtain ⟨ad2, cap2, A3⟩ := q2.arg
    have A2' := A2.later hb2
    have hB2 := hb.trans (hb2.mono hsz)
    have hl2 := A3.left
    have hr1 := Int.emod_lt_of_pos (valD us) hpos
    have hr2 := Int.emod_nonneg (valD us) (show valD vs ≠ 0 by omega)
    have hm3 : leftD w2 s2 < leftD wr (.slice bd vs.length cq) := by rw [hleft, hl2, q2.eq]; omega
    have hg3 : Int.gcd (valD vs) (valD z2) = Int.gcd (valD xs) (valD ys) := by rw [q2.eq, gcd_step]; exact HG.out
    have HG3 := Lib.hid hg3
    have HM3 := Lib.hid hm3
    clear hg3 hm3 hr1 hr2 hl2 hleft q2 A1 A2 hb2
    go_wp2
    go_roundw
    case rel => exact ⟨_, _, vs, z2, bd, ad2, cq, cap2, rfl, rfl, A2', A3, hv, by omega, HG3.out, hB2⟩
    case measure => exact HM3.out
  · have h0 : vs.length = 0 := by omega
    have hvs : vs = [] := List.eq_nil_of_length_eq_zero h0
    have hg := HG.out
    rw [hvs] at hg
    have hfin : valD us = (Int.gcd (valD xs) (valD ys) : Int) := by rw [← hg]; simp only [valD]; exact (gcd_end (val_nonnegD A1.wf)).symm
    have HF := Lib.hid hfin
    rw [h0] at hq
    subst hq
    clear hfin hg A2 hvs h0 hgo
    go_wp2
    go_ret
    exact ⟨_, rfl, us, ad, cp, A1, HF.out, hu, hb⟩
end
section
open Go.RowKit Go.ChangeShapes Go.WideShapes Go.ChangeAt
theorem lenD_pos {ds : List Int} (h : 0 < valD ds) : ((ds.length : Int) == 0) = false := by
 cases ds with
 | nil => simp [valD] at h
 | cons x l => simp; omega
theorem lenD_zero {ds : List Int} (h : WfD ds) (f : trimN ds ds.length = ds.length) (e : valD ds = 0) : ((ds.length : Int) == 0) = true := by rw [valD_zero h f e]; rfl
end
section
open Go.RowKit Go.ChangeShapes Go.WideShapes Go.ChangeAt
theorem Row.only {w w' : World} {g b : Nat} {t : TypeId} {cs : Array Value} (R : Row w g t cs) (h : Only b w w') (hb : g ≠ b) : Row w' g t cs := (h.block g hb).trans R
theorem ArgR.only {w w' : World} {v : Value} {x : Rat} {n g : Nat} {t : TypeId} {p : Bool} {ad bd : Option Addr} {l cap m cbp : Nat} (h : ArgR w v x n) (R : Row w g t #[.bool p, .slice ad l cap, .slice bd m cbp]) (k : Only g w w') : ArgR w' v x n :=
 h.far R (noInts3 _ _ _ _ _ _ _) k.block
theorem ArgQ.only {w w' : World} {v : Value} {x : Rat} {n g : Nat} {t : TypeId} {p : Bool} {ad bd : Option Addr} {l cap m cbp : Nat} (h : ArgQ w v x n) (R : Row w g t #[.bool p, .slice ad l cap, .slice bd m cbp]) (k : Only g w w') : ArgQ w' v x n :=
 h.far R (noInts3 _ _ _ _ _ _ _) k.block
theorem ResQ.only {base : Nat} {w w' : World} {v : Value} {x : Rat} {n g : Nat} {cs : Array Value} (h : ResQ base w v x n) (R : Row w g 54 cs) (k : Only g w w') : ResQ base w' v x n :=
 h.far R (by decide) k.block
end
section
open Go.RowKit
theorem BlkS.only {w w' : World} {g b : Nat} {zs : List Int} (h : BlkS w g zs) (k : Only b w w') (hb : g ≠ b) : BlkS w' g zs := h.same (k.block g hb)
end
section
open Go.RowKit
theorem eqI_any {w : World} {xs ys : List Int} {a b : Option Addr} {c d : Nat} (A : ArgS w (.slice a xs.length c) xs a c) (B : ArgS w (.slice b ys.length d) ys b d) (hx : xs.length ≤ 70368744177664) (hy : ys.length ≤ 70368744177664) :
 Calls Tryz.prog 104 #[.slice a xs.length c, .slice b ys.length d] w fun e w' => e = .returned (.bool (decide (xs = ys))) ∧ Below w.heap.size w w' := by
 by_cases hl : xs.length = ys.length
 case neg =>
  have hne : decide (xs = ys) = false := decide_eq_false (fun h => hl (by rw [h]))
  have hn1 : ((xs.length : Int) != (ys.length : Int)) = true := by simp; omega
  rw [hne]
  clear hl hne
  go_enter Tryz.func104, Tryz.ntmps104
  go_wp2_with fail
  go_ret
  exact ⟨rfl, Below.refl _ _⟩
 obtain ⟨m, hm⟩ : ∃ m, xs.length = m := ⟨_, rfl⟩
 have hm2 : ys.length = m := by omega
 have la := A.lim
 have lb := B.lim
 have hext : (∀ j, j < m → xs.getD j 0 = ys.getD j 0) → xs = ys := by
  intro h
  apply List.ext_getElem (by omega)
  intro i h1 h2
  have := h i (by omega)
  simpa [h1, h2] using this
 have HX := Lib.hid hext
 have hmm : ((m : Int) != (m : Int)) = false := by simp
 have HL1 := Lib.hid hm
 have HL2 := Lib.hid hm2
 rw [hm] at hx ⊢
 rw [hm2]
 clear hl hm hm2 hext A B hy
 go_enter Tryz.func104, Tryz.ntmps104
 go_wp2_with fail
 go_loopw [5, 13] (fun _ i wr => ∃ k : Nat, i = .int .i64 k ∧ k ≤ m ∧ (∀ j, j < k → xs.getD j 0 = ys.getD j 0) ∧ Below w.heap.size w wr) (fun _ i _ => m - (intOf i).toNat)
 case atStart => exact ⟨0, rfl, Nat.zero_le _, fun j hj => by omega, Below.refl _ _⟩
 case round =>
  obtain ⟨k, rfl, hk, hall, hb⟩ := hrel
  have HA := Lib.hid hall
  clear hall
  by_cases hlt : k < m
  · have HK := Lib.hid hlt
    obtain ⟨p, o, rfl, c1⟩ : ∃ p o, a = some ⟨p, o, none⟩ ∧ wr.cell? ⟨p, o + k, none⟩ = some (.int .i64 (xs.getD k 0)) := by
     rcases la.later hb with e | ⟨p, o, e, hc⟩
     · rw [e] at HL1; have := HL1.out; simp at this; omega
     · exact ⟨p, o, e, hc k (by rw [HL1.out]; exact hlt)⟩
    obtain ⟨p2, o2, rfl, c2⟩ : ∃ p o, b = some ⟨p, o, none⟩ ∧ wr.cell? ⟨p, o + k, none⟩ = some (.int .i64 (ys.getD k 0)) := by
     rcases lb.later hb with e | ⟨p, o, e, hc⟩
     · rw [e] at HL2; have := HL2.out; simp at this; omega
     · exact ⟨p, o, e, hc k (by rw [HL2.out]; exact hlt)⟩
    obtain ⟨x, hxk⟩ : ∃ x, xs.getD k 0 = x := ⟨_, rfl⟩
    obtain ⟨y, hyk⟩ : ∃ y, ys.getD k 0 = y := ⟨_, rfl⟩
    rw [hxk] at c1
    rw [hyk] at c2
    have HXK := Lib.hid hxk
    have HYK := Lib.hid hyk
    have hk0 : (0 : Int) ≤ (k : Int) := Int.natCast_nonneg _
    have hk1 : (k : Int) < (m : Int) := by omega
    clear hxk hyk la lb
    by_cases e : x = y
    · have hne : (x != y) = false := by simp [e]
      have fin : ∃ j : Nat, Value.int .i64 ((k : Int) + 1) = .int .i64 j ∧ j ≤ m ∧ (∀ i, i < j → xs.getD i 0 = ys.getD i 0) :=
       ⟨k + 1, by go_num, HK.out, fun i hi => by
        by_cases h : i = k
        · subst h; rw [HXK.out, HYK.out]; exact e
        · exact HA.out i (by omega)⟩
      have FIN := Lib.hid fin
      clear fin e
      go_wp2_with fail
      go_quiet (fail)
      go_wp2_with fail
      go_roundw
      case rel =>
       obtain ⟨j, h1, h2, h3⟩ := FIN.out
       exact ⟨j, h1, h2, h3, ⟨hb.os, hb.tape, hb.output, hb.size, hb.block⟩⟩
      case measure => have := HK.out; simp [intOf]; omega
    · have hne : (x != y) = true := by simp [e]
      have hd : decide (xs = ys) = false := decide_eq_false (fun h => e (by rw [← HXK.out, ← HYK.out, h]))
      have HD := Lib.hid hd
      clear e hd
      go_wp2_with fail
      go_quiet (fail)
      go_wp2_with fail
      go_ret
      exact ⟨by rw [HD.out]; rfl, ⟨hb.os, hb.tape, hb.output, hb.size, hb.block⟩⟩
  · obtain rfl : k = m := by omega
    have hd : decide (xs = ys) = true := decide_eq_true (HX.out HA.out)
    have HD := Lib.hid hd
    clear hd
    go_wp2_with fail
    go_ret
    exact ⟨by rw [HD.out]; rfl, hb⟩
theorem sameS_any {u v : Value} {xs ys : List Int} {a b : Option Addr} {ca cb : Nat} {w : World} (A : ArgS w u xs a ca) (B : ArgS w v ys b cb) (ha : a = none → ca = 0) (hb : b = none → cb = 0) (hx : xs.length ≤ 17592186044416) (hy : ys.length ≤ 17592186044416) :
 Calls Tryz.prog 63 #[u, v] w fun e w' => e = .returned (.bool (decide (xs = ys))) ∧ Below w.heap.size w w' := by
 obtain rfl := A.is
 obtain rfl := B.is
 have h := eqI_any A B (by omega) (by omega)
 obtain ⟨t, ht⟩ : ∃ t, decide (xs = ys) = t := ⟨_, rfl⟩
 obtain ⟨n, hn⟩ : ∃ n, xs.length = n := ⟨_, rfl⟩
 obtain ⟨m, hm⟩ : ∃ n, ys.length = n := ⟨_, rfl⟩
 rw [ht, hn, hm] at h
 rw [ht, hn, hm]
 clear A B ha hb hx hy ht hn hm
 go_enter Tryz.func63, Tryz.ntmps63
 go_wp2_with (go_at_call 104; refine h.mono ?_; rintro e w1 ⟨rfl, hb⟩)
 go_ret
 exact ⟨rfl, hb⟩
end
section
open Go.RowKit
theorem makeRR_any {n : Nat} {w : World} {m1 : Bool} {xs ds : List Int} {a1 a2 : Option Addr} {c1 c2 : Nat} (A : ArgD w (.slice a1 xs.length c1) xs a1 c1) (B : ArgD w (.slice a2 ds.length c2) ds a2 c2) (hx : xs.length ≤ n) (hd : ds.length ≤ n) (hn : n ≤ 4294967296) :
 Calls Tryz.prog 71 #[.bool m1, .slice a1 xs.length c1, .slice a2 ds.length c2] w fun e w' => ∃ r, e = .returned r ∧ ResR w.heap.size w' r (ratOf m1 (valD xs) (valD ds)) (n + 1) ∧ Below w.heap.size w w' := by
 have h0x := val_nonnegD A.wf
 have h0d := val_nonnegD B.wf
 obtain ⟨W, hW⟩ : ∃ W, (w.alloc (.cells #[.bool false, .slice none 0 0, .slice none 0 0] 58)) = W := ⟨_, rfl⟩
 have R0 : Row W (w.heap.size) 58 #[.bool false, .slice none 0 0, .slice none 0 0] := by rw [← hW]; exact (Row.new _ _ _)
 have hBW : Below w.heap.size w W := by rw [← hW]; exact ((Below.refl _ _).alloc (by (try simp) <;> omega) _)
 have hsW : w.heap.size + 1 ≤ W.heap.size := by rw [← hW]; simp
 by_cases z1 : valD xs = 0
 · have d1 := lenD_zero A.wf A.full z1
   have hX : ratOf m1 (valD xs) (valD ds) = 0 := by rw [z1]; exact ratOf_zero_left _ _
   have HX := Lib.hid hX
   have hb2 : Below W.heap.size W (W.alloc (.cells #[.int .i64 1] 3)) := (Below.refl _ _).alloc (Nat.le_refl _) _
   have L := digit_lit (Row.new W 3 #[.int .i64 1]) (by omega)
   have R0' := R0.later hb2
   obtain ⟨u0, u1, u2, g0, g1, g2⟩ := R0'.three
   obtain ⟨p0, p1, p2, p3, p4, p5⟩ := R0.three
   clear hX
   go_enter Tryz.func71, Tryz.ntmps71
   go_wp2_with fail
   refine bodyPost_ret (v := .agg #[.bool false, .slice none 0 0, .slice (some ⟨W.heap.size, 0, none⟩) 1 1]) (by simp [results, Tryz.results71, go_sem, u0, u1, u2]) rfl ⟨_, rfl, ⟨[], [1], none, some ⟨W.heap.size, 0, none⟩, 0, 1, ?_, ?_, ?_, by simp, by simp⟩, ?_⟩
   · rw [HX.out]; rfl
   · rw [HX.out]; exact ⟨⟨rfl, .inl ⟨rfl, rfl⟩⟩, WfD.nil, rfl, rfl⟩
   · rw [HX.out]; exact (ResD.one W (by omega)).far R0' (by decide) (kept3 _ _ _)
   · exact below_set3 (hBW.trans (hb2.mono (by omega))) (by omega) _ _ _
 by_cases z2 : valD ds = 0
 · have d1 := lenD_pos (show 0 < valD xs by omega)
   have d2 := lenD_zero B.wf B.full z2
   have hX : ratOf m1 (valD xs) (valD ds) = 0 := by rw [z2]; exact ratOf_zero_right _ _
   have HX := Lib.hid hX
   have hb2 : Below W.heap.size W (W.alloc (.cells #[.int .i64 1] 3)) := (Below.refl _ _).alloc (Nat.le_refl _) _
   have L := digit_lit (Row.new W 3 #[.int .i64 1]) (by omega)
   have R0' := R0.later hb2
   obtain ⟨u0, u1, u2, g0, g1, g2⟩ := R0'.three
   obtain ⟨p0, p1, p2, p3, p4, p5⟩ := R0.three
   clear hX
   go_enter Tryz.func71, Tryz.ntmps71
   go_wp2_with fail
   refine bodyPost_ret (v := .agg #[.bool false, .slice none 0 0, .slice (some ⟨W.heap.size, 0, none⟩) 1 1]) (by simp [results, Tryz.results71, go_sem, u0, u1, u2]) rfl ⟨_, rfl, ⟨[], [1], none, some ⟨W.heap.size, 0, none⟩, 0, 1, ?_, ?_, ?_, by simp, by simp⟩, ?_⟩
   · rw [HX.out]; rfl
   · rw [HX.out]; exact ⟨⟨rfl, .inl ⟨rfl, rfl⟩⟩, WfD.nil, rfl, rfl⟩
   · rw [HX.out]; exact (ResD.one W (by omega)).far R0' (by decide) (kept3 _ _ _)
   · exact below_set3 (hBW.trans (hb2.mono (by omega))) (by omega) _ _ _
 have hpx : 0 < valD xs := by omega
 have hpd : 0 < valD ds := by omega
 have d1 := lenD_pos hpx
 have d2 := lenD_pos hpd
 have A' := A.later hBW
 have B' := B.later hBW
 have e1 := ratOf_neg (n := m1) h0x hpd (fun h => absurd h z1)
 have e2 := ratOf_abs (n := m1) h0x hpd
 have e3 := ratOf_den (n := m1) (A := valD xs) hpd
 have hgp : 0 < (Int.gcd (valD xs) (valD ds) : Int) := gcd_pos hpx
 have E1 := Lib.hid e1
 have E2 := Lib.hid e2
 have E3 := Lib.hid e3
 clear e1 e2 e3 z1 z2
 go_enter Tryz.func71, Tryz.ntmps71
 go_wp2_with fail
 refine (gcdD_any A' B' (by omega) (by omega)).mono ?_
 rintro e w1 ⟨r1, rfl, gs, gd, gc, G, hG, lG, hb1⟩
 have hs1 := hb1.size
 have A1 := A'.later hb1
 have B1 := B'.later hb1
 have hgs : 0 < valD gs := by rw [hG]; exact hgp
 have HG := Lib.hid hG
 have eG := G.is
 subst eG
 clear hG hgp hW
 go_wp2_with fail
 refine (divD_any A1 G (by omega) (by omega) hgs).mono ?_
 rintro e w2 ⟨r2, s2, rfl, hb2, ⟨z2, q2, l2⟩, _⟩
 have hs2 := hb2.size
 obtain ⟨ad2, cp2, rfl, q2, A2⟩ := q2.slice
 have B2 := B1.later hb2
 have G2 := G.later hb2
 go_wp2_with fail
 refine (divD_any B2 G2 (by omega) (by omega) hgs).mono ?_
 rintro e w3 ⟨r3, s3, rfl, hb3, ⟨z3, q3, l3⟩, _⟩
 have hs3 := hb3.size
 obtain ⟨ad3, cp3, rfl, q3, A3⟩ := q3.slice
 have A2' := A2.later hb3
 have P3 := ((R0.later hb1).later hb2).later hb3
 have v2 := q2.eq
 have v3 := q3.eq
 rw [HG.out] at v2 v3
 have V2 := Lib.hid v2
 have V3 := Lib.hid v3
 have Q2 := Lib.hid (q2.later hb3)
 have Q3 := Lib.hid q3
 clear v2 v3 q2 q3
 obtain ⟨u0, u1, u2, g0, g1, g2⟩ := P3.three
 go_wp2_with fail
 refine bodyPost_ret (v := .agg #[.bool m1, .slice ad2 z2.length cp2, .slice ad3 z3.length cp3]) (by simp [results, Tryz.results71, go_sem, u0, u1, u2]) rfl ⟨_, rfl, ⟨z2, z3, ad2, ad3, cp2, cp3, by rw [E1.out], ?_, ?_, by omega, by omega⟩, ?_⟩
 · exact ((Q2.out.mono (by omega)).far P3 (by decide) (kept3 _ _ _)).eqTo (by rw [V2.out, E2.out])
 · exact ((Q3.out.mono (by omega)).far P3 (by decide) (kept3 _ _ _)).eqTo (by rw [V3.out, E3.out])
 · exact below_set3 (((hBW.trans (hb1.mono (by omega))).trans (hb2.mono (by omega))).trans (hb3.mono (by omega))) (by omega) _ _ _
theorem ofRR_any {n : Nat} {w : World} {v : Value} {X : Rat} (h : ArgQ w v X n) (hn : n ≤ 134217728) :
 Calls Tryz.prog 29 #[v] w fun e w' => ∃ r, e = .returned r ∧ ResR w.heap.size w' r X (5 * n + 1) ∧ Below w.heap.size w w' := by
 obtain ⟨m1, xs, ds, a1, a2, c1, c2, rfl, A, B, hX, hx, hd⟩ := h
 obtain ⟨W, hW⟩ : ∃ W, ((w.alloc (.cells #[.bool m1, .slice a1 xs.length c1, .slice a2 ds.length c2] 54)).alloc (.cells #[.bool false, .slice none 0 0, .slice none 0 0] 58)) = W := ⟨_, rfl⟩
 have R0 : Row W (w.heap.size) 54 #[.bool m1, .slice a1 xs.length c1, .slice a2 ds.length c2] := by rw [← hW]; exact ((Row.new _ _ _).alloc _)
 have R1 : Row W (w.heap.size + 1) 58 #[.bool false, .slice none 0 0, .slice none 0 0] := by rw [← hW]; have h := (Row.new (w.alloc (.cells #[.bool m1, .slice a1 xs.length c1, .slice a2 ds.length c2] 54)) 58 #[.bool false, .slice none 0 0, .slice none 0 0]); simp only [World.size_alloc] at h; exact h
 have hBW : Below w.heap.size w W := by rw [← hW]; exact (((Below.refl _ _).alloc (by (try simp) <;> omega) _).alloc (by (try simp) <;> omega) _)
 have hsW : w.heap.size + 1 + 1 ≤ W.heap.size := by rw [← hW]; simp
 have HX := Lib.hid hX
 clear hX
 have mkS : ∀ X, Kept (w.heap.size + 1) W X → X.cell? ⟨w.heap.size, 0, none⟩ = some (.bool m1) ∧ X.cell? ⟨w.heap.size, 1, none⟩ = some (.slice a1 xs.length c1) ∧ X.cell? ⟨w.heap.size, 2, none⟩ = some (.slice a2 ds.length c2) ∧ Kept (w.heap.size + 1) W X := fun X h => ⟨(R0.kept h (by omega)).cell 0, (R0.kept h (by omega)).cell 1, (R0.kept h (by omega)).cell 2, h⟩
 go_enter Tryz.func29, Tryz.ntmps29
 go_wp2_with fail
 clear hW
 go_region_held3 (fun X => X.cell? ⟨w.heap.size, 0, none⟩ = some (.bool m1) ∧ X.cell? ⟨w.heap.size, 1, none⟩ = some (.slice a1 xs.length c1) ∧ X.cell? ⟨w.heap.size, 2, none⟩ = some (.slice a2 ds.length c2) ∧ Kept (w.heap.size + 1) W X)
  (((refine mkS _ ?_; (repeat' (first | exact Kept.refl _ _ | refine Kept.drew ?_ | refine Kept.alloc ?_ _ | refine Kept.set ?_ _ _ | refine Kept.below ?_ (by assumption))))))
  ((first
   | (go_at_call 71; refine (makeRR_any (n := 5 * n) (A3.later hb4) A4 (by omega) (by omega) (by omega)).mono ?_; rintro e w5 ⟨r5, rfl, q5, hb5⟩; rw [HV.out] at q5; obtain ⟨fs, gs, f1, f2, j1, j2, e5, _⟩ := id q5; subst e5; have P5 := R1.kept (show Kept (w.heap.size + 1 + 1 + 1) W w5 by (repeat' (first | exact Kept.refl _ _ | refine Kept.drew ?_ | refine Kept.alloc ?_ _ | refine Kept.set ?_ _ _ | refine Kept.below ?_ (by assumption)))) (by omega); obtain ⟨u0, u1, u2, g0, g1, g2⟩ := P5.three)
   | (go_at_call 72; (with_reducible refine (of_any (B.later (Kept.under (show Kept (w.heap.size + 1) W _ by (repeat' (first | exact Kept.refl _ _ | refine Kept.drew ?_ | refine Kept.alloc ?_ _ | refine Kept.set ?_ _ _ | refine Kept.below ?_ (by assumption)))) hBW (by omega) (by omega))) (by omega)).mono ?_); rintro e w4 ⟨r4, rfl, z4, q4, l4, hb4⟩; obtain ⟨ad4, cp4, rfl, q4, A4⟩ := q4.slice; have HV := Lib.hid ((show ratOf m1 (valD z3) (valD z4) = ratOf m1 (val xs) (val ds) by rw [q3.eq, q4.eq]).trans HX.out))
   | (go_at_call 72; (with_reducible refine (of_any (A.later (Kept.under (show Kept (w.heap.size + 1) W _ by (repeat' (first | exact Kept.refl _ _ | refine Kept.drew ?_ | refine Kept.alloc ?_ _ | refine Kept.set ?_ _ _ | refine Kept.below ?_ (by assumption)))) hBW (by omega) (by omega))) (by omega)).mono ?_); rintro e w3 ⟨r3, rfl, z3, q3, l3, hb3⟩; obtain ⟨ad3, cp3, rfl, q3, A3⟩ := q3.slice)))
 have hs5 := hb5.size
 have hk5 := (show Kept (w.heap.size + 1 + 1 + 1) W w5 by (repeat' (first | exact Kept.refl _ _ | refine Kept.drew ?_ | refine Kept.alloc ?_ _ | refine Kept.set ?_ _ _ | refine Kept.below ?_ (by assumption)))).size
 have hk4 := (show Kept (w.heap.size + 1 + 1 + 1) W w4 by (repeat' (first | exact Kept.refl _ _ | refine Kept.drew ?_ | refine Kept.alloc ?_ _ | refine Kept.set ?_ _ _ | refine Kept.below ?_ (by assumption)))).size
 have hK5 := (Kept.under (show Kept (w.heap.size + 1 + 1 + 1) W w5 by (repeat' (first | exact Kept.refl _ _ | refine Kept.drew ?_ | refine Kept.alloc ?_ _ | refine Kept.set ?_ _ _ | refine Kept.below ?_ (by assumption)))) hBW (by omega) (by omega))
 go_wp2_with fail
 refine bodyPost_ret (v := .agg #[.bool (decide (X.num < 0)), .slice f1 fs.length j1, .slice f2 gs.length j2]) (by simp [results, Tryz.results29, go_sem, u0, u1, u2]) rfl ⟨_, rfl, ?_, below_set3 hK5 (by omega) _ _ _⟩
 exact (q5.far P5 (by decide) (kept3 _ _ _)).mono (by omega)
end
section
open Go.RowKit
theorem RefQ.only {w w' : World} {X : Rat} {n : Nat} {zs ys : List Int} {f g : Option Addr} {j k : Nat} (h : RefQ w X n zs ys f g j k) {b : Nat} {t : TypeId} {p : Bool} {ad bd : Option Addr} {l cap m cbp : Nat} (R : Row w b t #[.bool p, .slice ad l cap, .slice bd m cbp]) (o : Only b w w') : RefQ w' X n zs ys f g j k :=
 ⟨h.1.far R (noInts3 _ _ _ _ _ _ _) o.block, h.2.1.far R (noInts3 _ _ _ _ _ _ _) o.block, h.2.2⟩
end
section
open Go.RowKit
def dotC (s1 s2 : List Int) (q1 q2 : List Q3) : Int := if mayT s1 q1 ≠ 0 then mayT s1 q1 else if mayT s2 q2 ≠ 0 then mayT s2 q2 else if s1 ≠ s2 then 13 else 0
end
section
open Go.RowKit Go.Shelf
attribute [local go_sem] Oper.semAt_some
theorem besideQ_any (a b : Option Addr) (n m ca cb : Nat) (w : World) :
 Calls Tryz.prog 65 #[.slice a n ca, .slice b m cb] w fun e w' => e = .returned (.func (.func 105) #[] #[.pointer (some ⟨w.heap.size, 0, none⟩), .pointer (some ⟨w.heap.size + 1, 0, none⟩)]) ∧
  w' = (w.alloc (.cells #[.slice a n ca] 96)).alloc (.cells #[.slice b m cb] 96) := by
 go_enter Tryz.func65, Tryz.ntmps65
 go_wp2
 go_ret
 simp
end
section
open Go.RowKit Go.ChangeShapes Go.WideShapes Go.ChangeAt Go.Joins Go.Deep
theorem DotQ.only {base n g : Nat} {w w' : World} {r : Value} {x : Rat} {c : Int} {cs : Array Value} (h : DotQ base w r x n c) (R : Row w g 54 cs) (k : Only g w w') : DotQ base w' r x n c := ⟨fun e => (h.1 e).only R k, h.2⟩
theorem TenC.only {base n g : Nat} {w w' : World} {r : Value} {s : List Int} {L : List Rat} {c : Int} {cs : Array Value} (h : TenC base w r s L n c) (R : Row w g 26 cs) (k : Only g w w') : TenC base w' r s L n c := ⟨fun e => (h.1 e).far R (by decide) (by decide) (by decide) k.block, h.2⟩
end
section
open Go.RowKit
theorem mayPair_any {u v : Value} {s1 s2 : List Int} {q1 q2 : List Q3} {a1 b1 a2 b2 : Option Addr} {ca1 cb1 ca2 cb2 : Nat} {w : World} (T1 : TensQ w u s1 q1 a1 ca1 b1 cb1) (T2 : TensQ w v s2 q2 a2 ca2 b2 cb2) (h1 : s1.length ≤ 17592186044416) (h2 : s2.length ≤ 17592186044416) :
 Calls Tryz.prog 114 #[u, v] w fun e w' => e = .returned (.int .i64 (if s1 = s2 then 0 else 13)) ∧ Below w.heap.size w w' := by
 obtain rfl := T1.is
 obtain rfl := T2.is
 obtain ⟨W, hW⟩ : ∃ W, (w.alloc (.cells #[.slice a1 s1.length ca1, .slice b1 q1.length cb1] 26)).alloc (.cells #[.slice a2 s2.length ca2, .slice b2 q2.length cb2] 26) = W := ⟨_, rfl⟩
 have R0 : Row W w.heap.size 26 #[.slice a1 s1.length ca1, .slice b1 q1.length cb1] := by rw [← hW]; exact (Row.new _ _ _).alloc _
 have R1 : Row W (w.heap.size + 1) 26 #[.slice a2 s2.length ca2, .slice b2 q2.length cb2] := by rw [← hW]; have h := (Row.new (w.alloc (.cells #[.slice a1 s1.length ca1, .slice b1 q1.length cb1] 26)) 26 #[.slice a2 s2.length ca2, .slice b2 q2.length cb2]); simp only [World.size_alloc] at h; exact h
 have hBW : Below w.heap.size w W := by rw [← hW]; exact ((Below.refl _ _).alloc (by simp) _).alloc (by simp) _
 have hs := sameS_any (T1.later hBW).sh (T2.later hBW).sh T1.nila T2.nila h1 h2
 obtain ⟨c0, _, _, _⟩ := R0.two
 obtain ⟨c1, _, _, _⟩ := R1.two
 by_cases h : s1 = s2
 · rw [decide_eq_true h] at hs
   rw [if_pos h]
   clear h T1 T2 R0 R1
   go_enter Tryz.func114, Tryz.ntmps114
   (try rw [hW])
   go_wp2_with (go_at_call 63; refine hs.mono ?_; rintro e w1 ⟨rfl, hb⟩)
   go_ret
   exact ⟨rfl, hBW.trans (hb.mono hBW.size)⟩
 · rw [decide_eq_false h] at hs
   rw [if_neg h]
   clear h T1 T2 R0 R1
   go_enter Tryz.func114, Tryz.ntmps114
   (try rw [hW])
   go_wp2_with (go_at_call 63; refine hs.mono ?_; rintro e w1 ⟨rfl, hb⟩)
   go_ret
   exact ⟨rfl, hBW.trans (hb.mono hBW.size)⟩
end
section
open Go.RowKit
theorem total1_any {n g F : Nat} {R : Rat} {N : Nat} {w : World} {u v : Value} {p q : Q3} (hu : RawQ w u p) (hv : RawQ w v q) (hg : w.cell? ⟨g, 0, none⟩ = some (.func (.func F) #[] #[])) (heF : ∀ args w, (callFunc F args).run Tryz.prog w = .ok (.enter F args) w)
 (hdo : ∀ W x y, Below w.heap.size w W → RawQ W x p → RawQ W y q → Calls Tryz.prog F #[x, y] W fun e w' => ∃ r, e = .returned r ∧ ResQ W.heap.size w' r R N ∧ Below W.heap.size W w') :
 Calls Tryz.prog 117 #[u, v, .pointer (some ⟨g, 0, none⟩)] w fun e w' => ∃ r, e = .returned (.tuple #[r, .int .i64 0]) ∧ ResQ w.heap.size w' r R N ∧ Below w.heap.size w w' := by
 have HU := Lib.hid hu
 have HV := Lib.hid hv
 obtain ⟨a1, b1, ca1, cb1, rfl, _⟩ := hu
 obtain ⟨a2, b2, ca2, cb2, rfl, _⟩ := hv
 obtain ⟨W, hW⟩ : ∃ W, (((w.alloc (.cells #[.bool p.neg, .slice a1 p.num.length ca1, .slice b1 p.den.length cb1] 54)).alloc (.cells #[.bool q.neg, .slice a2 q.num.length ca2, .slice b2 q.den.length cb2] 54)).alloc (.cells #[.bool false, .slice none 0 0, .slice none 0 0] 54)) = W := ⟨_, rfl⟩
 have R0 : Row W (w.heap.size) 54 #[.bool p.neg, .slice a1 p.num.length ca1, .slice b1 p.den.length cb1] := by rw [← hW]; exact ((Row.new _ _ _).alloc _).alloc _
 have R1 : Row W (w.heap.size + 1) 54 #[.bool q.neg, .slice a2 q.num.length ca2, .slice b2 q.den.length cb2] := by rw [← hW]; have h := (Row.new (w.alloc (.cells #[.bool p.neg, .slice a1 p.num.length ca1, .slice b1 p.den.length cb1] 54)) 54 #[.bool q.neg, .slice a2 q.num.length ca2, .slice b2 q.den.length cb2]); simp only [World.size_alloc] at h; exact h.alloc _
 have R2 : Row W (w.heap.size + 1 + 1) 54 #[.bool false, .slice none 0 0, .slice none 0 0] := by rw [← hW]; have h := (Row.new ((w.alloc (.cells #[.bool p.neg, .slice a1 p.num.length ca1, .slice b1 p.den.length cb1] 54)).alloc (.cells #[.bool q.neg, .slice a2 q.num.length ca2, .slice b2 q.den.length cb2] 54)) 54 #[.bool false, .slice none 0 0, .slice none 0 0]); simp only [World.size_alloc] at h; exact h
 have hBW : Below w.heap.size w W := by rw [← hW]; exact ((((Below.refl _ _).alloc (by (try simp) <;> omega) _).alloc (by (try simp) <;> omega) _).alloc (by (try simp) <;> omega) _)
 have hsW : w.heap.size + 1 + 1 + 1 ≤ W.heap.size := by rw [← hW]; simp
 have cg := (hBW.cell (World.block_lt_of_cell? w _ hg)).trans hg
 have hp := hdo W _ _ hBW (HU.out.later hBW) (HV.out.later hBW)
 obtain ⟨c0, c1, c2, _, _, _⟩ := R0.three
 obtain ⟨d0, d1, d2, _, _, _⟩ := R1.three
 have HDO := Lib.hid hdo
 clear hdo hg
 go_enter Tryz.func117, Tryz.ntmps117
 (try rw [hW])
 go_wp2_with fail
 refine hp.mono ?_
 rintro e w2 ⟨r, rfl, qv, hb2⟩
 have Q2 := Lib.hid qv
 obtain ⟨m5, f1, l1, j1, f2, l2, j2, rfl⟩ := qv.shape
 clear qv
 have P2 := R2.later hb2
 have s2 := hb2.size
 obtain ⟨u0, u1, u2, g0, g1, g2⟩ := P2.three
 go_wp2_with fail
 have P3 := P2.set3 (.bool m5) (.slice f1 l1 j1) (.slice f2 l2 j2)
 obtain ⟨z0, z1, z2, _, _, _⟩ := P3.three
 refine bodyPost_ret (v := .tuple #[.agg #[.bool m5, .slice f1 l1 j1, .slice f2 l2 j2], .int .i64 0]) (by simp [results, Tryz.results117, go_sem, z0, z1, z2]) rfl ⟨_, rfl, ?_, below_set3 (hBW.trans (hb2.mono (by omega))) (by omega) _ _ _⟩
 exact (Q2.out.mono (by omega)).far P2 (by decide) (kept3 _ _ _)
theorem total_any (F : Nat) (w : World) : Calls Tryz.prog 74 #[.func (.func F) #[] #[]] w fun e w' => e = .returned (.func (.func 117) #[] #[.pointer (some ⟨w.heap.size, 0, none⟩)]) ∧
 w' = w.alloc (.cells #[.func (.func F) #[] #[]] 112) := by
 go_enter Tryz.func74, Tryz.ntmps74
 go_wp2
 go_ret
 simp
end
section
open Go.RowKit
theorem orL_two (x y : Int) : orL [x, y] = if x ≠ 0 then x else y := by
 unfold orL
 by_cases h : x = 0
 · rw [if_pos h, if_neg (by simp [h])]
   unfold orL
   by_cases h2 : y = 0
   · rw [if_pos h2, h2]; rfl
   · rw [if_neg h2]
 · rw [if_neg h, if_pos h]
end
section
open Go.RowKit
def lens10 (qs : List Q3) : Bool := qs.all fun q => decide (q.num.length ≤ 3) && decide (q.den.length ≤ 3)
def short10 (qs : List Q3) : Bool := lens10 qs && (decide (0 < qs.length) && decide (qs.length ≤ 40))
theorem lens10_true {qs : List Q3} (h : lens10 qs = true) : lensQ qs 3 := by
 unfold lens10 at h
 rw [List.all_eq_true] at h
 intro q hq
 have := h q hq
 simpa using this
theorem short10_true {qs : List Q3} (h : short10 qs = true) : lensQ qs 3 ∧ 0 < qs.length ∧ qs.length ≤ 40 := by
 unfold short10 at h
 simp only [Bool.and_eq_true, decide_eq_true_eq] at h
 exact ⟨lens10_true h.1, h.2.1, h.2.2⟩
theorem lens10_ok {qs : List Q3} (h2 : ∀ (k : Nat) (q : Q3), qs[k]? = some q → q.num.length ≤ 3 ∧ q.den.length ≤ 3) : lens10 qs = true := by
 unfold lens10
 rw [List.all_eq_true]
 intro q hq
 obtain ⟨k, hk, rfl⟩ := List.mem_iff_getElem.1 hq
 have := h2 k _ (List.getElem?_eq_getElem hk)
 simpa using this
theorem lens10_bad {qs : List Q3} {k : Nat} {q : Q3} (h : qs[k]? = some q) (h2 : ¬ (q.num.length ≤ 3 ∧ q.den.length ≤ 3)) : short10 qs = false := by
 cases e : short10 qs with
 | false => rfl
 | true => exact absurd ((short10_true e).1 q (List.mem_of_getElem? h)) h2
theorem short10_any {w : World} {qs : List Q3} {b : Option Addr} {cb : Nat} (E : RowA RawQ w (.slice b qs.length cb) qs b cb) (hq : qs.length ≤ 17592186044416) :
 Calls Tryz.prog 34 #[.slice b qs.length cb] w fun e w' => e = .returned (.bool (short10 qs)) ∧ Below w.heap.size w w' := by
 have HE := Lib.hid E
 obtain ⟨t, ht⟩ : ∃ t, short10 qs = t := ⟨_, rfl⟩
 rw [ht]
 have HTT := Lib.hid ht
 clear ht E
 have hBW : Below w.heap.size w w := Below.refl _ _
 have HB := Lib.hid hBW
 clear hBW
 go_enter Tryz.func34, Tryz.ntmps34
 go_wp2_with fail
 go_loopw [3] (fun i wr => ∃ k : Nat, i = .int .i64 (k : Int) ∧ k ≤ qs.length ∧ (∀ (j : Nat) (q : Q3), j < k → qs[j]? = some q → q.num.length ≤ 3 ∧ q.den.length ≤ 3) ∧ Below w.heap.size w wr) (fun i _ => qs.length - (intOf i).toNat)
 case atStart => exact ⟨0, rfl, Nat.zero_le _, (fun j q hj => by omega), HB.out⟩
 case round =>
  obtain ⟨k, rfl, hk, hall, hb⟩ := hrel
  have HA := Lib.hid hall
  clear hall
  by_cases hlt : k < qs.length
  · obtain ⟨bb, o, x0, x1, x2, q, hbo, hqk, e0, e1, e2, hraw⟩ := (HE.out.later hb (fun v x _ k => k.later hb)).at hlt
    subst hbo
    obtain ⟨u1, u2, j1, j2, hraw', _⟩ := id hraw
    simp only [Value.agg.injEq, Array.mk.injEq, List.cons.injEq, and_true] at hraw'
    obtain ⟨rfl, rfl, rfl⟩ := hraw'
    have hltI : (k : Int) < (qs.length : Int) := by omega
    have HQ := Lib.hid hqk
    clear hqk hraw
    obtain ⟨n1, hn1⟩ : ∃ n, q.num.length = n := ⟨_, rfl⟩
    obtain ⟨n2, hn2⟩ : ∃ n, q.den.length = n := ⟨_, rfl⟩
    have HN1 := Lib.hid hn1
    have HN2 := Lib.hid hn2
    rw [hn1] at e1
    rw [hn2] at e2
    clear hn1 hn2
    by_cases h1 : n1 ≤ 3
    · have h1I : ¬ (n1 : Int) > 3 := by omega
      by_cases h2 : n2 ≤ 3
      · have h2I : ¬ (n2 : Int) > 3 := by omega
        go_wp2
        go_roundw
        case rel =>
         refine ⟨k + 1, by go_num, by omega, fun j p hj hp => ?_, hb⟩
         by_cases h : j = k
         · rw [h, HQ.out] at hp
           cases hp
           rw [HN1.out, HN2.out]
           exact ⟨h1, h2⟩
         · exact HA.out j p (by omega) hp
        case measure => simp [intOf]; omega
      · have h2I : (n2 : Int) > 3 := by omega
        obtain rfl : t = false := by rw [← HTT.out]; exact lens10_bad HQ.out (by rw [HN1.out, HN2.out]; omega)
        go_wp2
        go_ret
        exact ⟨rfl, hb⟩
    · have h1I : (n1 : Int) > 3 := by omega
      obtain rfl : t = false := by rw [← HTT.out]; exact lens10_bad HQ.out (by rw [HN1.out, HN2.out]; omega)
      go_wp2
      go_ret
      exact ⟨rfl, hb⟩
  · obtain rfl : k = qs.length := by omega
    have hltI : ¬ (qs.length : Int) < (qs.length : Int) := by omega
    have hlens : lens10 qs = true := lens10_ok fun j q hq => HA.out j q (by rcases Nat.lt_or_ge j qs.length with g | g; exact g; rw [List.getElem?_eq_none g] at hq; cases hq) hq
    have htt : t = (decide (0 < qs.length) && decide (qs.length ≤ 40)) := by rw [← HTT.out]; unfold short10; rw [hlens]; rfl
    have HT2 := Lib.hid htt
    clear htt hlens
    by_cases h0 : 0 < qs.length
    · have h0I : (qs.length : Int) > 0 := by omega
      by_cases h4 : qs.length ≤ 40
      · have h4I : (qs.length : Int) ≤ 40 := by omega
        obtain rfl : t = true := by rw [HT2.out]; simp [h0, h4]
        go_wp2
        go_ret
        exact ⟨rfl, hb⟩
      · have h4I : ¬ (qs.length : Int) ≤ 40 := by omega
        obtain rfl : t = false := by rw [HT2.out]; simp [h4]
        go_wp2
        go_ret
        exact ⟨rfl, hb⟩
    · have h0I : ¬ (qs.length : Int) > 0 := by omega
      obtain rfl : t = false := by rw [HT2.out]; simp [h0]
      go_wp2
      go_ret
      exact ⟨rfl, hb⟩
end
section
open Go.RowKit
def turn10 (qs : List Q3) (n : Nat) : List Rat := (List.range n).map fun k => ((qs[k % qs.length]?).map Q3.rat).getD 0
theorem turn10_len (qs : List Q3) (n : Nat) : (turn10 qs n).length = n := by unfold turn10; simp
theorem turn10_next {qs : List Q3} {k : Nat} {q : Q3} (h : qs[k % qs.length]? = some q) : turn10 qs (k + 1) = turn10 qs k ++ [q.rat] := by
 unfold turn10
 rw [List.range_succ, List.map_append, List.map_cons, List.map_nil, h]
 rfl
theorem wid2_10 {A B : Nat} (hA : A ≤ 1000) (hB : B ≤ 1000) : Wid [(A : Int), (B : Int)] := by
 intro x hx
 simp at hx
 rcases hx with rfl | rfl <;> omega
theorem matrix10_any {w : World} {qs : List Q3} {b : Option Addr} {cb A B : Nat} (E : RowA RawQ w (.slice b qs.length cb) qs b cb) (hl : lensQ qs 3) (hq0 : 0 < qs.length) (hq : qs.length ≤ 40) (hA : A ≤ 5) (hB : B ≤ 5) :
 Calls Tryz.prog 35 #[.int .i64 (A : Int), .int .i64 (B : Int), .slice b qs.length cb] w fun e w' => ∃ r, e = .returned r ∧ ResT w.heap.size w' r [(A : Int), (B : Int)] (turn10 qs (A * B)) 16 ∧ Below w.heap.size w w' := by
 obtain ⟨i0, hi, hz0, hz1, hz2⟩ := info_parts infoQ
 obtain ⟨M, hM⟩ : ∃ M, A * B = M := ⟨_, rfl⟩
 have hM5 : M ≤ 25 := by rw [← hM]; exact Nat.mul_le_mul hA hB
 have hmul : (A : Int) * (B : Int) = (M : Int) := by rw [← hM]; exact (Int.natCast_mul A B).symm
 have HE := Lib.hid E
 have HL := Lib.hid hl
 have hwid := wid2_10 (A := A) (B := B) (by omega) (by omega)
 have HM := Lib.hid hM
 rw [hM]
 obtain ⟨n, hn⟩ : ∃ n, qs.length = n := ⟨_, rfl⟩
 rw [hn] at hq hq0 ⊢
 have HN := Lib.hid hn
 have hnN : ¬ n = 0 := by omega
 have hnI : ¬ (n : Int) = 0 := by omega
 have hnB : ((n : Int) == 0) = false := by rw [beq_eq_false_iff_ne]; exact hnI
 obtain ⟨G, hG⟩ : ∃ G, w.heap.size = G := ⟨_, rfl⟩
 obtain ⟨W1, hW1⟩ : ∃ W, w.alloc (.cells #[.slice none 0 0, .slice none 0 0] 26) = W := ⟨_, rfl⟩
 obtain ⟨W2, hW2⟩ : ∃ W, W1.alloc (.cells #[.int .i64 (A : Int), .int .i64 (B : Int)] 3) = W := ⟨_, rfl⟩
 obtain ⟨W3, hW3⟩ : ∃ W, W2.alloc (.cells #[.slice (some ⟨G + 1, 0, none⟩) 2 2, .slice none 0 0] 26) = W := ⟨_, rfl⟩
 have s1 : W1.heap.size = G + 1 := by rw [← hW1, World.size_alloc, hG]
 have s2 : W2.heap.size = G + 1 + 1 := by rw [← hW2, World.size_alloc, s1]
 have b12 : Below W1.heap.size W1 W2 := by rw [← hW2]; exact (Below.refl _ _).alloc (Nat.le_refl _) _
 have b23 : Below W2.heap.size W2 W3 := by rw [← hW3]; exact (Below.refl _ _).alloc (Nat.le_refl _) _
 have b13 : Below W1.heap.size W1 W3 := b12.trans (b23.mono b12.size)
 have b01 : Below w.heap.size w W1 := by rw [← hW1]; exact (Below.refl _ _).alloc (Nat.le_refl _) _
 have bW : Below w.heap.size w W3 := b01.trans (b13.mono b01.size)
 have R0 : Row W3 G 26 #[.slice none 0 0, .slice none 0 0] := by rw [← hG]; exact (show Row W1 w.heap.size 26 #[.slice none 0 0, .slice none 0 0] by rw [← hW1]; exact Row.new _ _ _).later b13
 have R2 : Row W3 (G + 1 + 1) 26 #[.slice (some ⟨G + 1, 0, none⟩) 2 2, .slice none 0 0] := by rw [← s2, ← hW3]; exact Row.new _ _ _
 have rs : ResS G W3 (.slice (some ⟨G + 1, 0, none⟩) 2 2) [(A : Int), (B : Int)] := by
  have h : ResS W1.heap.size W2 (.slice (some ⟨W1.heap.size, 0, none⟩) 2 2) [(A : Int), (B : Int)] := by
   rw [← hW2]
   exact ⟨⟨rfl, .inr ⟨W1.heap.size, 2, #[.int .i64 (A : Int), .int .i64 (B : Int)], rfl, Nat.le_refl _, heap_alloc_new W1 _, Nat.le_refl _, by unfold maxLen; omega, by simp, by simp⟩⟩, hwid⟩
  rw [s1] at h
  exact (h.mono (by omega)).later b23
 rw [hG] at bW
 have H0 := Lib.hid R0
 have H2 := Lib.hid R2
 have HS := Lib.hid rs
 have HBW := Lib.hid bW
 have HG := Lib.hid hG
 have HW1 := Lib.hid hW1
 have HW2 := Lib.hid hW2
 have HW3 := Lib.hid hW3
 have HS1 := Lib.hid s1
 have HS2 := Lib.hid s2
 clear hW1 hW2 hW3 s1 s2 hG
 clear E hl R0 R2 rs bW b01 b12 b23 b13 hwid hM hn
 go_enter Tryz.func35, Tryz.ntmps35
 go_wp2_with fail
 have hG := HG.out
 have hW1 := HW1.out
 have hW2 := HW2.out
 have hW3 := HW3.out
 have s1 := HS1.out
 have s2 := HS2.out
 simp only [hG, hW1, s1, hW2, s2, hW3]
 clear hW1 hW2 hW3 s1 s2 hG
 go_loopw [8] (fun i wr => ∃ (k : Nat) (v : Value), i = .int .i64 (k : Int) ∧ k ≤ M ∧ Row wr G 26 #[.slice none 0 0, .slice none 0 0] ∧
  Row wr (G + 1 + 1) 26 #[.slice (some ⟨G + 1, 0, none⟩) 2 2, v] ∧ ResS G wr (.slice (some ⟨G + 1, 0, none⟩) 2 2) [(A : Int), (B : Int)] ∧ RowO G 54 (fun W v x => ResQ G W v x 16) wr v (turn10 qs k) ∧ Below G w wr) (fun i _ => M - (intOf i).toNat)
 case atStart => exact ⟨0, _, rfl, Nat.zero_le _, H0.out, H2.out, HS.out, RowO.nil _ _ _ _, HBW.out⟩
 case round =>
  obtain ⟨k, v, rfl, hk, r0, rg, rs, ⟨es, hown, hall⟩, hb⟩ := hrel
  have hsz := hb.size
  rw [HG.out] at hsz
  have hbw : Below w.heap.size w wr := by rw [HG.out]; exact hb
  have cg1 := rg.cell 1
  have hle : es.length = k := by rw [hall.1, turn10_len]
  by_cases hlt : k < M
  · obtain ⟨j, hj⟩ : ∃ j, k % n = j := ⟨_, rfl⟩
    have hjn : j < n := by rw [← hj]; exact Nat.mod_lt _ hq0
    have hm : Int.tmod (k : Int) (n : Int) = (j : Int) := by rw [Int.tmod_eq_emod_of_nonneg (by omega), ← hj]; exact (Int.natCast_emod k n).symm
    obtain ⟨b', o', x0, x1, x2, q, hbo, hqk, f0, f1, f2, hr1⟩ := (HE.out.later hbw (fun _ _ _ h => h.later hbw)).at (i := j) (by rw [HN.out]; exact hjn)
    obtain ⟨b2', o2', _, _, _, _, hbo', _, f0', _, _, _⟩ := HE.out.at (i := j) (by rw [HN.out]; exact hjn)
    rw [hbo] at hbo'
    obtain ⟨rfl, rfl⟩ : b' = b2' ∧ o' = o2' := by simpa using hbo'
    have lt2 : b' < w.heap.size := World.block_lt_of_cell? _ _ f0'
    rw [HG.out] at lt2
    subst hbo
    have hql := HL.out q (List.mem_of_getElem? hqk)
    have hrq := hr1.arg hql.1 hql.2
    obtain ⟨m1, u1, l1, j1, u2, l2, j2, e1⟩ := hrq.shape
    simp only [Value.agg.injEq, Array.mk.injEq, List.cons.injEq, and_true] at e1
    obtain ⟨rfl, rfl, rfl⟩ := e1
    have hnext : turn10 qs (k + 1) = turn10 qs k ++ [q.rat] := turn10_next (by rw [HN.out, hj]; exact hqk)
    have HNX := Lib.hid hnext
    have HRQ := Lib.hid hrq
    obtain ⟨r, hrv, hrb, hrne, hrA⟩ := hown.hits10 hsz
    have n0 := hrne _ _ _ r0 (by decide)
    have ng := hrne _ _ _ rg (by decide)
    have nl : b' ≠ r := by omega
    have hj0 : (0 : Int) ≤ (j : Int) := by omega
    have hjI : (j : Int) < (n : Int) := by omega
    have hltI : (k : Int) < (M : Int) := by omega
    have mkA : ∀ Y, Kept r wr Y → Y.cell? ⟨G + 1 + 1, 1, none⟩ = some v ∧ (Y.cell? ⟨b', o' + j * 3, none⟩ = some (.bool m1) ∧ Y.cell? ⟨b', o' + j * 3 + 1, none⟩ = some (.slice u1 l1 j1) ∧ Y.cell? ⟨b', o' + j * 3 + 2, none⟩ = some (.slice u2 l2 j2)) ∧ Kept r wr Y := fun Y h => ⟨h.cell cg1 ng, ⟨h.cell f0 nl, h.cell f1 nl, h.cell f2 nl⟩, h⟩
    have k0 : Kept r wr wr.drew := (Kept.refl r wr).drew
    have hk25 : es.length ≤ 25 := by omega
    have HOWN := Lib.hid hown
    have HALL := Lib.hid hall
    have HLE := Lib.hid hle
    clear hj hqk hr1 hrq hbo' f0' hnext hown hall hle hql
    go_wp2_with fail
    refine wp_region_L (S := fun Y => Y.cell? ⟨G + 1 + 1, 1, none⟩ = some v ∧ (Y.cell? ⟨b', o' + j * 3, none⟩ = some (.bool m1) ∧ Y.cell? ⟨b', o' + j * 3 + 1, none⟩ = some (.slice u1 l1 j1) ∧ Y.cell? ⟨b', o' + j * 3 + 2, none⟩ = some (.slice u2 l2 j2)) ∧ Kept r wr Y) (z := 14) (by kernel_rfl) (mkA _ k0) (fun hHeld => ?_)
    have bd : Below wr.heap.size wr wr.drew := (Below.refl _ _).drew
    refine todo [0, 1, 2, 3, 4, 5, 6, 7, 8] ?_
    iterate 9
     refine todoL (v := ?_) rfl (by kernel_rfl) (fun _ _ _ h => h) (by assumption) (Or.inl ⟨by rfl, ?_⟩) ?_
     rotate_left
     · intro w hSw; (try dsimp only at hSw); go_simp; (try with_reducible rfl)
     try simp only [Act.put, nA, nB, nC, nD, nE, nF]
    refine todone ?_
    refine wpAnyL_one (i := 9) (by kernel_rfl) rfl (fun K hK => ?sbm_9)
    go_simp
    refine (ofRR_any (n := 3) (HRQ.out.later bd) (by decide)).mono ?_
    rintro e w5 ⟨r5, rfl, q5, hb5⟩
    clear hm hnI hnB hmul
    have b5 : Below wr.heap.size wr w5 := bd.trans (hb5.mono bd.size)
    have k5 : Kept r wr w5 := (Kept.refl r wr).below b5
    have Q5 := Lib.hid q5
    clear q5
    go_simp
    refine hK.out _ _ (fun _ => mkA _ k5) (fun hHeld2 => ?mbm_9)
    clear hK K hHeld
    have hHeld := hHeld2 (by decide)
    clear hHeld2
    try simp only [Act.put, nA, nB, nC, nD, nE, nF]
    refine wpAnyL_one (i := 10) (by kernel_rfl) rfl (fun K hK => ?sbm_10)
    go_simp
    refine (backR_any Q5.out.arg (by decide)).mono ?_
    rintro e w6 ⟨r6, rfl, q6, hb6⟩
    have b6 : Below wr.heap.size wr w6 := b5.trans (hb6.mono b5.size)
    have k6 : Kept r wr w6 := (Kept.refl r wr).below b6
    have z6 := b6.size
    have bw6 : Below G w w6 := hb.trans (b6.mono hsz)
    have Q6 := Lib.hid q6
    obtain ⟨m5, p1, p2, p3, p4, p5, p6, rfl⟩ := q6.shape
    clear q6
    go_simp
    refine hK.out _ _ (fun _ => mkA _ k6) (fun hHeld2 => ?mbm_10)
    clear hK K hHeld
    have hHeld := hHeld2 (by decide)
    clear hHeld2
    try simp only [Act.put, nA, nB, nC, nD, nE, nF]
    refine wpAnyL_one (i := 11) (by kernel_rfl) rfl (fun K hK => ?sbm_11)
    go_simp
    refine hK.out _ _ (fun _ => mkA _ (k6.alloc _)) (fun hHeld2 => ?mbm_11)
    clear hK K hHeld
    have hHeld := hHeld2 (by decide)
    clear hHeld2
    try simp only [Act.put, nA, nB, nC, nD, nE, nF]
    refine wpAnyL_one (i := 12) (by kernel_rfl) rfl (fun K hK => ?sbm_12)
    refine step_append_lies _ rfl _ _ 24 rfl G 54 i0 _ 3 56 Tryz.underlying24 hi hz0 hz1 hz2 rfl (by decide) _ es.length (flat3 es) rfl ((HOWN.out.later b6).later ((Below.refl _ _).alloc (Nat.le_refl _) _)) ⟨w6.heap.size, 0, none⟩ 1 1 [.bool m5, .slice p1 p2 p3, .slice p4 p5 p6] rfl rfl (cell_three_new _ _ _ _ _) (by simp [Value.oneCell']) (by omega) (by unfold maxLen; omega) (by omega) (by simp; omega) _ rfl ?_
    intro g7 cp w7 hown' hgrow hg' hlt'
    have hk7 : Kept r wr w7 := (k6.alloc _).grown hgrow hrv
    refine hK.out _ _ (fun _ => mkA _ hk7) (fun hHeld2 => ?mbm_12)
    clear hK K hHeld
    have hHeld := hHeld2 (by decide)
    clear hHeld2
    try simp only [Act.put, nA, nB, nC, nD, nE, nF]
    refine todo [13] ?_
    iterate 1
     refine todoL (v := ?_) rfl (by kernel_rfl) (fun _ _ _ h => h) (by assumption) (Or.inl ⟨by rfl, ?_⟩) ?_
     rotate_left
     · intro w hSw; (try dsimp only at hSw); go_simp; (try with_reducible rfl)
     try simp only [Act.put, nA, nB, nC, nD, nE, nF]
    refine todone ?_
    have R7 : Row w7 (G + 1 + 1) 26 #[.slice (some ⟨G + 1, 0, none⟩) 2 2, v] := rg.kept hk7 ng
    have f7 := R7.free 1
    have c7 := R7.cell 1
    refine wpAnyL_one (i := 14) (by kernel_rfl) rfl (fun K hK => ?sbm_14)
    go_simp
    refine hK.out _ _ (fun h => absurd rfl h) (fun _ => ?mbm_14)
    clear hK K
    try simp only [Act.put, nA, nB, nC, nD, nE, nF]
    refine wpAnyL_done (by kernel_rfl) ?_ _
    go_wp2
    go_roundw
    case rel =>
     have Q6' : ResQ G w6 (E3.agg ⟨.bool m5, .slice p1 p2 p3, .slice p4 p5 p6⟩) q.rat 16 := ResQ.mono Q6.out (by have := b5.size; omega)
     obtain ⟨hrow7, hb7⟩ := pushE (P := fun Y v x => ResQ G Y v x 16) (e := ⟨.bool m5, .slice p1 p2 p3, .slice p4 p5 p6⟩) (base := G) (w := w) (wr := w6) bw6 (by omega) (HOWN.out.later b6) (HALL.out.imp fun u x _ h => h.later b6) Q6' (fun u y h => h.apart (HOWN.out.later b6) hgrow (by decide)) hown' hgrow
     have rs7 : ResS G w7 (.slice (some ⟨G + 1, 0, none⟩) 2 2) [(A : Int), (B : Int)] := ResS.apart (HOWN.out.later b6) hgrow (by decide) (rs.later b6)
     refine ⟨k + 1, _, by go_num, by omega, (r0.kept hk7 n0).far (by show G ≠ G + 1 + 1; omega) _, R7.set21 _, rs7.far R7 (by decide) (kept1 _), ?_, hb7.setCell (by show G ≤ G + 1 + 1; omega) _⟩
     rw [HNX.out]
     exact hrow7.far R7 (by decide) (kept1 _) (fun u y h => h.far R7 (by decide) (kept1 _))
    case measure => simp [intOf]; omega
  · obtain rfl : k = M := by omega
    have hltI : ¬ (k : Int) < (k : Int) := by omega
    obtain ⟨av, cv, rfl⟩ := ownT_slice hown
    have c20 := rg.cell 0
    have d21 := rg.cell 1
    obtain ⟨g10, g11, f10, f11⟩ := r0.two
    have RRs := r0.set2 (.slice (some ⟨G + 1, 0, none⟩) 2 2) (.slice av es.length cv)
    obtain ⟨z0, z1, _, _⟩ := RRs.two
    have hT : ResT G wr (.agg #[.slice (some ⟨G + 1, 0, none⟩) 2 2, .slice av es.length cv]) [(A : Int), (B : Int)] (turn10 qs k) 16 := ⟨_, av, 2, cv, by rw [turn10_len, hle]; rfl, rs, by rw [turn10_len]; have hown2 := hown; rw [hle] at hown2; exact ⟨es, hown2, hall⟩⟩
    have HT := Lib.hid hT
    have HRR := Lib.hid r0
    have hbE : Below G w ((wr.setCell ⟨G, 0, none⟩ (.slice (some ⟨G + 1, 0, none⟩) 2 2)).setCell ⟨G, 1, none⟩ (.slice av es.length cv)) := below_set2 hb (Nat.le_refl _) _ _
    have HBE := Lib.hid hbE
    clear hown hall hle RRs hT hbE
    go_wp2_with fail
    exact bodyPost_ret (v := .agg #[.slice (some ⟨G + 1, 0, none⟩) 2 2, .slice av es.length cv]) (by simp [results, Tryz.results35, go_sem, z0, z1]) rfl ⟨_, rfl, by rw [HG.out]; exact HT.out.far HRR.out (by decide) (by decide) (by decide) (kept2 _ _), by rw [HG.out]; exact HBE.out⟩
end
end Go.Proofs.YtengpgodmbfmkaaGreat
