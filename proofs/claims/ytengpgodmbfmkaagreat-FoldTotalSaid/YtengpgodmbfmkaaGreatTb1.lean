/-
  Part 1 of 5: contracts and what they rest on (RefE, RefF, QRef, RMath, RArg, RSgn, RCmp, TCode0, TOrdIn, TCode2, PPairs, PJoin).
-/
import Derived.Test.YtengpgodmbfmkaaGreatD30
namespace Go.Proofs.YtengpgodmbfmkaaGreat
set_option linter.unusedVariables false
set_option linter.unusedSimpArgs false
set_option maxRecDepth 100000
set_option maxHeartbeats 40000000
section
open Go.RowKit
theorem LimI.news {w : World} {ad : Addr} {xs : List Int} (h : LimI w (some ad) xs) : ∀ j u, (xs.map (Value.int .i64))[j]? = some u → w.cell? (ad.add j) = some u := by
 intro j u hj
 rcases h with rfl | ⟨b, off, e, hc⟩
 · simp at hj
 · cases e
   rw [List.getElem?_map] at hj
   have hjl : j < xs.length := by
    rcases Nat.lt_or_ge j xs.length with h | h
    · exact h
    · rw [List.getElem?_eq_none h] at hj; cases hj
   rw [show (⟨b, off, none⟩ : Addr).add j = ⟨b, off + j, none⟩ from (by unfold Addr.add; split <;> simp_all), hc j hjl, ← hj]
   simp [hjl]
theorem full_cons {x : Int} {l : List Int} (hl : 0 < l.length) (h : trimN l l.length = l.length) : trimN (x :: l) (x :: l).length = (x :: l).length := by
 obtain ⟨m, hm⟩ : ∃ m, l.length = m + 1 := ⟨l.length - 1, by omega⟩
 have h1 := trimN_last l l.length (by omega)
 rw [h, hm, Nat.add_sub_cancel] at h1
 rw [List.length_cons]
 unfold trimN
 rw [if_neg]
 rw [hm]
 simpa using h1
theorem valD_drop (xs : List Int) (j : Nat) (h : j < xs.length) : valD (xs.drop j) = xs.getD j 0 + 10000 * valD (xs.drop (j + 1)) := by
 rw [List.drop_eq_getElem_cons h]
 simp [valD, h]
theorem mulD_any {u v : Value} {xs ys : List Int} {a b : Option Addr} {capa capb : Nat} {w : World} (h1 : ArgD w u xs a capa) (h2 : ArgD w v ys b capb) (hx : xs.length ≤ 17179869184) (hy : ys.length ≤ 17179869184) :
 Calls Tryz.prog 77 #[u, v] w fun e w' => ∃ r, e = .returned r ∧ ∃ zs, ResD w.heap.size w' r zs (valD xs * valD ys) ∧ zs.length ≤ xs.length + 2 * ys.length + 3 ∧ Below w.heap.size w w' := by
 obtain ⟨i0, hi, hz0, hz1, hz2⟩ := info_parts infoInt
 obtain ⟨rfl, ly, _, wy, _⟩ := h2
 go_enter Tryz.func77, Tryz.ntmps77
 go_wp2
 go_loopw [5, 6, 7] (fun s i _ wr => ∃ (k : Nat) (q : Value) (ds : List Int), k ≤ ys.length ∧ q = s ∧ i = .int .i64 ((ys.length : Int) - 1 - k) ∧ ResD w.heap.size wr q ds (valD xs * valD (ys.drop (ys.length - k))) ∧ ds.length ≤ xs.length + 2 * k + 3 ∧ Below w.heap.size w wr) (fun _ i _ _ => (intOf i + 1).toNat)
 case atStart => exact ⟨0, _, [], Nat.zero_le _, rfl, by simp, ⟨World.ownsRow_nil _ _ _ _, WfD.nil, rfl, by simp [valD]⟩, by simp, Below.refl _ _⟩
 case round =>
  obtain ⟨k, q, ds, hk, rfl, rfl, hres, hlen, hb⟩ := hrel
  have hsz := hb.size
  by_cases hlt : k < ys.length
  · rcases ly with rfl | ⟨b, off, rfl, hc⟩
    · simp at hlt
    · obtain ⟨j, hj⟩ : ∃ j, j + k + 1 = ys.length := ⟨ys.length - k - 1, by omega⟩
      have hji : ((ys.length : Int) - 1 - k) = (j : Int) := by omega
      obtain ⟨x, hxk⟩ : ∃ x, ys.getD j 0 = x := ⟨_, rfl⟩
      obtain ⟨bx0, bx1⟩ : 0 ≤ x ∧ x < 10000 := hxk ▸ wy.getD j
      have hjl : j < ys.length := by omega
      have hcj := hc j hjl
      rw [hxk] at hcj
      have hge : (0 : Int) ≤ (j : Int) := by omega
      rw [hji]
      have hval : valD xs * valD (ys.drop (ys.length - (k + 1))) = 10000 * valD ds + valD xs * x := by
       rw [show ys.length - (k + 1) = j from by omega, valD_drop ys j hjl, hxk, hres.eq, show ys.length - k = j + 1 from by omega, Int.mul_add]
       have e : valD xs * (10000 * valD (List.drop (j + 1) ys)) = 10000 * (valD xs * valD (List.drop (j + 1) ys)) := by rw [← Int.mul_assoc, ← Int.mul_assoc, Int.mul_comm 10000]
       rw [e]
       omega
      have A1 := h1.later hb
      have HV := Lib.hid hval
      have HJ := Lib.hid hj
      clear hj hxk hc hji hval
      by_cases h0 : ds.length = 0
      · have hds : ds = [] := List.eq_nil_of_length_eq_zero h0
        subst hds
        have hq : ∃ ad cap, q = .slice ad 0 cap := by obtain ⟨ad, cap, h, _⟩ := hres.num.read; exact ⟨ad, cap, h⟩
        obtain ⟨adq, capq, rfl⟩ := hq
        have hc0 : wr.cell? ⟨b, off + j, none⟩ = some (.int .i64 x) := (hb.cell (p := ⟨b, off + j, none⟩) (World.block_lt_of_cell? w _ hcj)).trans hcj
        go_wp2_with fail
        refine (times_any x A1 (by omega) (by omega)).mono ?_
        rintro e w2 ⟨r2, rfl, z2, q2, n2, hb2⟩
        obtain ⟨ad2, cap2, A2⟩ := q2.arg
        have A0 : ArgD w2 (.slice none 0 0) [] none 0 := ⟨rfl, .inl rfl, Nat.le_refl _, WfD.nil, rfl⟩
        go_wp2_with fail
        refine (addD_any A0 A2 (by simp) (by omega)).mono ?_
        rintro e w3 ⟨r3, rfl, z3, q3, n3, hb3⟩
        have hB3 : Below w.heap.size w w3 := (hb.trans (hb2.mono hsz)).trans (hb3.mono (by have := hb2.size; omega))
        have hv3 : valD z3 = valD xs * valD (ys.drop (ys.length - (k + 1))) := by rw [q3.eq, q2.eq, HV.out]; simp [valD]
        have HV3 := Lib.hid hv3
        simp only [List.length_nil] at n3
        have hs2 := hb2.size
        clear hv3
        go_wp2
        go_roundw
        case rel => exact ⟨k + 1, r3, z3, by omega, rfl, by have := HJ.out; congr 1; omega, ⟨q3.num.mono (by omega), q3.wf, q3.full, HV3.out⟩, by omega, hB3⟩
        case measure => simp [intOf]
      · have hpos : 0 < ds.length := by omega
        have hres' := hres
        obtain ⟨⟨ad, cap, h1q, h2q, h3q, _, _⟩, wds, fds, eds⟩ := (⟨hres.num.read, hres.wf, hres.full, hres.eq⟩ : (_ ∧ _ ∧ _ ∧ _))
        subst h1q
        obtain ⟨p, o, rfl, hcd⟩ : ∃ p o, ad = some ⟨p, o, none⟩ ∧ True := by
         rcases h2q with e | ⟨p, o, e, _⟩
         · rw [e] at hpos; simp at hpos
         · exact ⟨p, o, e, trivial⟩
        have hlit := NumI.lit (base := w.heap.size) (w := wr) hsz [0] (by unfold maxLen; simp)
        have hrow : (wr.alloc (.cells #[.int .i64 0] 3)).ownsRow w.heap.size 3 1 (.slice (some ⟨wr.heap.size, 0, none⟩) 1 1) 1 [.int .i64 0] := hlit
        have hnews := (h2q.later ((Below.refl wr.heap.size wr).alloc (Nat.le_refl _) (.cells #[.int .i64 0] 3))).news
        have hal : Below w.heap.size w (wr.alloc (.cells #[.int .i64 0] 3)) := hb.alloc hsz _
        clear hlit hcd
        have hgt : (0 : Int) < (ds.length : Int) := by omega
        go_wp2_with (at_builtin; refine wpList_append_own _ rfl _ _ 56 rfl w.heap.size 3 i0 (.int .i64 0) 1 8 Tryz.underlying56 hi hz0 hz1 hz2 rfl (by decide) _ 1 [.int .i64 0] rfl hrow ⟨p, o, none⟩ ds.length cap (ds.map (Value.int .i64)) rfl (by simp) hnews (ints_oneCell _ _) (by unfold maxLen; omega) (by omega) (by simp; omega) ?_; intro v' w1 hown' hgrow _; have hb1 : Below w.heap.size w w1 := hal.grown hgrow (by simp; omega) (fun k hk => by cases hk; exact hsz); have hc0 : w1.cell? ⟨b, off + j, none⟩ = some (.int .i64 x) := (hb1.cell (p := ⟨b, off + j, none⟩) (World.block_lt_of_cell? w _ hcj)).trans hcj)
        have hup : NumI w.heap.size w1 v' (0 :: ds) := by
         unfold NumI
         rw [List.length_cons, List.map_cons, Nat.add_comm]
         exact hown'
        obtain ⟨adu, capu, hu1, hu2, hu3, _, _⟩ := hup.read
        have U1 : ArgD w1 v' (0 :: ds) adu capu := ⟨hu1, hu2, hu3, WfD.cons (by omega) wds, full_cons hpos fds⟩
        have A1' := h1.later hb1
        clear hown' hgrow hnews hrow hal h2q hup hu1 hu2 hu3
        have hs1 := hb1.size
        go_wp2_with fail
        refine (times_any x A1' (by omega) (by omega)).mono ?_
        rintro e w2 ⟨r2, rfl, z2, q2, n2, hb2⟩
        obtain ⟨ad2, cap2, A2⟩ := q2.arg
        have U2 := U1.later hb2
        go_wp2_with fail
        refine (addD_any U2 A2 (by simp only [List.length_cons]; omega) (by omega)).mono ?_
        rintro e w3 ⟨r3, rfl, z3, q3, n3, hb3⟩
        have hs2 := hb2.size
        have hB3 : Below w.heap.size w w3 := (hb1.trans (hb2.mono hs1)).trans (hb3.mono (by omega))
        have hv3 : valD z3 = valD xs * valD (ys.drop (ys.length - (k + 1))) := by rw [q3.eq, q2.eq, HV.out]; simp [valD]
        have HV3 := Lib.hid hv3
        simp only [List.length_cons] at n3
        clear hv3
        go_wp2
        go_roundw
        case rel => exact ⟨k + 1, r3, z3, by omega, rfl, by have := HJ.out; congr 1; omega, ⟨q3.num.mono (by omega), q3.wf, q3.full, HV3.out⟩, by omega, hB3⟩
        case measure => simp [intOf]
  · obtain rfl : k = ys.length := by omega
    have hji : ((ys.length : Int) - 1 - ys.length) = -1 := by omega
    rw [hji]
    clear hji
    have hv : valD ds = valD xs * valD ys := by have h := hres.eq; rwa [Nat.sub_self, List.drop_zero] at h
    go_wp2
    go_ret
    exact ⟨_, rfl, ds, ⟨hres.num, hres.wf, hres.full, hv⟩, hlen, hb⟩
end
section
open Go.RowKit
theorem Calls.quiet_eq {P : Program} {f : FuncId} {args : Array Value} {w : World} {n : Nat} {v : Value} (h : Calls P f args (w.drewN n) fun e w' => e = .returned v ∧ w.drewN n = w') :
 Calls P f args (w.drewN n) fun e w'' => e = .returned v ∧ ∃ m, w'' = w.drewN m := h.mono fun _ _ ⟨he, hm⟩ => ⟨he, n, hm.symm⟩
def subToD (xs ys : List Int) : Nat → List Int × Int
 | 0 => ([], 0)
 | k + 1 => ((subToD xs ys k).1 ++ [(xs.getD k 0 - ys.getD k 0 + (subToD xs ys k).2) % 10000], (xs.getD k 0 - ys.getD k 0 + (subToD xs ys k).2) / 10000)
theorem subToD_length (xs ys : List Int) (k : Nat) : (subToD xs ys k).1.length = k := by
 induction k with
 | zero => rfl
 | succ k ih => simp [subToD, ih]
theorem subToD_carry (xs ys : List Int) (hx : WfD xs) (hy : WfD ys) (k : Nat) : -1 ≤ (subToD xs ys k).2 ∧ (subToD xs ys k).2 ≤ 0 := by
 induction k with
 | zero => simp [subToD]
 | succ k ih => have h1 := hx.getD k; have h2 := hy.getD k; simp only [subToD]; omega
theorem subToD_wf (xs ys : List Int) (k : Nat) : WfD (subToD xs ys k).1 := by
 induction k with
 | zero => exact WfD.nil
 | succ k ih => exact ih.append (WfD.cons (by omega) WfD.nil)
theorem val_subToD (xs ys : List Int) (k : Nat) : valD (subToD xs ys k).1 + 10000 ^ k * (subToD xs ys k).2 = valD (xs.take k) - valD (ys.take k) := by
 induction k with
 | zero => simp [subToD, valD]
 | succ k ih =>
  rw [val_take_succD, val_take_succD]
  simp only [subToD]
  rw [valD_snoc, subToD_length]
  simp only [Int.pow_succ]
  have hm := mod_divD (xs.getD k 0 - ys.getD k 0 + (subToD xs ys k).2)
  generalize (subToD xs ys k).2 = c at *
  generalize ((xs.getD k 0 - ys.getD k 0 + c) % 10000) = r at *
  generalize ((xs.getD k 0 - ys.getD k 0 + c) / 10000) = q at *
  generalize (10000 : Int) ^ k = P at *
  grind
theorem val_subD {xs ys : List Int} (hx : WfD xs) (hy : WfD ys) (hl : ys.length ≤ xs.length) (h : valD ys ≤ valD xs) : valD (subToD xs ys xs.length).1 = valD xs - valD ys := by
 have h1 := val_subToD xs ys xs.length
 rw [List.take_length, List.take_of_length_le hl] at h1
 have h2 := subToD_carry xs ys hx hy xs.length
 have h3 := val_ltD (subToD_wf xs ys xs.length)
 rw [subToD_length] at h3
 rcases (show (subToD xs ys xs.length).2 = 0 ∨ (subToD xs ys xs.length).2 = -1 by omega) with e | e
 · rw [e] at h1; simpa using h1
 · rw [e] at h1; omega
theorem subD_any {u v : Value} {xs ys : List Int} {a b : Option Addr} {capa capb : Nat} {w : World} (h1 : ArgD w u xs a capa) (h2 : ArgD w v ys b capb) (hx : xs.length ≤ 68719476736) (hy : ys.length ≤ 68719476736) :
 Calls Tryz.prog 80 #[u, v] w fun e w' => ∃ r f, e = .returned (.tuple #[r, .bool f]) ∧ Below w.heap.size w w' ∧ (valD xs < valD ys → r = .slice none 0 0 ∧ f = false) ∧
  (valD ys ≤ valD xs → f = true ∧ ∃ zs, ResD w.heap.size w' r zs (valD xs - valD ys) ∧ zs.length ≤ xs.length) := by
 obtain ⟨i0, hi, hz0, hz1, hz2⟩ := info_parts infoInt
 have cmp := cmpD_any h1 h2 hx hy
 obtain ⟨rfl, lx, _, wx, fx⟩ := h1
 obtain ⟨rfl, ly, _, wy, fy⟩ := h2
 have hlen : valD ys ≤ valD xs → ys.length ≤ xs.length := fun h => by
  rcases Nat.lt_or_ge xs.length ys.length with h3 | h3
  · have := len_ltD wx wy fy h3; omega
  · exact h3
 have HL := Lib.hid hlen
 clear fx fy hlen
 go_enter Tryz.func80, Tryz.ntmps80
 go_wp2_with fail
 refine cmp.mono ?_
 rintro e V ⟨rfl, hV⟩
 clear cmp
 by_cases hlt : valD xs < valD ys
 · rw [sign_lt hlt]
   have hd : decide ((-1 : Int) < 0) = true := by decide
   go_wp2
   go_ret2
   exact ⟨_, _, rfl, hV, fun _ => ⟨rfl, rfl⟩, fun h => by omega⟩
 · have hd : decide (sign (valD xs) (valD ys) < 0) = false := decide_eq_false (by unfold sign; rw [if_neg hlt]; split <;> omega)
   have hL := HL.out (by omega)
   go_wp2
   go_loopw [6, 7, 8, 9] (fun s c i _ wr => ∃ (k : Nat) (q : Value), k ≤ xs.length ∧ q = s ∧ c = .int .i64 (-(subToD xs ys k).2) ∧ i = .int .i64 k ∧ NumI w.heap.size wr q (subToD xs ys k).1 ∧ Below w.heap.size w wr) (fun _ _ i _ _ => xs.length + 1 - (intOf i).toNat)
   case atStart => exact ⟨0, _, Nat.zero_le _, rfl, rfl, rfl, World.ownsRow_nil _ _ _ _, hV⟩
   case round =>
    obtain ⟨k, q, hk, rfl, rfl, rfl, hown, hb⟩ := hrel
    have hsz := hb.size
    obtain ⟨c, hck⟩ : ∃ c, (subToD xs ys k).2 = c := ⟨_, rfl⟩
    have bc := subToD_carry xs ys wx wy k
    rw [hck] at bc ⊢
    obtain ⟨bc0, bc1⟩ := bc
    have hrow : wr.ownsRow w.heap.size 3 1 q k ((subToD xs ys k).1.map (Value.int .i64)) := by
     have h := hown; unfold NumI at h; rw [subToD_length] at h; exact h
    have HO := Lib.hid hown
    have HC := Lib.hid hck
    have HK := Lib.hid hk
    clear hown hck
    by_cases hgo : k < xs.length
    · obtain ⟨x, hxk⟩ : ∃ x, xs.getD k 0 = x := ⟨_, rfl⟩
      obtain ⟨y, hyk⟩ : ∃ y, ys.getD k 0 = y := ⟨_, rfl⟩
      obtain ⟨bx0, bx1⟩ : 0 ≤ x ∧ x < 10000 := hxk ▸ wx.getD k
      obtain ⟨by0, by1⟩ : 0 ≤ y ∧ y < 10000 := hyk ▸ wy.getD k
      rcases lx with rfl | ⟨ba, offa, rfl, hca⟩
      · simp at hgo
      have cx := hca k hgo
      rw [hxk] at cx
      have cx0 := (hb.cell (p := ⟨ba, offa + k, none⟩) (World.block_lt_of_cell? w _ cx)).trans cx
      have ly' := ly.later hb
      have HX := Lib.hid hxk
      have HY := Lib.hid hyk
      clear hxk cx hca
      have done : ∀ (W : World) (D C : Int) (w1 : World) (v' : Value) (o : Obj), Below w.heap.size w W → wr.heap.size ≤ W.heap.size → D = (x - y + c) % 10000 → C = -((x - y + c) / 10000) → w1.ownsRow w.heap.size 3 1 v' (k + 1) ((subToD xs ys k).1.map (Value.int .i64) ++ [Value.int .i64 D]) → (W.alloc o).grownBy w1 q.ownBlock →
       ∃ (j : Nat) (p : Value), j ≤ xs.length ∧ p = v' ∧ Value.int .i64 C = .int .i64 (-(subToD xs ys j).2) ∧ Value.int .i64 ((k : Int) + 1) = .int .i64 j ∧ NumI w.heap.size w1 p (subToD xs ys j).1 ∧ Below w.heap.size w w1 := fun W D C w1 v' o hbW hsW eD eC ho hg => by
       subst eD
       subst eC
       have hown' : w1.ownsRow w.heap.size 3 1 v' ((subToD xs ys k).1.length + 1) ((subToD xs ys k).1.map (Value.int .i64) ++ [Value.int .i64 ((x - y + c) % 10000)]) := by rw [subToD_length]; exact ho
       refine ⟨k + 1, v', by omega, rfl, by simp only [subToD]; rw [HX.out, HY.out, HC.out], by go_num, ?_, ?_⟩
       · simp only [subToD]; rw [HX.out, HY.out, HC.out]
         unfold NumI
         rw [List.length_append, List.map_append]
         exact hown'
       · exact (hbW.alloc (by omega) o).grown hg (by simp; omega) (fun k hk => (HO.out.lt k hk).1)
      have DONE := Lib.hid done
      have hwr2 : ∀ nq, Below w.heap.size w (wr.drewN nq) := fun nq => ⟨hb.os, hb.tape, hb.output, hb.size, hb.block⟩
      have HWR2 := Lib.hid hwr2
      clear done hwr2
      obtain ⟨l, hl⟩ : ∃ l, -c = l := ⟨_, rfl⟩
      obtain rfl : c = -l := by omega
      rw [hl]
      clear hl
      by_cases hn : x - y - l < 0
      · have hdd : decide (x - y - l < 0) = true := decide_eq_true hn
        go_wp2
        go_quiet ((go_at_call 122; refine Calls.quiet_eq (digit_any b ys capb k y _ ?_ (by omega) HY.out); exact ly.later (HWR2.out _)))
        have hWR := HWR2.out nq
        have hsR : wr.heap.size ≤ (wr.drewN nq).heap.size := Nat.le_refl _
        have hrowR : (wr.drewN nq).ownsRow w.heap.size 3 1 q k ((subToD xs ys k).1.map (Value.int .i64)) := hrow
        generalize wr.drewN nq = WR at *
        go_wp2_with (at_builtin; refine wpList_append_own _ rfl _ _ 56 rfl w.heap.size 3 i0 (.int .i64 0) 1 8 Tryz.underlying56 hi hz0 hz1 hz2 rfl (by decide) _ _ _ rfl (hrowR.alloc _) ⟨WR.heap.size, 0, none⟩ 1 1 [.int .i64 (x - y - l + 10000)] rfl rfl (cell_one_new _ _ _) (by simp [Value.oneCell']) (by unfold maxLen; omega) (by omega) (by simp; omega) ?_; intro v' w1 hown' hgrow _)
        go_roundw
        case rel => exact DONE.out _ _ _ _ _ _ hWR hsR (by omega) (by omega) hown' hgrow
        case measure => simp [intOf]; omega
      · have hdd : decide (x - y - l < 0) = false := decide_eq_false hn
        go_wp2
        go_quiet ((go_at_call 122; refine Calls.quiet_eq (digit_any b ys capb k y _ ?_ (by omega) HY.out); exact ly.later (HWR2.out _)))
        have hWR := HWR2.out nq
        have hsR : wr.heap.size ≤ (wr.drewN nq).heap.size := Nat.le_refl _
        have hrowR : (wr.drewN nq).ownsRow w.heap.size 3 1 q k ((subToD xs ys k).1.map (Value.int .i64)) := hrow
        generalize wr.drewN nq = WR at *
        go_wp2_with (at_builtin; refine wpList_append_own _ rfl _ _ 56 rfl w.heap.size 3 i0 (.int .i64 0) 1 8 Tryz.underlying56 hi hz0 hz1 hz2 rfl (by decide) _ _ _ rfl (hrowR.alloc _) ⟨WR.heap.size, 0, none⟩ 1 1 [.int .i64 (x - y - l)] rfl rfl (cell_one_new _ _ _) (by simp [Value.oneCell']) (by unfold maxLen; omega) (by omega) (by simp; omega) ?_; intro v' w1 hown' hgrow _)
        go_roundw
        case rel => exact DONE.out _ _ _ _ _ _ hWR hsR (by omega) (by omega) hown' hgrow
        case measure => simp [intOf]; omega
    · obtain rfl : k = xs.length := by omega
      have hv := val_subD wx wy hL (by omega)
      have HV := Lib.hid hv
      clear hv
      go_wp2_with fail
      refine (trimD_num HO.out (by rw [subToD_length]; omega)).mono ?_
      rintro e w' ⟨r, rfl, hr, rfl⟩
      go_wp2_with fail
      go_ret2
      have hlen : (trim (subToD xs ys xs.length).1).length ≤ xs.length := by have h := Nat.le_trans (Nat.le_of_eq (trim_length _)) (trim_le (subToD xs ys xs.length).1); rw [subToD_length] at h; exact h
      exact ⟨_, _, rfl, hb, fun h => by omega, fun _ => ⟨rfl, trim (subToD xs ys xs.length).1, ⟨hr, (subToD_wf xs ys _).trim, trim_full _, by rw [val_trimD, HV.out]⟩, hlen⟩⟩
end
section
open Go.RowKit
theorem trimQ_any (ad : Option Addr) (xs : List Int) (cap : Nat) (w : World) (hl : LimI w ad xs) (hm : xs.length ≤ 1099511627776) (hcap : xs.length ≤ cap) :
 Calls Tryz.prog 145 #[.slice ad xs.length cap] w fun e w' => e = .returned (.slice ad (trimN xs xs.length) cap) ∧ w = w' := by
 go_enter Tryz.func145, Tryz.ntmps145
 go_wp2
 go_loop [3] (fun n => ∃ j : Nat, j ≤ xs.length ∧ n = .int .i64 j ∧ trimN xs j = trimN xs xs.length) (fun n => (intOf n).toNat)
 case atStart => exact ⟨xs.length, Nat.le_refl _, rfl, rfl⟩
 case round =>
  obtain ⟨j, hj, rfl, ht⟩ := hrel
  have HT := Lib.hid ht
  clear ht
  rcases j with _ | m
  · have h0 : trimN xs xs.length = 0 := HT.out.symm
    go_wp2
    go_ret
    exact ⟨rfl, rfl⟩
  · rcases hl with rfl | ⟨b, off, rfl, hc⟩
    · simp at hj
    · have hck := hc m (by omega)
      clear hc
      go_wp2
      · have hz : xs.getD m 0 = 0 := by
         have h : (xs[m]?.getD 0 == 0) = true := by assumption
         simpa using h
        go_round
        case rel => exact ⟨m, by omega, by go_num, by rw [← HT.out]; simp only [trimN]; rw [if_pos hz]⟩
        case measure => simp [intOf]
      · have hz : xs.getD m 0 ≠ 0 := by
         have h : (xs[m]?.getD 0 == 0) = false := by assumption
         simpa using h
        have ht : trimN xs xs.length = m + 1 := by rw [← HT.out]; simp only [trimN]; rw [if_neg hz]
        go_ret
        exact ⟨by rw [ht]; simp, rfl⟩
theorem trimQ_num {base : Nat} {v : Value} {xs : List Int} {w : World} (h : NumI base w v xs) (hm : xs.length ≤ 1099511627776) :
 Calls Tryz.prog 145 #[v] w fun e w' => ∃ u, e = .returned u ∧ NumI base w u (trim xs) ∧ w = w' := by
 obtain ⟨ad, cap, rfl, hl, hc, _, _⟩ := h.read
 exact (trimQ_any ad xs cap w hl hm hc).mono fun e w' ⟨he, hw⟩ => ⟨_, he, h.cut, hw⟩
theorem sign_le {x y : Int} : sign x y ≤ 0 ↔ x ≤ y := by unfold sign; split <;> (try split) <;> omega
theorem digitQ_any {u v : Value} {rs ys : List Int} {a b : Option Addr} {capa capb : Nat} {w : World} (h1 : ArgD w u rs a capa) (h2 : ArgD w v ys b capb) (hx : rs.length ≤ 17179869184) (hy : ys.length ≤ 17179869184)
 (hlt : valD rs < valD ys * 10000) :
 Calls Tryz.prog 146 #[u, v] w fun e w' => ∃ d : Int, e = .returned (.int .i64 d) ∧ 0 ≤ d ∧ d < 10000 ∧ valD ys * d ≤ valD rs ∧ valD rs < valD ys * (d + 1) ∧ Below w.heap.size w w' := by
 have hr0 := val_nonnegD h1.wf
 go_enter Tryz.func146, Tryz.ntmps146
 go_wp2
 go_loopw [5, 6, 7] (fun lo hi _ wr => ∃ l h : Int, lo = .int .i64 l ∧ hi = .int .i64 h ∧ 0 ≤ l ∧ l < h ∧ h ≤ 10000 ∧ valD ys * l ≤ valD rs ∧ valD rs < valD ys * h ∧ Below w.heap.size w wr) (fun lo hi _ _ => (intOf hi - intOf lo).toNat)
 case atStart => exact ⟨0, 10000, rfl, rfl, by omega, by omega, by omega, by simpa using hr0, hlt, Below.refl _ _⟩
 case round =>
  obtain ⟨l, h, rfl, rfl, hl0, hlh, hh, hlo, hhi, hb⟩ := hrel
  have hsz := hb.size
  have HLO := Lib.hid hlo
  have HHI := Lib.hid hhi
  clear hlo hhi
  by_cases hgo : 1 < h - l
  · have hq : Int.tdiv (l + h) 2 = (l + h) / 2 := Int.tdiv_eq_ediv_of_nonneg (by omega)
    obtain ⟨m, hm⟩ : ∃ m, (l + h) / 2 = m := ⟨_, rfl⟩
    rw [hm] at hq
    have hm1 : l < m := by omega
    have hm2 : m < h := by omega
    clear hm
    have A1 := h1.later hb
    have A2 := h2.later hb
    go_wp2_with fail
    refine (times_any m A2 (by omega) (by omega)).mono ?_
    rintro e w2 ⟨r2, rfl, z2, q2, n2, hb2⟩
    obtain ⟨ad2, cap2, A3⟩ := q2.arg
    have A1' := A1.later hb2
    have hs2 := hb2.size
    go_wp2_with fail
    refine (cmpD_any A3 A1' (by omega) (by omega)).mono ?_
    rintro e w3 ⟨rfl, hb3⟩
    have hB3 : Below w.heap.size w w3 := (hb.trans (hb2.mono hsz)).trans (hb3.mono (by omega))
    have hv := q2.eq
    rw [hv]
    clear A1 A2 A3 A1' hb2 hb3 q2 hv
    by_cases hle : valD ys * m ≤ valD rs
    · have hd : decide (sign (valD ys * m) (valD rs) ≤ 0) = true := decide_eq_true (sign_le.2 hle)
      have HLE := Lib.hid hle
      clear hle
      go_wp2
      go_roundw
      case rel => exact ⟨m, h, rfl, rfl, by omega, hm2, hh, HLE.out, HHI.out, hB3⟩
      case measure => simp [intOf]; omega
    · have hd : decide (sign (valD ys * m) (valD rs) ≤ 0) = false := decide_eq_false (fun h => hle (sign_le.1 h))
      have HLE := Lib.hid (Int.not_le.1 hle)
      clear hle
      go_wp2
      go_roundw
      case rel => exact ⟨l, m, rfl, rfl, hl0, hm1, by omega, HLO.out, HLE.out, hB3⟩
      case measure => simp [intOf]; omega
  · obtain rfl : h = l + 1 := by omega
    go_wp2
    go_ret
    exact ⟨l, rfl, hl0, by omega, HLO.out, HHI.out, hb⟩
end
section
open Go.RowKit
theorem sgn_num (x : Rat) : sgn (decide (x.num < 0)) (x.num.natAbs : Int) = x.num := by
 by_cases h : x.num < 0
 · rw [decide_eq_true h, sgn_neg]; omega
 · rw [decide_eq_false h, sgn_pos]; omega
theorem x_eq (x : Rat) : x = Rat.divInt x.num x.den := (Rat.num_divInt_den x).symm
theorem rat_add_same (x y : Rat) (h : decide (x.num < 0) = decide (y.num < 0)) :
 ratOf (decide (x.num < 0)) ((x.num.natAbs : Int) * (y.den : Int) + (y.num.natAbs : Int) * (x.den : Int)) ((x.den : Int) * (y.den : Int)) = x + y := by
 have e : sgn (decide (x.num < 0)) ((x.num.natAbs : Int) * (y.den : Int) + (y.num.natAbs : Int) * (x.den : Int)) = x.num * y.den + y.num * x.den := by
  have h1 := sgn_num x
  have h2 := sgn_num y
  rw [← h] at h2
  generalize decide (x.num < 0) = s at *
  generalize (x.num.natAbs : Int) = X at *
  generalize (y.num.natAbs : Int) = Y at *
  rw [← h1, ← h2]
  cases s
  · simp only [sgn_pos]
  · simp only [sgn_neg, Int.neg_mul]; omega
 unfold ratOf
 rw [e]
 conv => rhs; rw [x_eq x, x_eq y]
 rw [Rat.divInt_add_divInt _ _ (by have := den_pos' x; omega) (by have := den_pos' y; omega)]
theorem rat_add_left (x y : Rat) (h : decide (x.num < 0) ≠ decide (y.num < 0)) :
 ratOf (decide (x.num < 0)) ((x.num.natAbs : Int) * (y.den : Int) - (y.num.natAbs : Int) * (x.den : Int)) ((x.den : Int) * (y.den : Int)) = x + y := by
 have e : sgn (decide (x.num < 0)) ((x.num.natAbs : Int) * (y.den : Int) - (y.num.natAbs : Int) * (x.den : Int)) = x.num * y.den + y.num * x.den := by
  have h1 := sgn_num x
  have h2 := sgn_num y
  by_cases hx : x.num < 0
  · have hy : ¬ y.num < 0 := fun hy => h (by rw [decide_eq_true hx, decide_eq_true hy])
    rw [decide_eq_true hx, sgn_neg]
    rw [show x.num = -(x.num.natAbs : Int) by omega, show y.num = (y.num.natAbs : Int) by omega]
    simp only [Int.neg_mul, Int.natAbs_neg, Int.natAbs_natCast]; omega
  · have hy : y.num < 0 := by
     rcases Int.lt_or_le y.num 0 with k | k
     · exact k
     · exact absurd (by rw [decide_eq_false hx, decide_eq_false (by omega)]) h
    rw [decide_eq_false hx, sgn_pos]
    rw [show x.num = (x.num.natAbs : Int) by omega, show y.num = -(y.num.natAbs : Int) by omega]
    simp only [Int.neg_mul, Int.natAbs_neg, Int.natAbs_natCast]; omega
 unfold ratOf
 rw [e]
 conv => rhs; rw [x_eq x, x_eq y]
 rw [Rat.divInt_add_divInt _ _ (by have := den_pos' x; omega) (by have := den_pos' y; omega)]
theorem rat_add_right (x y : Rat) (h : decide (x.num < 0) ≠ decide (y.num < 0)) :
 ratOf (decide (y.num < 0)) ((y.num.natAbs : Int) * (x.den : Int) - (x.num.natAbs : Int) * (y.den : Int)) ((x.den : Int) * (y.den : Int)) = x + y := by
 rw [Rat.add_comm, Int.mul_comm (x.den : Int)]
 exact rat_add_left y x (Ne.symm h)
theorem rat_diff {m n r : Bool} {A B C D S : Int} (hB : 0 < B) (hD : 0 < D) (h : sgn r S = sgn m (A * D) + sgn (!n) (C * B)) : ratOf r S (B * D) = ratOf m A B - ratOf n C D := by
 rw [rat_sum hB hD h, Rat.sub_eq_add_neg]
 congr 1
 unfold ratOf
 rw [Rat.neg_divInt]
 congr 1
 cases n <;> simp [sgn]
def sgR (x : Rat) : Int := x.num.sign
theorem sgR_zero (x : Rat) : sgR x = 0 ↔ x = 0 := by unfold sgR; rw [Int.sign_eq_zero_iff_zero, Rat.num_eq_zero]
theorem sgR_divInt (a : Int) {b : Int} (hb : 0 < b) : sgR (Rat.divInt a b) = a.sign := by
 unfold sgR
 rw [Rat.num_divInt, Int.sign_eq_one_of_pos hb, Int.one_mul]
 have hg : (0 : Int) < (Int.gcd b a : Int) := gcd_pos hb
 rcases Int.lt_trichotomy a 0 with h | h | h
 · rw [Int.sign_eq_neg_one_of_neg h]
   apply Int.sign_eq_neg_one_of_neg
   have h2 := quo_pos (A := -a) (g := (Int.gcd b a : Int)) (by omega) hg (Int.dvd_neg.2 (Int.gcd_dvd_right _ _))
   rw [Int.neg_ediv_of_dvd (Int.gcd_dvd_right _ _)] at h2
   omega
 · rw [h]; simp
 · rw [Int.sign_eq_one_of_pos h]
   exact Int.sign_eq_one_of_pos (quo_pos h hg (Int.gcd_dvd_right _ _))
theorem sgR_ratOf (n : Bool) (A : Int) {B : Int} (hB : 0 < B) : sgR (ratOf n A B) = (sgn n A).sign := sgR_divInt _ hB
theorem sgn_sign (n : Bool) {A : Int} (hA : 0 ≤ A) : (sgn n A).sign = if A = 0 then 0 else if n = true then -1 else 1 := by
 by_cases h : A = 0
 · rw [if_pos h, h, sgn_zero]; rfl
 · rw [if_neg h]
   cases n with
   | false => rw [sgn_pos]; exact Int.sign_eq_one_of_pos (by omega)
   | true => rw [sgn_neg, if_pos rfl]; exact Int.sign_eq_neg_one_of_neg (by omega)
end
section
open Go.RowKit
theorem noInts2 (p : Bool) (ad : Option Addr) (n cap : Nat) : NoInts #[.bool p, .slice ad n cap] := by
 intro i k x
 match i with
 | 0 => simp
 | 1 => simp
 | _ + 2 => simp
end
section
open Go.RowKit
theorem sgn_not (q : Bool) (Y : Int) : sgn (!q) Y = -sgn q Y := by cases q <;> simp [sgn]
theorem minus_any {n : Nat} {w : World} {u v : Value} {X Y : Int} (hu : SgnQ w u X n) (hv : SgnQ w v Y n) (hn : n ≤ 2147483648) :
 Calls Tryz.prog 143 #[u, v] w fun e w' => ∃ r, e = .returned r ∧ SgnQ w' r (X - Y) (n + 1) ∧ Below w.heap.size w w' := by
 obtain ⟨p, xs, a1, c1, rfl, A, hX, hx⟩ := hu
 obtain ⟨q, ys, a2, c2, rfl, B, hY, hy⟩ := hv
 obtain ⟨W, hW⟩ : ∃ W, (((w.alloc (.cells #[.bool p, .slice a1 xs.length c1] 157)).alloc (.cells #[.bool q, .slice a2 ys.length c2] 157)).alloc (.cells #[.bool false, .slice none 0 0] 157)) = W := ⟨_, rfl⟩
 have R0 : Row W (w.heap.size) 157 #[.bool p, .slice a1 xs.length c1] := by rw [← hW]; exact (((Row.new _ _ _).alloc _).alloc _)
 have R1 : Row W (w.heap.size + 1) 157 #[.bool q, .slice a2 ys.length c2] := by rw [← hW]; have h := (Row.new (w.alloc (.cells #[.bool p, .slice a1 xs.length c1] 157)) 157 #[.bool q, .slice a2 ys.length c2]); simp only [World.size_alloc] at h; exact (h.alloc _)
 have R2 : Row W (w.heap.size + 1 + 1) 157 #[.bool false, .slice none 0 0] := by rw [← hW]; have h := (Row.new ((w.alloc (.cells #[.bool p, .slice a1 xs.length c1] 157)).alloc (.cells #[.bool q, .slice a2 ys.length c2] 157)) 157 #[.bool false, .slice none 0 0]); simp only [World.size_alloc] at h; exact h
 have hBW : Below w.heap.size w W := by rw [← hW]; exact ((((Below.refl _ _).alloc (by (try simp) <;> omega) _).alloc (by (try simp) <;> omega) _).alloc (by (try simp) <;> omega) _)
 have hsW : w.heap.size + 1 + 1 + 1 ≤ W.heap.size := by rw [← hW]; simp
 have U : SgnQ W (.agg #[.bool p, .slice a1 xs.length c1]) X n := ⟨p, xs, a1, c1, rfl, A.later hBW, hX, hx⟩
 have V : SgnQ W (.agg #[.bool !q, .slice a2 ys.length c2]) (-Y) n := ⟨!q, ys, a2, c2, rfl, B.later hBW, by rw [sgn_not, hY], hy⟩
 clear hX hY
 obtain ⟨e0, e1, _, _⟩ := R0.two
 obtain ⟨o0, o1, _, _⟩ := R1.two
 go_enter Tryz.func143, Tryz.ntmps143
 go_wp2_with fail
 refine (plus_any U V hn).mono ?_
 rintro e w2 ⟨r2, rfl, ⟨s, zs, a3, c3, rfl, A3, hZ, hz⟩, hb2⟩
 have hs2 := hb2.size
 have HZ := Lib.hid hZ
 clear e0 e1 o0 o1 hW hZ
 obtain ⟨u0, u1, g0, g1⟩ := (R2.later hb2).two
 go_wp2_with fail
 refine bodyPost_ret (v := .agg #[.bool s, .slice a3 zs.length c3]) (by simp [results, Tryz.results143, go_sem, u0, u1]) rfl ⟨_, rfl, ?_, ?_⟩
 · exact ⟨s, zs, a3, c3, rfl, A3.far (R2.later hb2) (noInts2 _ _ _ _) (kept2 _ _), by rw [HZ.out, Int.sub_eq_add_neg], hz⟩
 · exact below_set2 (hBW.trans (hb2.mono (by omega))) (by omega) _ _
theorem sign_any {n : Nat} {w : World} {u : Value} {X : Int} (hu : SgnQ w u X n) (hn : n ≤ 2147483648) :
 Calls Tryz.prog 144 #[u] w fun e w' => e = .returned (.int .i64 X.sign) ∧ Below w.heap.size w w' := by
 obtain ⟨p, xs, a1, c1, rfl, A, hX, hx⟩ := hu
 have hsg := sgn_sign p (val_nonneg A.wf)
 rw [hX] at hsg
 obtain ⟨W, hW⟩ : ∃ W, (w.alloc (.cells #[.bool p, .slice a1 xs.length c1] 157)) = W := ⟨_, rfl⟩
 have R0 : Row W (w.heap.size) 157 #[.bool p, .slice a1 xs.length c1] := by rw [← hW]; exact (Row.new _ _ _)
 have hBW : Below w.heap.size w W := by rw [← hW]; exact ((Below.refl _ _).alloc (by (try simp) <;> omega) _)
 have hsW : w.heap.size + 1 ≤ W.heap.size := by rw [← hW]; simp
 have A' := A.later hBW
 obtain ⟨e0, e1, _, _⟩ := R0.two
 have hbits := bits_res A' (by omega) (bitsN_is A.wf)
 have hbp := bits_pos A.wf
 have h0 := val_nonneg A.wf
 obtain ⟨nb, hnb⟩ : ∃ nb, bitsN xs = nb := ⟨_, rfl⟩
 rw [hnb] at hbits hbp
 clear hnb hX
 by_cases hz : val xs = 0
 · have hb0 : ((nb : Int) == 0) = true := by have : nb = 0 := by omega
                                             subst this; rfl
   rw [if_pos hz] at hsg
   have HS := Lib.hid hsg
   clear hsg hz hbp h0
   go_enter Tryz.func144, Tryz.ntmps144
   go_wp2_with fail
   refine hbits.mono ?_
   rintro e w' ⟨rfl, rfl⟩
   clear hbits
   go_wp2_with fail
   go_ret
   exact ⟨by rw [HS.out]; rfl, hBW⟩
 · have hb0 : ((nb : Int) == 0) = false := by simp; omega
   rw [if_neg hz] at hsg
   have HS := Lib.hid hsg
   clear hsg hz hbp h0
   cases p with
   | true =>
    go_enter Tryz.func144, Tryz.ntmps144
    go_wp2_with fail
    refine hbits.mono ?_
    rintro e w' ⟨rfl, rfl⟩
    clear hbits
    go_wp2_with fail
    go_ret
    exact ⟨by rw [HS.out]; rfl, hBW⟩
   | false =>
    go_enter Tryz.func144, Tryz.ntmps144
    go_wp2_with fail
    refine hbits.mono ?_
    rintro e w' ⟨rfl, rfl⟩
    clear hbits
    go_wp2_with fail
    go_ret
    exact ⟨by rw [HS.out]; rfl, hBW⟩
end
section
open Go.RowKit
theorem sgR_diff {m n : Bool} {A B C D : Int} (hB : 0 < B) (hD : 0 < D) : sgR (ratOf m A B - ratOf n C D) = (sgn m (A * D) - sgn n (C * B)).sign := by
 have h := rat_diff (m := m) (n := n) (r := false) (S := sgn m (A * D) - sgn n (C * B)) hB hD (by rw [sgn_not, sgn_pos, Int.sub_eq_add_neg])
 rw [← h, sgR_ratOf _ _ (Int.mul_pos hB hD), sgn_pos]
theorem cmpQ_any {n : Nat} {w : World} {u v : Value} {X Y : Rat} (hu : ArgQ w u X n) (hv : ArgQ w v Y n) (hn : n ≤ 16777000) :
 Calls Tryz.prog 106 #[u, v] w fun e w' => e = .returned (.int .i64 (sgR (X - Y))) ∧ Below w.heap.size w w' := by
 obtain ⟨n1, ps, qs, e1, e2, k1, k2, rfl⟩ := hu.box
 obtain ⟨n2, rs, ss, e3, e4, k3, k4, rfl⟩ := hv.box
 obtain ⟨W, hW⟩ : ∃ W, ((w.alloc (.cells #[.bool n1, .slice e1 ps.length k1, .slice e2 qs.length k2] 54)).alloc (.cells #[.bool n2, .slice e3 rs.length k3, .slice e4 ss.length k4] 54)) = W := ⟨_, rfl⟩
 have R0 : Row W (w.heap.size) 54 #[.bool n1, .slice e1 ps.length k1, .slice e2 qs.length k2] := by rw [← hW]; exact ((Row.new _ _ _).alloc _)
 have R1 : Row W (w.heap.size + 1) 54 #[.bool n2, .slice e3 rs.length k3, .slice e4 ss.length k4] := by rw [← hW]; have h := (Row.new (w.alloc (.cells #[.bool n1, .slice e1 ps.length k1, .slice e2 qs.length k2] 54)) 54 #[.bool n2, .slice e3 rs.length k3, .slice e4 ss.length k4]); simp only [World.size_alloc] at h; exact h
 have hBW : Below w.heap.size w W := by rw [← hW]; exact (((Below.refl _ _).alloc (by (try simp) <;> omega) _).alloc (by (try simp) <;> omega) _)
 have hsW : w.heap.size + 1 + 1 ≤ W.heap.size := by rw [← hW]; simp
 have hu' := (hu.later hBW).later (Below.refl _ W).drew
 have hv' := hv.later hBW
 obtain ⟨p0, p1, p2, p3, p4, p5⟩ := R0.three
 obtain ⟨o0, o1, o2, o3, o4, o5⟩ := R1.three
 have hmf : ∀ (fn : Fn) (first cap : Array Value) (w : World), (Instr.makeFunc fn first cap).run Tryz.prog w = .ok (.func fn first cap) w := fun _ _ _ _ => rfl
 go_enter Tryz.func106, Tryz.ntmps106
 go_wp2_with fail
 clear hW
 refine wp_region_noPanic ?_
 refine wp_region_held_drew (S := fun _ => True) (by kernel_rfl) trivial (fun hHeld => ?_)
 clear hHeld
 refine wpAnyH_ready (rs := [0, 2]) (by kernel_rfl) (by simp) ?_
 refine AllReadyH.cons rfl (fun K hK => ?o1_0) (AllReadyH.cons rfl (fun K hK => ?o1_2) AllReadyH.nil)
 case o1_0 =>
  go_simp
  refine hK.out _ _ trivial (fun hHeld => ?_)
  clear hK K hHeld
  try simp only [Act.put, nD, nE, nF]
  refine wpAnyH_ready (rs := [1, 2]) (by kernel_rfl) (by simp) ?_
  refine AllReadyH.cons rfl (fun K hK => ?o2_1) (AllReadyH.cons rfl (fun K hK => ?o2_2) AllReadyH.nil)
  case o2_1 =>
   go_simp
   (refine (plain_any hu' (by omega)).mono ?_)
   rintro e w1 ⟨r1, rfl, h1, hb1⟩
   have hb1d : Below W.heap.size W w1 := ⟨hb1.os, hb1.tape, hb1.output, hb1.size, hb1.block⟩
   obtain ⟨m1, xs, ds, a1, a2, c1, c2, rfl, A, B, hX, hx, hd, hB, _⟩ := h1
   have R0' := R0.later hb1d
   have R1' := R1.later hb1d
   obtain ⟨i0, i1, i2, _, _, _⟩ := R1'.three
   go_simp
   refine hK.out _ _ trivial (fun hHeld => ?_)
   clear hK K hHeld
   try simp only [Act.put, nD, nE, nF]
   refine wpAnyH_ready (rs := [2]) (by kernel_rfl) (by simp) ?_
   refine AllReadyH.cons rfl (fun K hK => ?o3_2) AllReadyH.nil
   case o3_2 =>
    go_simp
    refine hK.out _ _ trivial (fun hHeld => ?_)
    clear hK K hHeld
    try simp only [Act.put, nD, nE, nF]
    refine wpAnyH_ready (rs := [3]) (by kernel_rfl) (by simp) ?_
    refine AllReadyH.cons rfl (fun K hK => ?o4_3) AllReadyH.nil
    case o4_3 =>
     go_simp
     (refine (plain_any (hv'.later (show Below W.heap.size W w1 from hb1d)) (by omega)).mono ?_)
     rintro e w2 ⟨r2, rfl, h2, hb2⟩
     obtain ⟨m2, zs, es, a3, a4, c3, c4, rfl, C, D, hY, hz, he, hD, _⟩ := h2
     obtain ⟨t0, t1, t2, t3, t4, t5⟩ := (R0'.later hb2).three
     obtain ⟨s0, s1, s2, s3, s4, s5⟩ := (R1'.later hb2).three
     go_simp
     refine hK.out _ _ trivial (fun hHeld => ?_)
     clear hK K hHeld
     try simp only [Act.put, nD, nE, nF]
     refine wpAnyH_ready (rs := [4]) (by kernel_rfl) (by simp) ?_
     refine AllReadyH.cons rfl (fun K hK => ?o5_4) AllReadyH.nil
     case o5_4 =>
      go_simp
      refine hK.out _ _ trivial (fun hHeld => ?_)
      clear hK K hHeld
      try simp only [Act.put, nD, nE, nF]
      refine wpAnyH_ready (rs := [5]) (by kernel_rfl) (by simp) ?_
      refine AllReadyH.cons rfl (fun K hK => ?o6_5) AllReadyH.nil
      case o6_5 =>
       go_simp
       refine hK.out _ _ trivial (fun hHeld => ?_)
       clear hK K hHeld
       try simp only [Act.put, nD, nE, nF]
       refine wpAnyH_done (by kernel_rfl) ?_ _
       refine NoPanic.normal ?_
       have hs1 := hb1d.size
       have hs2 := hb2.size
       obtain ⟨V, hV⟩ : ∃ V, (((((w2.setCell ⟨w.heap.size, 0, none⟩ (.bool m1)).setCell ⟨w.heap.size, 1, none⟩ (.slice a1 xs.length c1)).setCell ⟨w.heap.size, 2, none⟩ (.slice a2 ds.length c2)).setCell ⟨w.heap.size + 1, 0, none⟩ (.bool m2)).setCell ⟨w.heap.size + 1, 1, none⟩ (.slice a3 zs.length c3)).setCell ⟨w.heap.size + 1, 2, none⟩ (.slice a4 es.length c4) = V := ⟨_, rfl⟩
       have Z0 := (R0'.later hb2)
       have Z1 := (R1'.later hb2)
       have Z1' : Row (((w2.setCell ⟨w.heap.size, 0, none⟩ (.bool m1)).setCell ⟨w.heap.size, 1, none⟩ (.slice a1 xs.length c1)).setCell ⟨w.heap.size, 2, none⟩ (.slice a2 ds.length c2)) (w.heap.size + 1) 54 #[.bool n2, .slice e3 rs.length k3, .slice e4 ss.length k4] := ((Z1.far (by simp) _).far (by simp) _).far (by simp) _
       have P0 : Row V (w.heap.size) 54 #[.bool m1, .slice a1 xs.length c1, .slice a2 ds.length c2] := by rw [← hV]; exact (((Z0.set3 _ _ _).far (by simp) _).far (by simp) _).far (by simp) _
       have P1 : Row V (w.heap.size + 1) 54 #[.bool m2, .slice a3 zs.length c3, .slice a4 es.length c4] := by rw [← hV]; exact Z1'.set3 _ _ _
       have hsV : w2.heap.size ≤ V.heap.size := by rw [← hV]; simp
       have hB2 : Below w.heap.size w V := by rw [← hV]; exact below_set3 (below_set3 ((hBW.trans (hb1d.mono (by omega))).trans (hb2.mono (by omega))) (by omega) _ _ _) (by omega) _ _ _
       have AV : Arg V (.slice a1 xs.length c1) xs a1 c1 := by rw [← hV]; exact ((A.later hb2).far Z0 (noInts3 _ _ _ _ _ _ _) (kept3 _ _ _)).far Z1' (noInts3 _ _ _ _ _ _ _) (kept3 _ _ _)
       have BV : Arg V (.slice a2 ds.length c2) ds a2 c2 := by rw [← hV]; exact ((B.later hb2).far Z0 (noInts3 _ _ _ _ _ _ _) (kept3 _ _ _)).far Z1' (noInts3 _ _ _ _ _ _ _) (kept3 _ _ _)
       have CV : Arg V (.slice a3 zs.length c3) zs a3 c3 := by rw [← hV]; exact (C.far Z0 (noInts3 _ _ _ _ _ _ _) (kept3 _ _ _)).far Z1' (noInts3 _ _ _ _ _ _ _) (kept3 _ _ _)
       have DV : Arg V (.slice a4 es.length c4) es a4 c4 := by rw [← hV]; exact (D.far Z0 (noInts3 _ _ _ _ _ _ _) (kept3 _ _ _)).far Z1' (noInts3 _ _ _ _ _ _ _) (kept3 _ _ _)
       have hfin : (sgn m1 (val xs * val es) - sgn m2 (val zs * val ds)).sign = sgR (X - Y) := by rw [← sgR_diff hB hD, hX, hY]
       have HF := Lib.hid hfin
       have mkS : ∀ X, Kept (w.heap.size + 1 + 1) V X → X.cell? ⟨w.heap.size, 0, none⟩ = some (.bool m1) ∧ X.cell? ⟨w.heap.size, 1, none⟩ = some (.slice a1 xs.length c1) ∧ X.cell? ⟨w.heap.size, 2, none⟩ = some (.slice a2 ds.length c2) ∧ X.cell? ⟨w.heap.size + 1, 0, none⟩ = some (.bool m2) ∧ X.cell? ⟨w.heap.size + 1, 1, none⟩ = some (.slice a3 zs.length c3) ∧ X.cell? ⟨w.heap.size + 1, 2, none⟩ = some (.slice a4 es.length c4) ∧ Kept (w.heap.size + 1 + 1) V X := fun X h => ⟨(P0.kept h (by omega)).cell 0, (P0.kept h (by omega)).cell 1, (P0.kept h (by omega)).cell 2, (P1.kept h (by omega)).cell 0, (P1.kept h (by omega)).cell 1, (P1.kept h (by omega)).cell 2, h⟩
       clear hfin hX hY Z0 Z1 Z1' A B C D R0 R1 R0' R1' hu hv hu' hv' hb1 hb1d hb2 hBW p0 p1 p2 p3 p4 p5 o0 o1 o2 o3 o4 o5 t0 t1 t2 t3 t4 t5 s0 s1 s2 s3 s4 s5 i0 i1 i2
       go_wp2_with fail
       (try rw [hV])
       clear hV
       go_region_held3 (fun X => X.cell? ⟨w.heap.size, 0, none⟩ = some (.bool m1) ∧ X.cell? ⟨w.heap.size, 1, none⟩ = some (.slice a1 xs.length c1) ∧ X.cell? ⟨w.heap.size, 2, none⟩ = some (.slice a2 ds.length c2) ∧ X.cell? ⟨w.heap.size + 1, 0, none⟩ = some (.bool m2) ∧ X.cell? ⟨w.heap.size + 1, 1, none⟩ = some (.slice a3 zs.length c3) ∧ X.cell? ⟨w.heap.size + 1, 2, none⟩ = some (.slice a4 es.length c4) ∧ Kept (w.heap.size + 1 + 1) V X)
        (((refine mkS _ ?_; (repeat' (first | exact Kept.refl _ _ | refine Kept.drew ?_ | refine Kept.alloc ?_ _ | refine Kept.set ?_ _ _ | refine Kept.below ?_ (by assumption))))))
        ((first
         | (go_at_call 144; refine (sign_any h5 (by omega)).mono ?_; rintro e w6 ⟨rfl, hb6⟩)
         | (go_at_call 143; refine (minus_any (h3.later hb4) h4 (by omega)).mono ?_; rintro e w5 ⟨r5, rfl, h5, hb5⟩)
         | (go_at_call 120; (with_reducible refine (over_any (m := n + 2) (CV.later hb3d) (BV.later hb3d) hz hd (by omega)).mono ?_); rintro e w4 ⟨r4, rfl, h4, hb4⟩)
         | (go_at_call 120; (with_reducible refine (over_any (m := n + 2) (AV.later (Below.refl _ V).drew) (DV.later (Below.refl _ V).drew) hx he (by omega)).mono ?_); rintro e w3 ⟨r3, rfl, h3, hb3⟩; have hb3d : Below V.heap.size V w3 := ⟨hb3.os, hb3.tape, hb3.output, hb3.size, hb3.block⟩)))
       have hs3 := hb3d.size
       have hs4 := hb4.size
       have hs5 := hb5.size
       go_wp2_with fail
       go_ret
       exact ⟨by rw [← HF.out]; rfl, (((hB2.trans (hb3d.mono (by omega))).trans (hb4.mono (by omega))).trans (hb5.mono (by omega))).trans (hb6.mono (by omega))⟩
  case o2_2 =>
   go_simp
   refine hK.out _ _ trivial (fun hHeld => ?_)
   clear hK K hHeld
   try simp only [Act.put, nD, nE, nF]
   refine wpAnyH_ready (rs := [1]) (by kernel_rfl) (by simp) ?_
   refine AllReadyH.cons rfl (fun K hK => ?o7_1) AllReadyH.nil
   case o7_1 =>
    go_simp
    (refine (plain_any hu' (by omega)).mono ?_)
    rintro e w1 ⟨r1, rfl, h1, hb1⟩
    have hb1d : Below W.heap.size W w1 := ⟨hb1.os, hb1.tape, hb1.output, hb1.size, hb1.block⟩
    obtain ⟨m1, xs, ds, a1, a2, c1, c2, rfl, A, B, hX, hx, hd, hB, _⟩ := h1
    have R0' := R0.later hb1d
    have R1' := R1.later hb1d
    obtain ⟨i0, i1, i2, _, _, _⟩ := R1'.three
    go_simp
    refine hK.out _ _ trivial (fun hHeld => ?_)
    clear hK K hHeld
    try simp only [Act.put, nD, nE, nF]
    refine wpAnyH_ready (rs := [3]) (by kernel_rfl) (by simp) ?_
    refine AllReadyH.cons rfl (fun K hK => ?o8_3) AllReadyH.nil
    case o8_3 =>
     go_simp
     (refine (plain_any (hv'.later (show Below W.heap.size W w1 from hb1d)) (by omega)).mono ?_)
     rintro e w2 ⟨r2, rfl, h2, hb2⟩
     obtain ⟨m2, zs, es, a3, a4, c3, c4, rfl, C, D, hY, hz, he, hD, _⟩ := h2
     obtain ⟨t0, t1, t2, t3, t4, t5⟩ := (R0'.later hb2).three
     obtain ⟨s0, s1, s2, s3, s4, s5⟩ := (R1'.later hb2).three
     go_simp
     refine hK.out _ _ trivial (fun hHeld => ?_)
     clear hK K hHeld
     try simp only [Act.put, nD, nE, nF]
     refine wpAnyH_ready (rs := [4]) (by kernel_rfl) (by simp) ?_
     refine AllReadyH.cons rfl (fun K hK => ?o9_4) AllReadyH.nil
     case o9_4 =>
      go_simp
      refine hK.out _ _ trivial (fun hHeld => ?_)
      clear hK K hHeld
      try simp only [Act.put, nD, nE, nF]
      refine wpAnyH_ready (rs := [5]) (by kernel_rfl) (by simp) ?_
      refine AllReadyH.cons rfl (fun K hK => ?o10_5) AllReadyH.nil
      case o10_5 =>
       go_simp
       refine hK.out _ _ trivial (fun hHeld => ?_)
       clear hK K hHeld
       try simp only [Act.put, nD, nE, nF]
       refine wpAnyH_done (by kernel_rfl) ?_ _
       refine NoPanic.normal ?_
       have hs1 := hb1d.size
       have hs2 := hb2.size
       obtain ⟨V, hV⟩ : ∃ V, (((((w2.setCell ⟨w.heap.size, 0, none⟩ (.bool m1)).setCell ⟨w.heap.size, 1, none⟩ (.slice a1 xs.length c1)).setCell ⟨w.heap.size, 2, none⟩ (.slice a2 ds.length c2)).setCell ⟨w.heap.size + 1, 0, none⟩ (.bool m2)).setCell ⟨w.heap.size + 1, 1, none⟩ (.slice a3 zs.length c3)).setCell ⟨w.heap.size + 1, 2, none⟩ (.slice a4 es.length c4) = V := ⟨_, rfl⟩
       have Z0 := (R0'.later hb2)
       have Z1 := (R1'.later hb2)
       have Z1' : Row (((w2.setCell ⟨w.heap.size, 0, none⟩ (.bool m1)).setCell ⟨w.heap.size, 1, none⟩ (.slice a1 xs.length c1)).setCell ⟨w.heap.size, 2, none⟩ (.slice a2 ds.length c2)) (w.heap.size + 1) 54 #[.bool n2, .slice e3 rs.length k3, .slice e4 ss.length k4] := ((Z1.far (by simp) _).far (by simp) _).far (by simp) _
       have P0 : Row V (w.heap.size) 54 #[.bool m1, .slice a1 xs.length c1, .slice a2 ds.length c2] := by rw [← hV]; exact (((Z0.set3 _ _ _).far (by simp) _).far (by simp) _).far (by simp) _
       have P1 : Row V (w.heap.size + 1) 54 #[.bool m2, .slice a3 zs.length c3, .slice a4 es.length c4] := by rw [← hV]; exact Z1'.set3 _ _ _
       have hsV : w2.heap.size ≤ V.heap.size := by rw [← hV]; simp
       have hB2 : Below w.heap.size w V := by rw [← hV]; exact below_set3 (below_set3 ((hBW.trans (hb1d.mono (by omega))).trans (hb2.mono (by omega))) (by omega) _ _ _) (by omega) _ _ _
       have AV : Arg V (.slice a1 xs.length c1) xs a1 c1 := by rw [← hV]; exact ((A.later hb2).far Z0 (noInts3 _ _ _ _ _ _ _) (kept3 _ _ _)).far Z1' (noInts3 _ _ _ _ _ _ _) (kept3 _ _ _)
       have BV : Arg V (.slice a2 ds.length c2) ds a2 c2 := by rw [← hV]; exact ((B.later hb2).far Z0 (noInts3 _ _ _ _ _ _ _) (kept3 _ _ _)).far Z1' (noInts3 _ _ _ _ _ _ _) (kept3 _ _ _)
       have CV : Arg V (.slice a3 zs.length c3) zs a3 c3 := by rw [← hV]; exact (C.far Z0 (noInts3 _ _ _ _ _ _ _) (kept3 _ _ _)).far Z1' (noInts3 _ _ _ _ _ _ _) (kept3 _ _ _)
       have DV : Arg V (.slice a4 es.length c4) es a4 c4 := by rw [← hV]; exact (D.far Z0 (noInts3 _ _ _ _ _ _ _) (kept3 _ _ _)).far Z1' (noInts3 _ _ _ _ _ _ _) (kept3 _ _ _)
       have hfin : (sgn m1 (val xs * val es) - sgn m2 (val zs * val ds)).sign = sgR (X - Y) := by rw [← sgR_diff hB hD, hX, hY]
       have HF := Lib.hid hfin
       have mkS : ∀ X, Kept (w.heap.size + 1 + 1) V X → X.cell? ⟨w.heap.size, 0, none⟩ = some (.bool m1) ∧ X.cell? ⟨w.heap.size, 1, none⟩ = some (.slice a1 xs.length c1) ∧ X.cell? ⟨w.heap.size, 2, none⟩ = some (.slice a2 ds.length c2) ∧ X.cell? ⟨w.heap.size + 1, 0, none⟩ = some (.bool m2) ∧ X.cell? ⟨w.heap.size + 1, 1, none⟩ = some (.slice a3 zs.length c3) ∧ X.cell? ⟨w.heap.size + 1, 2, none⟩ = some (.slice a4 es.length c4) ∧ Kept (w.heap.size + 1 + 1) V X := fun X h => ⟨(P0.kept h (by omega)).cell 0, (P0.kept h (by omega)).cell 1, (P0.kept h (by omega)).cell 2, (P1.kept h (by omega)).cell 0, (P1.kept h (by omega)).cell 1, (P1.kept h (by omega)).cell 2, h⟩
       clear hfin hX hY Z0 Z1 Z1' A B C D R0 R1 R0' R1' hu hv hu' hv' hb1 hb1d hb2 hBW p0 p1 p2 p3 p4 p5 o0 o1 o2 o3 o4 o5 t0 t1 t2 t3 t4 t5 s0 s1 s2 s3 s4 s5 i0 i1 i2
       go_wp2_with fail
       (try rw [hV])
       clear hV
       go_region_held3 (fun X => X.cell? ⟨w.heap.size, 0, none⟩ = some (.bool m1) ∧ X.cell? ⟨w.heap.size, 1, none⟩ = some (.slice a1 xs.length c1) ∧ X.cell? ⟨w.heap.size, 2, none⟩ = some (.slice a2 ds.length c2) ∧ X.cell? ⟨w.heap.size + 1, 0, none⟩ = some (.bool m2) ∧ X.cell? ⟨w.heap.size + 1, 1, none⟩ = some (.slice a3 zs.length c3) ∧ X.cell? ⟨w.heap.size + 1, 2, none⟩ = some (.slice a4 es.length c4) ∧ Kept (w.heap.size + 1 + 1) V X)
        (((refine mkS _ ?_; (repeat' (first | exact Kept.refl _ _ | refine Kept.drew ?_ | refine Kept.alloc ?_ _ | refine Kept.set ?_ _ _ | refine Kept.below ?_ (by assumption))))))
        ((first
         | (go_at_call 144; refine (sign_any h5 (by omega)).mono ?_; rintro e w6 ⟨rfl, hb6⟩)
         | (go_at_call 143; refine (minus_any (h3.later hb4) h4 (by omega)).mono ?_; rintro e w5 ⟨r5, rfl, h5, hb5⟩)
         | (go_at_call 120; (with_reducible refine (over_any (m := n + 2) (CV.later hb3d) (BV.later hb3d) hz hd (by omega)).mono ?_); rintro e w4 ⟨r4, rfl, h4, hb4⟩)
         | (go_at_call 120; (with_reducible refine (over_any (m := n + 2) (AV.later (Below.refl _ V).drew) (DV.later (Below.refl _ V).drew) hx he (by omega)).mono ?_); rintro e w3 ⟨r3, rfl, h3, hb3⟩; have hb3d : Below V.heap.size V w3 := ⟨hb3.os, hb3.tape, hb3.output, hb3.size, hb3.block⟩)))
       have hs3 := hb3d.size
       have hs4 := hb4.size
       have hs5 := hb5.size
       go_wp2_with fail
       go_ret
       exact ⟨by rw [← HF.out]; rfl, (((hB2.trans (hb3d.mono (by omega))).trans (hb4.mono (by omega))).trans (hb5.mono (by omega))).trans (hb6.mono (by omega))⟩
 case o1_2 =>
  go_simp
  refine hK.out _ _ trivial (fun hHeld => ?_)
  clear hK K hHeld
  try simp only [Act.put, nD, nE, nF]
  refine wpAnyH_ready (rs := [0]) (by kernel_rfl) (by simp) ?_
  refine AllReadyH.cons rfl (fun K hK => ?o11_0) AllReadyH.nil
  case o11_0 =>
   go_simp
   refine hK.out _ _ trivial (fun hHeld => ?_)
   clear hK K hHeld
   try simp only [Act.put, nD, nE, nF]
   refine wpAnyH_ready (rs := [1]) (by kernel_rfl) (by simp) ?_
   refine AllReadyH.cons rfl (fun K hK => ?o12_1) AllReadyH.nil
   case o12_1 =>
    go_simp
    (refine (plain_any hu' (by omega)).mono ?_)
    rintro e w1 ⟨r1, rfl, h1, hb1⟩
    have hb1d : Below W.heap.size W w1 := ⟨hb1.os, hb1.tape, hb1.output, hb1.size, hb1.block⟩
    obtain ⟨m1, xs, ds, a1, a2, c1, c2, rfl, A, B, hX, hx, hd, hB, _⟩ := h1
    have R0' := R0.later hb1d
    have R1' := R1.later hb1d
    obtain ⟨i0, i1, i2, _, _, _⟩ := R1'.three
    go_simp
    refine hK.out _ _ trivial (fun hHeld => ?_)
    clear hK K hHeld
    try simp only [Act.put, nD, nE, nF]
    refine wpAnyH_ready (rs := [3]) (by kernel_rfl) (by simp) ?_
    refine AllReadyH.cons rfl (fun K hK => ?o13_3) AllReadyH.nil
    case o13_3 =>
     go_simp
     (refine (plain_any (hv'.later (show Below W.heap.size W w1 from hb1d)) (by omega)).mono ?_)
     rintro e w2 ⟨r2, rfl, h2, hb2⟩
     obtain ⟨m2, zs, es, a3, a4, c3, c4, rfl, C, D, hY, hz, he, hD, _⟩ := h2
     obtain ⟨t0, t1, t2, t3, t4, t5⟩ := (R0'.later hb2).three
     obtain ⟨s0, s1, s2, s3, s4, s5⟩ := (R1'.later hb2).three
     go_simp
     refine hK.out _ _ trivial (fun hHeld => ?_)
     clear hK K hHeld
     try simp only [Act.put, nD, nE, nF]
     refine wpAnyH_ready (rs := [4]) (by kernel_rfl) (by simp) ?_
     refine AllReadyH.cons rfl (fun K hK => ?o14_4) AllReadyH.nil
     case o14_4 =>
      go_simp
      refine hK.out _ _ trivial (fun hHeld => ?_)
      clear hK K hHeld
      try simp only [Act.put, nD, nE, nF]
      refine wpAnyH_ready (rs := [5]) (by kernel_rfl) (by simp) ?_
      refine AllReadyH.cons rfl (fun K hK => ?o15_5) AllReadyH.nil
      case o15_5 =>
       go_simp
       refine hK.out _ _ trivial (fun hHeld => ?_)
       clear hK K hHeld
       try simp only [Act.put, nD, nE, nF]
       refine wpAnyH_done (by kernel_rfl) ?_ _
       refine NoPanic.normal ?_
       have hs1 := hb1d.size
       have hs2 := hb2.size
       obtain ⟨V, hV⟩ : ∃ V, (((((w2.setCell ⟨w.heap.size, 0, none⟩ (.bool m1)).setCell ⟨w.heap.size, 1, none⟩ (.slice a1 xs.length c1)).setCell ⟨w.heap.size, 2, none⟩ (.slice a2 ds.length c2)).setCell ⟨w.heap.size + 1, 0, none⟩ (.bool m2)).setCell ⟨w.heap.size + 1, 1, none⟩ (.slice a3 zs.length c3)).setCell ⟨w.heap.size + 1, 2, none⟩ (.slice a4 es.length c4) = V := ⟨_, rfl⟩
       have Z0 := (R0'.later hb2)
       have Z1 := (R1'.later hb2)
       have Z1' : Row (((w2.setCell ⟨w.heap.size, 0, none⟩ (.bool m1)).setCell ⟨w.heap.size, 1, none⟩ (.slice a1 xs.length c1)).setCell ⟨w.heap.size, 2, none⟩ (.slice a2 ds.length c2)) (w.heap.size + 1) 54 #[.bool n2, .slice e3 rs.length k3, .slice e4 ss.length k4] := ((Z1.far (by simp) _).far (by simp) _).far (by simp) _
       have P0 : Row V (w.heap.size) 54 #[.bool m1, .slice a1 xs.length c1, .slice a2 ds.length c2] := by rw [← hV]; exact (((Z0.set3 _ _ _).far (by simp) _).far (by simp) _).far (by simp) _
       have P1 : Row V (w.heap.size + 1) 54 #[.bool m2, .slice a3 zs.length c3, .slice a4 es.length c4] := by rw [← hV]; exact Z1'.set3 _ _ _
       have hsV : w2.heap.size ≤ V.heap.size := by rw [← hV]; simp
       have hB2 : Below w.heap.size w V := by rw [← hV]; exact below_set3 (below_set3 ((hBW.trans (hb1d.mono (by omega))).trans (hb2.mono (by omega))) (by omega) _ _ _) (by omega) _ _ _
       have AV : Arg V (.slice a1 xs.length c1) xs a1 c1 := by rw [← hV]; exact ((A.later hb2).far Z0 (noInts3 _ _ _ _ _ _ _) (kept3 _ _ _)).far Z1' (noInts3 _ _ _ _ _ _ _) (kept3 _ _ _)
       have BV : Arg V (.slice a2 ds.length c2) ds a2 c2 := by rw [← hV]; exact ((B.later hb2).far Z0 (noInts3 _ _ _ _ _ _ _) (kept3 _ _ _)).far Z1' (noInts3 _ _ _ _ _ _ _) (kept3 _ _ _)
       have CV : Arg V (.slice a3 zs.length c3) zs a3 c3 := by rw [← hV]; exact (C.far Z0 (noInts3 _ _ _ _ _ _ _) (kept3 _ _ _)).far Z1' (noInts3 _ _ _ _ _ _ _) (kept3 _ _ _)
       have DV : Arg V (.slice a4 es.length c4) es a4 c4 := by rw [← hV]; exact (D.far Z0 (noInts3 _ _ _ _ _ _ _) (kept3 _ _ _)).far Z1' (noInts3 _ _ _ _ _ _ _) (kept3 _ _ _)
       have hfin : (sgn m1 (val xs * val es) - sgn m2 (val zs * val ds)).sign = sgR (X - Y) := by rw [← sgR_diff hB hD, hX, hY]
       have HF := Lib.hid hfin
       have mkS : ∀ X, Kept (w.heap.size + 1 + 1) V X → X.cell? ⟨w.heap.size, 0, none⟩ = some (.bool m1) ∧ X.cell? ⟨w.heap.size, 1, none⟩ = some (.slice a1 xs.length c1) ∧ X.cell? ⟨w.heap.size, 2, none⟩ = some (.slice a2 ds.length c2) ∧ X.cell? ⟨w.heap.size + 1, 0, none⟩ = some (.bool m2) ∧ X.cell? ⟨w.heap.size + 1, 1, none⟩ = some (.slice a3 zs.length c3) ∧ X.cell? ⟨w.heap.size + 1, 2, none⟩ = some (.slice a4 es.length c4) ∧ Kept (w.heap.size + 1 + 1) V X := fun X h => ⟨(P0.kept h (by omega)).cell 0, (P0.kept h (by omega)).cell 1, (P0.kept h (by omega)).cell 2, (P1.kept h (by omega)).cell 0, (P1.kept h (by omega)).cell 1, (P1.kept h (by omega)).cell 2, h⟩
       clear hfin hX hY Z0 Z1 Z1' A B C D R0 R1 R0' R1' hu hv hu' hv' hb1 hb1d hb2 hBW p0 p1 p2 p3 p4 p5 o0 o1 o2 o3 o4 o5 t0 t1 t2 t3 t4 t5 s0 s1 s2 s3 s4 s5 i0 i1 i2
       go_wp2_with fail
       (try rw [hV])
       clear hV
       go_region_held3 (fun X => X.cell? ⟨w.heap.size, 0, none⟩ = some (.bool m1) ∧ X.cell? ⟨w.heap.size, 1, none⟩ = some (.slice a1 xs.length c1) ∧ X.cell? ⟨w.heap.size, 2, none⟩ = some (.slice a2 ds.length c2) ∧ X.cell? ⟨w.heap.size + 1, 0, none⟩ = some (.bool m2) ∧ X.cell? ⟨w.heap.size + 1, 1, none⟩ = some (.slice a3 zs.length c3) ∧ X.cell? ⟨w.heap.size + 1, 2, none⟩ = some (.slice a4 es.length c4) ∧ Kept (w.heap.size + 1 + 1) V X)
        (((refine mkS _ ?_; (repeat' (first | exact Kept.refl _ _ | refine Kept.drew ?_ | refine Kept.alloc ?_ _ | refine Kept.set ?_ _ _ | refine Kept.below ?_ (by assumption))))))
        ((first
         | (go_at_call 144; refine (sign_any h5 (by omega)).mono ?_; rintro e w6 ⟨rfl, hb6⟩)
         | (go_at_call 143; refine (minus_any (h3.later hb4) h4 (by omega)).mono ?_; rintro e w5 ⟨r5, rfl, h5, hb5⟩)
         | (go_at_call 120; (with_reducible refine (over_any (m := n + 2) (CV.later hb3d) (BV.later hb3d) hz hd (by omega)).mono ?_); rintro e w4 ⟨r4, rfl, h4, hb4⟩)
         | (go_at_call 120; (with_reducible refine (over_any (m := n + 2) (AV.later (Below.refl _ V).drew) (DV.later (Below.refl _ V).drew) hx he (by omega)).mono ?_); rintro e w3 ⟨r3, rfl, h3, hb3⟩; have hb3d : Below V.heap.size V w3 := ⟨hb3.os, hb3.tape, hb3.output, hb3.size, hb3.block⟩)))
       have hs3 := hb3d.size
       have hs4 := hb4.size
       have hs5 := hb5.size
       go_wp2_with fail
       go_ret
       exact ⟨by rw [← HF.out]; rfl, (((hB2.trans (hb3d.mono (by omega))).trans (hb4.mono (by omega))).trans (hb5.mono (by omega))).trans (hb6.mono (by omega))⟩
end
section
open Go.RowKit Go.Shelf
attribute [local go_sem] Oper.semAt_some
def ratsAt (es fs : List E3) {n : Nat} (x : Fin n) : Array Value := #[.agg #[(es[x.val]?.getD dfE).a, (es[x.val]?.getD dfE).b, (es[x.val]?.getD dfE).c], .agg #[(fs[x.val]?.getD dfE).a, (fs[x.val]?.getD dfE).b, (fs[x.val]?.getD dfE).c]]
end
section
open Go.RowKit
variable {F : Fence} {n : Nat} {P : Program} {ops : Array Oper} {Q : Exit → Act → World → Prop} {md : Region.Mode} {S : World → Prop} {zs : List Nat}
def YieldsIfF (P : Program) (ops : Array Oper) (S : World → Prop) (o : Oper) (v : Value) (a : Act) : Prop := YieldsIf P ops S o v a ∧ ∀ w, o.about P w a.eval = none
theorem YieldsIfF.wpOpIn {i : Nat} {o : Oper} {v : Value} {a : Act} (hro : F.round = none) (hi : ops[i]? = some o) (hy : YieldsIfF P ops S o v a)
 {K : Act → World → Prop} {w : World} (hS : S w) (h : K (a.put o.dst v) w) : wpOpIn F n P ops Q i K a w := by
 unfold Go.wpOpIn
 simp only [hi]
 have hab : ∀ f, o.about P w a.eval = some f → F.fn f := fun f hf => by rw [hy.2 w] at hf; cases hf
 rcases hy.1 with ⟨hw, hv⟩ | ⟨hw, rfl⟩
 · simp only [hw, if_true, Oper.wpIn, hro, Oper.semAt_none, hv w hS, Oper.uponIn]; exact ⟨hab, h⟩
 · simp only [hw, Bool.false_eq_true, if_false]; exact ⟨hab, h⟩
theorem YieldsIfF.of_same {o : Oper} {v : Value} {a a' : Act} (hy : YieldsIfF P ops S o v a) (he : execOp a'.eval o = execOp a.eval o)
 (hw : Region.wanted o (yielded ops a'.tmps) = Region.wanted o (yielded ops a.tmps)) (hb : ∀ w, o.about P w a'.eval = o.about P w a.eval) : YieldsIfF P ops S o v a' :=
 ⟨hy.1.of_same he hw, fun w => by rw [hb w]; exact hy.2 w⟩
theorem wpOpIn_putIf {j : Nat} {oi oj : Oper} {v : Value} (hro : F.round = none) (hj : ops[j]? = some oj) (hap : oi.apart ops oj = true)
 (hsi : ∀ cs b, oi.op ≠ .select cs b) (hsj : ∀ cs b, oj.op ≠ .select cs b)
 (hQ : ∀ c a w, Q (.panic c) (a.put oi.dst v) w → Q (.panic c) a w) {K : Act → World → Prop} {a : Act} {w : World}
 (hy : YieldsIfF P ops S oi v a) (h : wpOpIn F n P ops Q j K (a.put oi.dst v) w) :
 wpOpIn F n P ops Q j (fun a' w' => YieldsIfF P ops S oi v a' ∧ K (a'.put oi.dst v) w') a w := by
 obtain ⟨h1, h2, h3⟩ := Oper.apart_spec hap
 have keep : ∀ (a : Act), YieldsIfF P ops S oi v a → ∀ u, YieldsIfF P ops S oi v (a.put oj.dst u) := fun a hy u =>
  hy.of_same (execOp_put oi hsi a oj.dst u h3) (wanted_put oi a oj.dst u h3) (fun w => about_put oi w a oj.dst u h3)
 have keepD : ∀ d, YieldsIfF P ops S oi v { a with defers := d :: a.defers } := fun d => hy.of_same rfl rfl (fun _ => rfl)
 unfold wpOpIn at *
 simp only [hj] at *
 rw [wanted_put oj a oi.dst v h1, about_put oj w a oi.dst v h1] at h
 split
 · rename_i hw
   simp only [hw, if_true] at h
   unfold Oper.wpIn at *
   rw [about_put oj w a oi.dst v h1] at h
   refine ⟨h.1, ?_⟩
   have h := h.2
   rw [hro, Oper.semAt_none, execOp_put oj hsj a oi.dst v h1] at h
   rw [hro, Oper.semAt_none]
   generalize (execOp a.eval oj).run P w = r at *
   cases r with
   | ok x w' =>
    cases x <;> simp only [Oper.uponIn] at h ⊢
    case value u => exact ⟨keep a hy u, by rw [← Act.put_comm a v u h2]; exact h⟩
    case skip => exact ⟨keep a hy _, by rw [← Act.put_comm a v undef h2]; exact h⟩
    case defer d =>
     refine ⟨keep _ (keepD d) _, ?_⟩
     rw [← Act.put_comm _ v undef h2, ← Act.put_defers]
     exact h
    case enter f args =>
     refine ⟨h.1, CallsIn.mono h.2 fun e w'' he => ?_⟩
     cases e with
     | returned u => exact ⟨keep a hy u, by rw [← Act.put_comm a v u h2]; exact he⟩
     | panicked c => exact hQ _ _ _ he
     | outgrown => exact he
    case row row args => exact ⟨h.1, RowsIn.mono h.2 fun u w'' he => ⟨keep a hy u, by rw [← Act.put_comm a v u h2]; exact he⟩⟩
    case round l f tmps assign body =>
     refine ⟨h.1, RoundIn.mono h.2 fun e w'' he => ?_⟩
     cases e with
     | returned u => exact ⟨keep a hy u, by rw [← Act.put_comm a v u h2]; exact he⟩
     | panicked c => exact hQ _ _ _ he
     | outgrown => exact he
   | halt x w' =>
    cases x <;> simp only [Oper.uponIn] at h ⊢
    case panic u => exact hQ _ _ _ h
 · rename_i hw
   simp only [hw] at h
   exact ⟨h.1, keep a hy _, by rw [← Act.put_comm a v undef h2]; exact h.2⟩
def wpAnyInL (F : Fence) (n : Nat) (P : Program) (md : Region.Mode) (ops : Array Oper) (Q : Exit → Act → World → Prop) (S : World → Prop) (zs : List Nat) : Nat → Array Bool → Act → World → Prop
 | 0, listed, a, w => Region.ready md ops listed = [] ∧ Q .normal a w
 | fuel + 1, listed, a, w =>
  (Region.ready md ops listed = [] → Q .normal a w) ∧
  ∀ i ∈ Region.ready md ops listed, wpOpIn F n P ops Q i (fun a' w' => (i ∉ zs → S w') ∧ wpAnyInL F n P md ops Q S zs fuel (listed.setIfInBounds i true) a' w') a w
theorem wpAnyIn_of_L : ∀ (fuel : Nat) (listed : Array Bool) (a : Act) (w : World), wpAnyInL F n P md ops Q S zs fuel listed a w → wpAnyIn F n P md ops Q fuel listed a w
 | 0, _, _, _, h => h
 | fuel + 1, _, _, _, h => ⟨h.1, fun i hi => wpOpIn_mono (fun a' w' h' => wpAnyIn_of_L fuel _ a' w' h'.2) (h.2 i hi)⟩
def chainB (md : Region.Mode) (ops : Array Oper) (i : Nat) (ch : List Nat) : Bool := ch.all fun c => (i :: ch).any fun p => waitsB md ops c p
theorem chain_spec {i : Nat} {ch : List Nat} (h : chainB md ops i ch = true) : ∀ c ∈ ch, ∃ p, (p = i ∨ p ∈ ch) ∧ ∀ o, ops[c]? = some o → ∃ e ∈ o.after, Region.binds md e = true ∧ e.on = p := fun c hc => by
 have h1 := List.all_eq_true.1 h c hc
 obtain ⟨p, hp, h2⟩ := List.any_eq_true.1 h1
 exact ⟨p, List.mem_cons.1 hp, waits_spec h2⟩
theorem wpAnyInL_first {i : Nat} {oi : Oper} {v : Value} {ch : List Nat} (hro : F.round = none) (hi : ops[i]? = some oi) (hsel : ∀ (j : Nat) (o : Oper) cs b, ops[j]? = some o → o.op ≠ .select cs b)
 (hQ : ∀ c a w, Q (.panic c) (a.put oi.dst v) w → Q (.panic c) a w) (hch : ∀ c ∈ ch, ∃ p, (p = i ∨ p ∈ ch) ∧ ∀ o, ops[c]? = some o → ∃ e ∈ o.after, Region.binds md e = true ∧ e.on = p) (hzs : ∀ z ∈ zs, z ∈ ch) :
 ∀ (fuel : Nat) (listed : Array Bool) (a : Act) (w : World),
  (∀ j oj, ops[j]? = some oj → j ≠ i → listed.getD j true = false → (∀ e ∈ oj.after, Region.binds md e = true → e.on ≠ i) → oi.apart ops oj = true) →
  (∀ c ∈ ch, listed.getD c true = false) →
  i ∈ Region.ready md ops listed → YieldsIfF P ops S oi v a → S w →
  wpAnyInL F n P md ops Q S zs fuel (listed.setIfInBounds i true) (a.put oi.dst v) w → wpAnyInL F n P md ops Q S zs (fuel + 1) listed a w := by
 intro fuel
 induction fuel with
 | zero =>
  intro listed a w _ _ hr hy hS H
  refine ⟨fun h => (by rw [h] at hr; cases hr), fun j hj => ?_⟩
  by_cases hji : j = i
  · subst hji; exact hy.wpOpIn hro hi hS ⟨fun _ => hS, H⟩
  · have := ready_mono hj hji
    rw [H.1] at this
    cases this
 | succ fuel ih =>
  intro listed a w hfree hun0 hr hy hS H
  refine ⟨fun h => (by rw [h] at hr; cases hr), fun j hj => ?_⟩
  by_cases hji : j = i
  · subst hji; exact hy.wpOpIn hro hi hS ⟨fun _ => hS, H⟩
  · have h1 := H.2 j (ready_mono hj hji)
    obtain ⟨hjun, oj, hoj, hall⟩ := mem_ready.1 hj
    have hwait : ∀ p, listed.getD p true = false → ∀ e ∈ oj.after, Region.binds md e = true → e.on ≠ p := fun p h0 e he hb heq => by
     have h1 := hall e he hb
     rw [heq] at h1
     rcases Nat.lt_or_ge p listed.size with h' | h'
     · simp [h'] at h0 h1; rw [h0] at h1; cases h1
     · simp [Array.getElem?_eq_none h'] at h1
    have hnot : ∀ e ∈ oj.after, Region.binds md e = true → e.on ≠ i := hwait i (mem_ready.1 hr).1
    have hjc : j ∉ ch := fun hc => by
     obtain ⟨p, hp, hw⟩ := hch j hc
     obtain ⟨e, he, hb, hon⟩ := hw oj hoj
     rcases hp with rfl | hp
     · exact hnot e he hb hon
     · exact hwait p (hun0 p hp) e he hb hon
    have hjz : j ∉ zs := fun h => hjc (hzs j h)
    have h2 := wpOpIn_putIf hro hoj (hfree j oj hoj hji hjun hnot) (fun cs b => hsel i oi cs b hi) (fun cs b => hsel j oj cs b hoj) hQ hy h1
    have hfree' : ∀ k ok, ops[k]? = some ok → k ≠ i → (listed.setIfInBounds j true).getD k true = false →
     (∀ e ∈ ok.after, Region.binds md e = true → e.on ≠ i) → oi.apart ops ok = true := fun k ok hk hki hun hno => by
     refine hfree k ok hk hki ?_ hno
     by_cases hjk : j = k
     · subst hjk; exact hjun
     · rw [Go.getD_set_ne true hjk] at hun; exact hun
    have hun' : ∀ c ∈ ch, (listed.setIfInBounds j true).getD c true = false := fun c hc => by
     rw [Go.getD_set_ne true (fun e => hjc (by subst e; exact hc))]
     exact hun0 c hc
    refine wpOpIn_mono (fun a' w' h3 => ⟨fun _ => h3.2.1 hjz, ih (listed.setIfInBounds j true) a' w' hfree' hun' (ready_mono hr (Ne.symm hji)) h3.1 (h3.2.1 hjz) ?_⟩) h2
    rw [Array.setIfInBounds_comm _ _ hji]
    exact h3.2.2
theorem wpAnyInL_take {i : Nat} {oi : Oper} {v : Value} {fuel : Nat} {listed : Array Bool} {a : Act} {w : World} (ch : List Nat) (hro : F.round = none) (hi : ops[i]? = some oi)
 (hs : Region.noSelect ops = true) (hf : Region.free md ops listed i = true) (hr : (Region.ready md ops listed).contains i = true) (hc : chainB md ops i ch = true) (hu : (ch.all fun c => !(listed.getD c true)) = true) (hzs : (zs.all fun z => ch.contains z) = true)
 (hQ : ∀ c a w, Q (.panic c) (a.put oi.dst v) w → Q (.panic c) a w) (hy : YieldsIf P ops S oi v a) (hab : ∀ w, oi.about P w a.eval = none) (hS : S w)
 (h : wpAnyInL F n P md ops Q S zs fuel (listed.setIfInBounds i true) (a.put oi.dst v) w) : wpAnyInL F n P md ops Q S zs (fuel + 1) listed a w :=
 wpAnyInL_first hro hi (Region.noSelect_spec hs) hQ (chain_spec hc) (fun z hz => by simpa using List.all_eq_true.1 hzs z hz) fuel listed a w (Region.free_spec hi hf) (fun c hcc => by simpa using List.all_eq_true.1 hu c hcc) (by simpa using hr) ⟨hy, hab⟩ hS h
theorem wpAnyInL_one {i : Nat} {o : Oper} {fuel : Nat} {listed : Array Bool} {a : Act} {w : World} (hr : Region.ready md ops listed = [i]) (ho : ops[i]? = some o)
 (h : ∀ K' : Act → World → Prop, Shut (∀ a w, (i ∉ zs → S w) → ((i ∉ zs → S w) → wpAnyInL F n P md ops Q S zs fuel (listed.setIfInBounds i true) a w) → K' a w) → if Region.wanted o (yielded ops a.tmps) = true then Oper.wpIn F n P o a w K' Q else (∀ f, o.about P w a.eval = some f → F.fn f) ∧ K' (a.put o.dst undef) w) :
 wpAnyInL F n P md ops Q S zs (fuel + 1) listed a w := by
 refine ⟨fun h0 => (by rw [hr] at h0; cases h0), fun j hj => ?_⟩
 rw [hr, List.mem_singleton] at hj
 subst hj
 exact wpOpIn_step ho (fun K' hK => h K' (fun a w hS hW => hK a w ⟨hS, hW hS⟩))
theorem wpAnyInL_done {listed : Array Bool} {a : Act} {w : World} (hr : Region.ready md ops listed = []) (h : Q .normal a w) :
 ∀ fuel, wpAnyInL F n P md ops Q S zs fuel listed a w
 | 0 => ⟨hr, h⟩
 | _ + 1 => ⟨fun _ => h, by rw [hr]; simp⟩
theorem wpIn_region_L {id : Nat} {a : Act} {w : World} (S : World → Prop) (zs : List Nat) (hm : P.follows .mixedOrders = true) (hS : S w.drew)
 (h : S w.drew → wpAnyInL F n P .any ops Q S zs ops.size (Array.replicate ops.size false) a w.drew) : (Code.region id ops true).wpIn F n P Q a w :=
 wpIn_region_any hm (wpAnyIn_of_L _ _ _ _ (h hS))
end
section
open Go.RowKit Go.Shelf
attribute [local go_sem] Oper.semAt_some
theorem besideQ_in (n l Bs n₀ : Nat) (a1 a2 : Option Addr) (es fs : List E3) (cap1 cap2 : Nat) (hm : es.length ≤ 1000000000000) (hlen : fs.length = es.length) (J Jx : List (Fin es.length) → World → Prop)
 (hJ : ∀ pre A B, J pre A → Below A.heap.size A B → J pre B)
 (hY : ∀ pre x W, J pre W → pre.length < es.length → YieldAt Fence.wide (n - 1) Tryz.prog l (ratsAt es fs x) W fun e W' =>
  (e = .returned (.bool true) ∧ J (pre ++ [x]) W' ∧ KpS n₀ (Bs + 1) W W') ∨ (e = .returned (.bool false) ∧ Jx (pre ++ [x]) W'))
 (W : World) (hn₀ : Bs + 1 < W.heap.size) (hW₀ : n₀ ≤ W.heap.size) (hB1 : W.cell? ⟨Bs, 0, none⟩ = some (.slice a1 es.length cap1)) (hB2 : W.cell? ⟨Bs + 1, 0, none⟩ = some (.slice a2 fs.length cap2)) (hl1 : LimE W a1 es n₀) (hl2 : LimE W a2 fs n₀) (hsh1 : ShE es) (hsh2 : ShE fs) (h0 : J [] W) :
 CallsIn Fence.wide n Tryz.prog 105 #[.func (.yield l) #[] #[], .pointer (some ⟨Bs, 0, none⟩), .pointer (some ⟨Bs + 1, 0, none⟩)] W fun e W' => (∃ v, e = .returned v) ∧
  ((∃ ys, Upto ys es.length ∧ J ys W') ∨ (∃ pre, (∃ k, k ≤ es.length ∧ Upto pre k) ∧ Jx pre W')) := by
 refine callsIn_of_wp Tryz.func105 rfl trivial ?_ rfl
 simp only [Tryz.ntmps105, List.size_toArray, List.length_cons, List.length_nil, Nat.reduceAdd, Nat.reduceSub, Array.replicate_succ, Array.replicate_zero, List.push_toArray, List.append_toArray, List.nil_append, List.cons_append]
 gi_wp2_with fail
 gi_loopw [4, 5, 8] (fun _ _ i wr => ∃ (k : Nat) (pre : List (Fin es.length)), k ≤ es.length ∧ i = .int .i64 k ∧ Upto pre k ∧ J pre wr ∧ KpS n₀ (Bs + 1) W wr)
  (fun _ _ i _ => es.length - (intOf i).toNat)
 case atStart => exact ⟨0, [], Nat.zero_le _, rfl, rfl, h0, KpS.refl _ _ _⟩
 case round =>
  obtain ⟨k, pre, hk, rfl, hup, hJs, hnx⟩ := hrel
  by_cases hlt : k < es.length
  · obtain ⟨b, o, rfl, c0, c1, c2⟩ := (hl1.below hnx.below).cells hlt
    obtain ⟨b', o', rfl, e0, e1, e2⟩ := (hl2.below hnx.below).cells (k := k) (by omega)
    have hB2' := (World.cell?_of_block (a := ⟨Bs + 1, 0, none⟩) hnx.box).trans hB2
    have hsz := hnx.below.size
    obtain ⟨z1, z2, z3, z4, z5, z6, z7, he⟩ := hsh1 k hlt
    obtain ⟨y1, y2, y3, y4, y5, y6, y7, hf⟩ := hsh2 k (by omega)
    obtain ⟨W2, hW2⟩ : ∃ W2, wr.alloc (.cells #[(es[k]?.getD dfE).a, (es[k]?.getD dfE).b, (es[k]?.getD dfE).c] 54) = W2 := ⟨_, rfl⟩
    have hb2 : Below wr.heap.size wr W2 := by rw [← hW2]; exact (Below.refl _ _).alloc (Nat.le_refl _) _
    have R2 : Row W2 wr.heap.size 54 #[(es[k]?.getD dfE).a, (es[k]?.getD dfE).b, (es[k]?.getD dfE).c] := by rw [← hW2]; exact Row.new _ _ _
    obtain ⟨d0, d1, d2, _, _, _⟩ := R2.three
    have hY2 := hY pre ⟨k, hlt⟩ W2.drew (hJ _ _ _ hJs hb2.drew) (by rw [hup.length]; exact hlt)
    obtain ⟨fn, tmps, assign, body, hy, hR⟩ := hY2
    have hnx2 : KpS n₀ (Bs + 1) W W2.drew := hnx.trans ⟨(hb2.mono (by omega)).drew, hb2.block (Bs + 1) (by omega)⟩
    simp only [ratsAt] at hy
    have f0 := (hb2.cell (p := ⟨b', o' + k * 3, none⟩) (World.block_lt_of_cell? wr _ e0)).trans e0
    have f1 := (hb2.cell (p := ⟨b', o' + k * 3 + 1, none⟩) (World.block_lt_of_cell? wr _ e1)).trans e1
    have f2 := (hb2.cell (p := ⟨b', o' + k * 3 + 2, none⟩) (World.block_lt_of_cell? wr _ e2)).trans e2
    have g2 := (hb2.cell (p := ⟨Bs + 1, 0, none⟩) (World.block_lt_of_cell? wr _ hB2')).trans hB2'
    rw [he] at hy c0 c1 c2 hW2 d0 d1 d2
    rw [hf] at hy e0 e1 e2 f0 f1 f2
    simp only at hy
    have hfl : fs.length = es.length := hlen
    rw [hfl] at g2
    have HJ := Lib.hid hJ
    have HY := Lib.hid hY
    have hkI : (k : Int) < (es.length : Int) := by omega
    clear hJ hY hl1 hl2 he hf R2 hsh1 hsh2 hlen
    gi_wp2_with fail
    refine wpIn_region_L (fun X => X.cell? ⟨wr.heap.size, 0, none⟩ = some (.bool z1) ∧ X.cell? ⟨wr.heap.size, 1, none⟩ = some (.slice z2 z3 z4) ∧ X.cell? ⟨wr.heap.size, 2, none⟩ = some (.slice z5 z6 z7) ∧
     X.cell? ⟨Bs + 1, 0, none⟩ = some (.slice (some ⟨b', o', none⟩) es.length cap2) ∧ X.cell? ⟨b', o' + k * 3, none⟩ = some (.bool y1) ∧ X.cell? ⟨b', o' + k * 3 + 1, none⟩ = some (.slice y2 y3 y4) ∧ X.cell? ⟨b', o' + k * 3 + 2, none⟩ = some (.slice y5 y6 y7)) [6, 7] (by kernel_rfl)
     ⟨d0, d1, d2, g2, f0, f1, f2⟩ (fun hHeld => ?_)
    refine wpAnyInL_take (i := 0) (v := ?va0) [6, 7] rfl rfl (by kernel_rfl) (by kernel_rfl) (by kernel_rfl) (by kernel_rfl) (by kernel_rfl) (by kernel_rfl) (fun _ _ _ h => h) (Or.inl ⟨by rfl, ?ha0⟩) (fun _ => rfl) (by assumption) ?ra0
    case ha0 =>
     intro w hSw
     try dsimp only at hSw
     go_simp
     try with_reducible rfl
    try simp only [Act.put, nD, nE, nF]
    refine wpAnyInL_take (i := 1) (v := ?va1) [6, 7] rfl rfl (by kernel_rfl) (by kernel_rfl) (by kernel_rfl) (by kernel_rfl) (by kernel_rfl) (by kernel_rfl) (fun _ _ _ h => h) (Or.inl ⟨by rfl, ?ha1⟩) (fun _ => rfl) (by assumption) ?ra1
    case ha1 =>
     intro w hSw
     try dsimp only at hSw
     go_simp
     try with_reducible rfl
    try simp only [Act.put, nD, nE, nF]
    refine wpAnyInL_take (i := 2) (v := ?va2) [4, 5, 6, 7] rfl rfl (by kernel_rfl) (by kernel_rfl) (by kernel_rfl) (by kernel_rfl) (by kernel_rfl) (by kernel_rfl) (fun _ _ _ h => h) (Or.inl ⟨by rfl, ?ha2⟩) (fun _ => rfl) (by assumption) ?ra2
    case ha2 =>
     intro w hSw
     try dsimp only at hSw
     go_simp
     try with_reducible rfl
    try simp only [Act.put, nD, nE, nF]
    refine wpAnyInL_take (i := 3) (v := ?va3) [4, 5, 6, 7] rfl rfl (by kernel_rfl) (by kernel_rfl) (by kernel_rfl) (by kernel_rfl) (by kernel_rfl) (by kernel_rfl) (fun _ _ _ h => h) (Or.inl ⟨by rfl, ?ha3⟩) (fun _ => rfl) (by assumption) ?ra3
    case ha3 =>
     intro w hSw
     try dsimp only at hSw
     go_simp
     try with_reducible rfl
    try simp only [Act.put, nD, nE, nF]
    refine wpAnyInL_take (i := 4) (v := ?va4) [5, 6, 7] rfl rfl (by kernel_rfl) (by kernel_rfl) (by kernel_rfl) (by kernel_rfl) (by kernel_rfl) (by kernel_rfl) (fun _ _ _ h => h) (Or.inl ⟨by rfl, ?ha4⟩) (fun _ => rfl) (by assumption) ?ra4
    case ha4 =>
     intro w hSw
     try dsimp only at hSw
     go_simp
     try with_reducible rfl
    try simp only [Act.put, nD, nE, nF]
    refine wpAnyInL_take (i := 5) (v := ?va5) [6, 7] rfl rfl (by kernel_rfl) (by kernel_rfl) (by kernel_rfl) (by kernel_rfl) (by kernel_rfl) (by kernel_rfl) (fun _ _ _ h => h) (Or.inl ⟨by rfl, ?ha5⟩) (fun _ => rfl) (by assumption) ?ra5
    case ha5 =>
     intro w hSw
     try dsimp only at hSw
     go_simp
     try with_reducible rfl
    try simp only [Act.put, nD, nE, nF]
    refine wpAnyInL_one (i := 6) (by kernel_rfl) rfl (fun K hK => ?sb6)
    go_simp
    refine ⟨(fun h => by cases h), hR.mono ?_⟩
    rintro e W3 (⟨rfl, hJ3, hk3⟩ | ⟨rfl, hJx3⟩)
    · refine hK.out _ _ (fun h => absurd (by decide) h) (fun _ => ?mb6)
      clear hK K
      try simp only [Act.put, nD, nE, nF]
      refine wpAnyInL_one (i := 7) (by kernel_rfl) rfl (fun K hK => ?sb7)
      go_simp
      refine hK.out _ _ (fun h => absurd (by decide) h) (fun _ => ?mb7)
      clear hK K
      try simp only [Act.put, nD, nE, nF]
      refine wpAnyInL_done (by kernel_rfl) ?_ _
      gi_wp2
      go_roundw
      case rel => exact ⟨k + 1, _, by omega, by go_num, hup.snoc hlt, hJ3, hnx2.trans hk3⟩
      case measure => simp [intOf]; omega
    · refine hK.out _ _ (fun h => absurd (by decide) h) (fun _ => ?mc6)
      clear hK K
      try simp only [Act.put, nD, nE, nF]
      refine wpAnyInL_one (i := 7) (by kernel_rfl) rfl (fun K hK => ?sc7)
      go_simp
      refine hK.out _ _ (fun h => absurd (by decide) h) (fun _ => ?mc7)
      clear hK K
      try simp only [Act.put, nD, nE, nF]
      refine wpAnyInL_done (by kernel_rfl) ?_ _
      gi_wp2
      refine bodyPost_ret (results_none rfl _ _ _) rfl ?_
      exact ⟨⟨_, rfl⟩, .inr ⟨_, ⟨k + 1, by omega, hup.snoc hlt⟩, hJx3⟩⟩
  · obtain rfl : k = es.length := by omega
    gi_wp2
    go_end0
    exact ⟨⟨_, rfl⟩, .inl ⟨_, hup, hJs⟩⟩
theorem besideQ_stops (n Bs n₀ : Nat) (a1 a2 : Option Addr) (es fs : List E3) (cap1 cap2 : Nat) (hm : es.length ≤ 1000000000000) (hlen : fs.length = es.length) (w : World) (hn₀ : Bs + 1 < w.heap.size) (hw : n₀ ≤ w.heap.size)
 (hB1 : w.cell? ⟨Bs, 0, none⟩ = some (.slice a1 es.length cap1)) (hB2 : w.cell? ⟨Bs + 1, 0, none⟩ = some (.slice a2 fs.length cap2)) (hl1 : LimE w a1 es n₀) (hl2 : LimE w a2 fs n₀) (hsh1 : ShE es) (hsh2 : ShE fs) :
 SeqStopsK Fence.wide n Tryz.prog 105 #[.pointer (some ⟨Bs, 0, none⟩), .pointer (some ⟨Bs + 1, 0, none⟩)] (ratsAt es fs (n := es.length)) (KpS n₀ (Bs + 1)) (fun ys => Upto ys es.length) (fun pre => ∃ k, k ≤ es.length ∧ Upto pre k) es.length w := fun l J Jx W hW hJ _ hY h0 =>
 besideQ_in n l Bs n₀ a1 a2 es fs cap1 cap2 hm hlen J Jx (fun pre A B hj hb => hJ pre A B none hj ⟨hb.os, hb.tape, hb.output, hb.size, fun k hk _ => hb.block k hk⟩ (fun _ h => by cases h)) hY W (Nat.lt_of_lt_of_le hn₀ hW.size) (Nat.le_trans hw hW.size) ((hW.cell (p := ⟨Bs, 0, none⟩) (by show Bs < w.heap.size; omega)).trans hB1) ((hW.cell (p := ⟨Bs + 1, 0, none⟩) (by show Bs + 1 < w.heap.size; omega)).trans hB2) (hl1.below (hW.mono hw)) (hl2.below (hW.mono hw)) hsh1 hsh2 h0
end
section
open Go.RowKit Go.Shelf
attribute [local go_sem] Oper.semAt_some
theorem pairsQ_in (n l Bs n₀ : Nat) (a1 a2 : Option Addr) (es fs : List E3) (cap1 cap2 : Nat) (hm : es.length ≤ 1000000000000) (hlen : fs.length = es.length) (J Jx : List (Fin es.length) → World → Prop)
 (hJ : ∀ pre A B, J pre A → Below A.heap.size A B → J pre B)
 (hY : ∀ pre x W, J pre W → pre.length < es.length → YieldAt Fence.wide (n - 1) Tryz.prog l (ratsAt es fs x) W fun e W' =>
  (e = .returned (.bool true) ∧ J (pre ++ [x]) W' ∧ KpS n₀ (Bs + 1) W W') ∨ (e = .returned (.bool false) ∧ Jx (pre ++ [x]) W'))
 (W : World) (hn₀ : Bs + 1 < W.heap.size) (hW₀ : n₀ ≤ W.heap.size) (hB1 : W.cell? ⟨Bs, 0, none⟩ = some (.slice a1 es.length cap1)) (hB2 : W.cell? ⟨Bs + 1, 0, none⟩ = some (.slice a2 fs.length cap2)) (hl1 : LimE W a1 es n₀) (hl2 : LimE W a2 fs n₀) (hsh1 : ShE es) (hsh2 : ShE fs) (h0 : J [] W) :
 CallsIn Fence.wide n Tryz.prog 167 #[.func (.yield l) #[] #[], .pointer (some ⟨Bs, 0, none⟩), .pointer (some ⟨Bs + 1, 0, none⟩)] W fun e W' => (∃ v, e = .returned v) ∧
  ((∃ ys, Upto ys es.length ∧ J ys W') ∨ (∃ pre, (∃ k, k ≤ es.length ∧ Upto pre k) ∧ Jx pre W')) := by
 refine callsIn_of_wp Tryz.func167 rfl trivial ?_ rfl
 simp only [Tryz.ntmps167, List.size_toArray, List.length_cons, List.length_nil, Nat.reduceAdd, Nat.reduceSub, Array.replicate_succ, Array.replicate_zero, List.push_toArray, List.append_toArray, List.nil_append, List.cons_append]
 gi_wp2_with fail
 gi_loopw [4, 5, 8] (fun _ _ i wr => ∃ (k : Nat) (pre : List (Fin es.length)), k ≤ es.length ∧ i = .int .i64 k ∧ Upto pre k ∧ J pre wr ∧ KpS n₀ (Bs + 1) W wr)
  (fun _ _ i _ => es.length - (intOf i).toNat)
 case atStart => exact ⟨0, [], Nat.zero_le _, rfl, rfl, h0, KpS.refl _ _ _⟩
 case round =>
  obtain ⟨k, pre, hk, rfl, hup, hJs, hnx⟩ := hrel
  by_cases hlt : k < es.length
  · obtain ⟨b, o, rfl, c0, c1, c2⟩ := (hl1.below hnx.below).cells hlt
    obtain ⟨b', o', rfl, e0, e1, e2⟩ := (hl2.below hnx.below).cells (k := k) (by omega)
    have hB2' := (World.cell?_of_block (a := ⟨Bs + 1, 0, none⟩) hnx.box).trans hB2
    have hsz := hnx.below.size
    obtain ⟨z1, z2, z3, z4, z5, z6, z7, he⟩ := hsh1 k hlt
    obtain ⟨y1, y2, y3, y4, y5, y6, y7, hf⟩ := hsh2 k (by omega)
    obtain ⟨W2, hW2⟩ : ∃ W2, wr.alloc (.cells #[(es[k]?.getD dfE).a, (es[k]?.getD dfE).b, (es[k]?.getD dfE).c] 54) = W2 := ⟨_, rfl⟩
    have hb2 : Below wr.heap.size wr W2 := by rw [← hW2]; exact (Below.refl _ _).alloc (Nat.le_refl _) _
    have R2 : Row W2 wr.heap.size 54 #[(es[k]?.getD dfE).a, (es[k]?.getD dfE).b, (es[k]?.getD dfE).c] := by rw [← hW2]; exact Row.new _ _ _
    obtain ⟨d0, d1, d2, _, _, _⟩ := R2.three
    have hY2 := hY pre ⟨k, hlt⟩ W2.drew (hJ _ _ _ hJs hb2.drew) (by rw [hup.length]; exact hlt)
    obtain ⟨fn, tmps, assign, body, hy, hR⟩ := hY2
    have hnx2 : KpS n₀ (Bs + 1) W W2.drew := hnx.trans ⟨(hb2.mono (by omega)).drew, hb2.block (Bs + 1) (by omega)⟩
    simp only [ratsAt] at hy
    have f0 := (hb2.cell (p := ⟨b', o' + k * 3, none⟩) (World.block_lt_of_cell? wr _ e0)).trans e0
    have f1 := (hb2.cell (p := ⟨b', o' + k * 3 + 1, none⟩) (World.block_lt_of_cell? wr _ e1)).trans e1
    have f2 := (hb2.cell (p := ⟨b', o' + k * 3 + 2, none⟩) (World.block_lt_of_cell? wr _ e2)).trans e2
    have g2 := (hb2.cell (p := ⟨Bs + 1, 0, none⟩) (World.block_lt_of_cell? wr _ hB2')).trans hB2'
    rw [he] at hy c0 c1 c2 hW2 d0 d1 d2
    rw [hf] at hy e0 e1 e2 f0 f1 f2
    simp only at hy
    have hfl : fs.length = es.length := hlen
    rw [hfl] at g2
    have HJ := Lib.hid hJ
    have HY := Lib.hid hY
    have hkI : (k : Int) < (es.length : Int) := by omega
    clear hJ hY hl1 hl2 he hf R2 hsh1 hsh2 hlen
    gi_wp2_with fail
    refine wpIn_region_L (fun X => X.cell? ⟨wr.heap.size, 0, none⟩ = some (.bool z1) ∧ X.cell? ⟨wr.heap.size, 1, none⟩ = some (.slice z2 z3 z4) ∧ X.cell? ⟨wr.heap.size, 2, none⟩ = some (.slice z5 z6 z7) ∧
     X.cell? ⟨Bs + 1, 0, none⟩ = some (.slice (some ⟨b', o', none⟩) es.length cap2) ∧ X.cell? ⟨b', o' + k * 3, none⟩ = some (.bool y1) ∧ X.cell? ⟨b', o' + k * 3 + 1, none⟩ = some (.slice y2 y3 y4) ∧ X.cell? ⟨b', o' + k * 3 + 2, none⟩ = some (.slice y5 y6 y7)) [6, 7] (by kernel_rfl)
     ⟨d0, d1, d2, g2, f0, f1, f2⟩ (fun hHeld => ?_)
    refine wpAnyInL_take (i := 0) (v := ?va0) [6, 7] rfl rfl (by kernel_rfl) (by kernel_rfl) (by kernel_rfl) (by kernel_rfl) (by kernel_rfl) (by kernel_rfl) (fun _ _ _ h => h) (Or.inl ⟨by rfl, ?ha0⟩) (fun _ => rfl) (by assumption) ?ra0
    case ha0 =>
     intro w hSw
     try dsimp only at hSw
     go_simp
     try with_reducible rfl
    try simp only [Act.put, nD, nE, nF]
    refine wpAnyInL_take (i := 1) (v := ?va1) [6, 7] rfl rfl (by kernel_rfl) (by kernel_rfl) (by kernel_rfl) (by kernel_rfl) (by kernel_rfl) (by kernel_rfl) (fun _ _ _ h => h) (Or.inl ⟨by rfl, ?ha1⟩) (fun _ => rfl) (by assumption) ?ra1
    case ha1 =>
     intro w hSw
     try dsimp only at hSw
     go_simp
     try with_reducible rfl
    try simp only [Act.put, nD, nE, nF]
    refine wpAnyInL_take (i := 2) (v := ?va2) [4, 5, 6, 7] rfl rfl (by kernel_rfl) (by kernel_rfl) (by kernel_rfl) (by kernel_rfl) (by kernel_rfl) (by kernel_rfl) (fun _ _ _ h => h) (Or.inl ⟨by rfl, ?ha2⟩) (fun _ => rfl) (by assumption) ?ra2
    case ha2 =>
     intro w hSw
     try dsimp only at hSw
     go_simp
     try with_reducible rfl
    try simp only [Act.put, nD, nE, nF]
    refine wpAnyInL_take (i := 3) (v := ?va3) [4, 5, 6, 7] rfl rfl (by kernel_rfl) (by kernel_rfl) (by kernel_rfl) (by kernel_rfl) (by kernel_rfl) (by kernel_rfl) (fun _ _ _ h => h) (Or.inl ⟨by rfl, ?ha3⟩) (fun _ => rfl) (by assumption) ?ra3
    case ha3 =>
     intro w hSw
     try dsimp only at hSw
     go_simp
     try with_reducible rfl
    try simp only [Act.put, nD, nE, nF]
    refine wpAnyInL_take (i := 4) (v := ?va4) [5, 6, 7] rfl rfl (by kernel_rfl) (by kernel_rfl) (by kernel_rfl) (by kernel_rfl) (by kernel_rfl) (by kernel_rfl) (fun _ _ _ h => h) (Or.inl ⟨by rfl, ?ha4⟩) (fun _ => rfl) (by assumption) ?ra4
    case ha4 =>
     intro w hSw
     try dsimp only at hSw
     go_simp
     try with_reducible rfl
    try simp only [Act.put, nD, nE, nF]
    refine wpAnyInL_take (i := 5) (v := ?va5) [6, 7] rfl rfl (by kernel_rfl) (by kernel_rfl) (by kernel_rfl) (by kernel_rfl) (by kernel_rfl) (by kernel_rfl) (fun _ _ _ h => h) (Or.inl ⟨by rfl, ?ha5⟩) (fun _ => rfl) (by assumption) ?ra5
    case ha5 =>
     intro w hSw
     try dsimp only at hSw
     go_simp
     try with_reducible rfl
    try simp only [Act.put, nD, nE, nF]
    refine wpAnyInL_one (i := 6) (by kernel_rfl) rfl (fun K hK => ?sb6)
    go_simp
    refine ⟨(fun h => by cases h), hR.mono ?_⟩
    rintro e W3 (⟨rfl, hJ3, hk3⟩ | ⟨rfl, hJx3⟩)
    · refine hK.out _ _ (fun h => absurd (by decide) h) (fun _ => ?mb6)
      clear hK K
      try simp only [Act.put, nD, nE, nF]
      refine wpAnyInL_one (i := 7) (by kernel_rfl) rfl (fun K hK => ?sb7)
      go_simp
      refine hK.out _ _ (fun h => absurd (by decide) h) (fun _ => ?mb7)
      clear hK K
      try simp only [Act.put, nD, nE, nF]
      refine wpAnyInL_done (by kernel_rfl) ?_ _
      gi_wp2
      go_roundw
      case rel => exact ⟨k + 1, _, by omega, by go_num, hup.snoc hlt, hJ3, hnx2.trans hk3⟩
      case measure => simp [intOf]; omega
    · refine hK.out _ _ (fun h => absurd (by decide) h) (fun _ => ?mc6)
      clear hK K
      try simp only [Act.put, nD, nE, nF]
      refine wpAnyInL_one (i := 7) (by kernel_rfl) rfl (fun K hK => ?sc7)
      go_simp
      refine hK.out _ _ (fun h => absurd (by decide) h) (fun _ => ?mc7)
      clear hK K
      try simp only [Act.put, nD, nE, nF]
      refine wpAnyInL_done (by kernel_rfl) ?_ _
      gi_wp2
      refine bodyPost_ret (results_none rfl _ _ _) rfl ?_
      exact ⟨⟨_, rfl⟩, .inr ⟨_, ⟨k + 1, by omega, hup.snoc hlt⟩, hJx3⟩⟩
  · obtain rfl : k = es.length := by omega
    gi_wp2
    go_end0
    exact ⟨⟨_, rfl⟩, .inl ⟨_, hup, hJs⟩⟩
theorem pairsQ_stops (n Bs n₀ : Nat) (a1 a2 : Option Addr) (es fs : List E3) (cap1 cap2 : Nat) (hm : es.length ≤ 1000000000000) (hlen : fs.length = es.length) (w : World) (hn₀ : Bs + 1 < w.heap.size) (hw : n₀ ≤ w.heap.size)
 (hB1 : w.cell? ⟨Bs, 0, none⟩ = some (.slice a1 es.length cap1)) (hB2 : w.cell? ⟨Bs + 1, 0, none⟩ = some (.slice a2 fs.length cap2)) (hl1 : LimE w a1 es n₀) (hl2 : LimE w a2 fs n₀) (hsh1 : ShE es) (hsh2 : ShE fs) :
 SeqStopsK Fence.wide n Tryz.prog 167 #[.pointer (some ⟨Bs, 0, none⟩), .pointer (some ⟨Bs + 1, 0, none⟩)] (ratsAt es fs (n := es.length)) (KpS n₀ (Bs + 1)) (fun ys => Upto ys es.length) (fun pre => ∃ k, k ≤ es.length ∧ Upto pre k) es.length w := fun l J Jx W hW hJ _ hY h0 =>
 pairsQ_in n l Bs n₀ a1 a2 es fs cap1 cap2 hm hlen J Jx (fun pre A B hj hb => hJ pre A B none hj ⟨hb.os, hb.tape, hb.output, hb.size, fun k hk _ => hb.block k hk⟩ (fun _ h => by cases h)) hY W (Nat.lt_of_lt_of_le hn₀ hW.size) (Nat.le_trans hw hW.size) ((hW.cell (p := ⟨Bs, 0, none⟩) (by show Bs < w.heap.size; omega)).trans hB1) ((hW.cell (p := ⟨Bs + 1, 0, none⟩) (by show Bs + 1 < w.heap.size; omega)).trans hB2) (hl1.below (hW.mono hw)) (hl2.below (hW.mono hw)) hsh1 hsh2 h0
theorem pairsQ_any (a b : Option Addr) (n m ca cb : Nat) (w : World) :
 Calls Tryz.prog 147 #[.slice a n ca, .slice b m cb] w fun e w' => e = .returned (.func (.func 167) #[] #[.pointer (some ⟨w.heap.size, 0, none⟩), .pointer (some ⟨w.heap.size + 1, 0, none⟩)]) ∧
  w' = (w.alloc (.cells #[.slice a n ca] 24)).alloc (.cells #[.slice b m cb] 24) := by
 go_enter Tryz.func147, Tryz.ntmps147
 go_wp2
 go_ret
 simp
end
section
open Go.RowKit Go.Shelf
attribute [local go_sem] Oper.semAt_some
def Op2 (base : Nat) (w' : World) (e : Ending) (ok : Bool) (x : Rat) (N : Nat) : Prop :=
 (ok = true ∧ ∃ r, e = .returned (.tuple #[r, .int .i64 0]) ∧ ResQ base w' r x N) ∨ (ok = false ∧ e = .returned (.tuple #[.agg #[.bool false, .slice none 0 0, .slice none 0 0], .int .i64 17]))
def zipQ (f : Rat → Rat → Rat) (q1 q2 : List Q3) : List Rat := List.zipWith (fun p q => f p.rat q.rat) q1 q2
def zipOk (ok : Rat → Rat → Bool) (q1 q2 : List Q3) : Bool := (List.zipWith (fun p q => ok p.rat q.rat) q1 q2).all id
theorem zip_upto {α : Type} {q1 q2 : List Q3} (g : Q3 → Q3 → α) {N : Nat} (h1 : q1.length = N) (h2 : q2.length = N) {ys : List (Fin N)} (h : Upto ys N) : ys.map (fun x => g (q1[x.val]?.getD ⟨false, [], []⟩) (q2[x.val]?.getD ⟨false, [], []⟩)) = List.zipWith g q1 q2 := by
 have e : ys.map (fun x => g (q1[x.val]?.getD ⟨false, [], []⟩) (q2[x.val]?.getD ⟨false, [], []⟩)) = (ys.map Fin.val).map (fun k => g (q1[k]?.getD ⟨false, [], []⟩) (q2[k]?.getD ⟨false, [], []⟩)) := by rw [List.map_map]; rfl
 rw [e, show ys.map Fin.val = List.range N from h]
 apply List.ext_getElem
 · simp [h1, h2]
 · intro i a b
   have i1 : i < q1.length := by simp at a; omega
   have i2 : i < q2.length := by simp at a; omega
   simp [i1, i2]
theorem zipOk_bad {ok : Rat → Rat → Bool} {q1 q2 : List Q3} {k : Nat} (hk : k < q1.length) (hl : q2.length = q1.length) (h : ok (q1[k]?.getD ⟨false, [], []⟩).rat (q2[k]?.getD ⟨false, [], []⟩).rat = false) : zipOk ok q1 q2 = false := by
 have k2 : k < q2.length := by omega
 rw [List.getElem?_eq_getElem hk, List.getElem?_eq_getElem k2] at h
 cases e : zipOk ok q1 q2 with
 | false => rfl
 | true =>
  unfold zipOk at e
  rw [List.all_eq_true] at e
  have h3 := e (ok q1[k].rat q2[k].rat) (by
   rw [List.mem_iff_getElem]
   exact ⟨k, by simp; omega, by simp⟩)
  simp at h3
  simp [h3] at h
theorem joined_any {N F : Nat} {cap : Array Value} {ok : Rat → Rat → Bool} {f : Rat → Rat → Rat} {w : World} {u v : Value} {q1 q2 : List Q3} {b1 b2 : Option Addr} {cb1 cb2 : Nat} (E1 : RowA RawQ w u q1 b1 cb1) (E2 : RowA RawQ w v q2 b2 cb2) (hlen : q2.length = q1.length) (hq : q1.length ≤ 1000000)
 (heF : ∀ args w, (callFunc F args).run Tryz.prog w = .ok (.enter F args) w)
 (hdo : ∀ (W : World) (x y : Value) (p q : Q3), p ∈ q1 → q ∈ q2 → Below w.heap.size w W → RawQ W x p → RawQ W y q → Calls Tryz.prog F (#[x, y] ++ cap) W fun e w' => Op2 W.heap.size w' e (ok p.rat q.rat) (f p.rat q.rat) N ∧ Below W.heap.size W w') :
 Calls Tryz.prog 115 #[u, v, .func (.func F) #[] cap] w fun e w' =>
  ((zipOk ok q1 q2 = true ∧ ∃ r, e = .returned (.tuple #[r, .int .i64 0]) ∧ RowO w.heap.size 54 (fun W v x => ResQ w.heap.size W v x N) w' r (zipQ f q1 q2)) ∨ (zipOk ok q1 q2 = false ∧ e = .returned (.tuple #[.slice none 0 0, .int .i64 17]))) ∧ Below w.heap.size w w' := by
 obtain ⟨i0, hi, hz0, hz1, hz2⟩ := info_parts infoQ
 obtain rfl := E1.is
 obtain rfl := E2.is
 obtain ⟨es, hlim1, hall1⟩ := E1.limE
 obtain ⟨fs, hlim2, hall2⟩ := E2.limE
 have hsh1 : ShE es := shE_of hall1 (fun v x h => h.form)
 have hsh2 : ShE fs := shE_of hall2 (fun v x h => h.form)
 have hel1 : es.length = q1.length := hall1.1
 have hel2 : fs.length = es.length := by rw [hall2.1, hlen, hall1.1]
 have hcap1 := E1.le
 have HA1 := Lib.hid hall1
 have HA2 := Lib.hid hall2
 have HDO := Lib.hid hdo
 have HLEN := Lib.hid hlen
 have HEL1 := Lib.hid hel1
 have HEL2 := Lib.hid hel2
 rw [hlen, ← hel1]
 rw [← hel1] at hq hcap1
 clear E1 E2 hall1 hall2 hdo hlen hel1 hel2
 have hmk := make_rowP es.length (by omega)
 obtain ⟨n', hn'⟩ : ∃ n' : Nat, Hid (3 ≤ n') := ⟨3, Nat.le_refl 3⟩
 refine (callsIn_wide (n := n')).1 ?_
 refine callsIn_of_wp_marks Tryz.func115 rfl trivial ?_ rfl
 simp only [Tryz.ntmps115, List.size_toArray, List.length_cons, List.length_nil, Nat.reduceAdd, Nat.reduceSub, Array.replicate_succ, Array.replicate_zero, List.push_toArray, List.append_toArray, List.nil_append, List.cons_append]
 gi_wp2_with fail
 refine wideCall ((pairsQ_any _ _ _ _ _ _ _).mono ?_)
 rintro e w' ⟨rfl, rfl⟩
 gi_wp2_with fail
 obtain ⟨B, hB⟩ : ∃ B, w.heap.size = B := ⟨_, rfl⟩
 obtain ⟨V1, hV1⟩ : ∃ V1, w.alloc (.cells #[.func (.func F) #[] cap] 109) = V1 := ⟨_, rfl⟩
 obtain ⟨V2, hV2⟩ : ∃ V2, V1.alloc (.cells #[.slice none 0 0] 24) = V2 := ⟨_, rfl⟩
 obtain ⟨V3, hV3⟩ : ∃ V3, V2.alloc (.cells #[.int .i64 0] 29) = V3 := ⟨_, rfl⟩
 obtain ⟨V4, hV4⟩ : ∃ V4, V3.alloc (.cells (madeCells #[.bool false, .slice none 0 0, .slice none 0 0] (es.length * 3)) 54) = V4 := ⟨_, rfl⟩
 obtain ⟨V5, hV5⟩ : ∃ V5, V4.alloc (.cells #[.slice (some ⟨B + 1 + 1 + 1, 0, none⟩) 0 es.length] 24) = V5 := ⟨_, rfl⟩
 obtain ⟨V6, hV6⟩ : ∃ V6, V5.alloc (.cells #[.slice b1 es.length cb1] 24) = V6 := ⟨_, rfl⟩
 obtain ⟨V, hV⟩ : ∃ V, V6.alloc (.cells #[.slice b2 es.length cb2] 24) = V := ⟨_, rfl⟩
 have s1 : V1.heap.size = B + 1 := by rw [← hV1, ← hB]; simp
 have s2 : V2.heap.size = B + 1 + 1 := by rw [← hV2, World.size_alloc, s1]
 have s3 : V3.heap.size = B + 1 + 1 + 1 := by rw [← hV3, World.size_alloc, s2]
 have s4 : V4.heap.size = B + 1 + 1 + 1 + 1 := by rw [← hV4, World.size_alloc, s3]
 have s5 : V5.heap.size = B + 1 + 1 + 1 + 1 + 1 := by rw [← hV5, World.size_alloc, s4]
 have s6 : V6.heap.size = B + 1 + 1 + 1 + 1 + 1 + 1 := by rw [← hV6, World.size_alloc, s5]
 have sV : V.heap.size = B + 1 + 1 + 1 + 1 + 1 + 1 + 1 := by rw [← hV, World.size_alloc, s6]
 have d0 : Boxed V B 109 (.func (.func F) #[] cap) := by
  rw [← hV, ← hV6, ← hV5, ← hV4, ← hV3, ← hV2, ← hV1, ← hB]; exact ((((((Boxed.new _ _ _).alloc _).alloc _).alloc _).alloc _).alloc _).alloc _
 have d1 : Boxed V (B + 1) 24 (.slice none 0 0) := by
  rw [← hV, ← hV6, ← hV5, ← hV4, ← hV3, ← hV2, ← s1]; exact (((((Boxed.new _ _ _).alloc _).alloc _).alloc _).alloc _).alloc _
 have d2 : Boxed V (B + 1 + 1) 29 (.int .i64 0) := by
  rw [← hV, ← hV6, ← hV5, ← hV4, ← hV3, ← s2]; exact ((((Boxed.new _ _ _).alloc _).alloc _).alloc _).alloc _
 have d3 : OwnE B 54 V (.slice (some ⟨B + 1 + 1 + 1, 0, none⟩) 0 es.length) [] := by
  have h : OwnE B 54 V4 (.slice (some ⟨V3.heap.size, 0, none⟩) 0 es.length) [] := by
   rw [← hV4]
   exact World.ownsRow_made V3 _ es.length (by omega) (by unfold maxLen; omega) (madeP_len _ _)
  rw [s3] at h
  have hb : Below V4.heap.size V4 V := by rw [← hV, ← hV6, ← hV5]; exact (((Below.refl _ _).alloc (Nat.le_refl _) _).alloc (by simp) _).alloc (by simp <;> omega) _
  exact h.later hb
 have d4 : Boxed V (B + 1 + 1 + 1 + 1) 24 (.slice (some ⟨B + 1 + 1 + 1, 0, none⟩) 0 es.length) := by
  rw [← hV, ← hV6, ← hV5, ← s4]; exact ((Boxed.new _ _ _).alloc _).alloc _
 have d5 : Boxed V (B + 1 + 1 + 1 + 1 + 1) 24 (.slice b1 es.length cb1) := by
  rw [← hV, ← hV6, ← s5]; exact (Boxed.new _ _ _).alloc _
 have d6 : Boxed V (B + 1 + 1 + 1 + 1 + 1 + 1) 24 (.slice b2 fs.length cb2) := by
  rw [HEL2.out, ← hV, ← s6]; exact Boxed.new _ _ _
 have hbV : Below B w V := by
  rw [← hV, ← hV6, ← hV5, ← hV4, ← hV3, ← hV2, ← hV1]
  exact (((((((Below.refl _ w).alloc (by omega) _).alloc (by simp; omega) _).alloc (by simp; omega) _).alloc (by simp; omega) _).alloc (by simp; omega) _).alloc (by simp; omega) _).alloc (by simp; omega) _
 rw [hB] at hlim1 hlim2
 simp only [hB, hV1, hV2, hV3, hV4, hV5, hV6, hV]
 have h3 : 3 ≤ n' := hn'
 clear hV1 hV2 hV3 hV4 hV5 hV6 hV hmk s1 s2 s3 s4 s5 s6
 refine wpIn_rangeFunc_ownH (F := Fence.wide) (n := n') rfl (by omega) (gf := 167) (lb := #[.pointer (some ⟨B + 1 + 1 + 1 + 1 + 1, 0, none⟩), .pointer (some ⟨B + 1 + 1 + 1 + 1 + 1 + 1, 0, none⟩)]) rfl trivial (enters_of Tryz.func167 (by kernel_rfl) rfl)
  (pairsQ_stops (n' - 1) (B + 1 + 1 + 1 + 1 + 1) B b1 b2 es fs cb1 cb2 (by omega) HEL2.out V (by omega) (by omega) d5.cell d6.cell (hlim1.below hbV) (hlim2.below hbV) hsh1 hsh2) KpS.trans (KpS.b (by omega) (by omega)) (Below.refl _ _) (fun _ => rfl)
  (fun (pre : List (Fin es.length)) X => ∃ v gs, Boxed X B 109 (.func (.func F) #[] cap) ∧ Boxed X (B + 1) 24 (.slice none 0 0) ∧ Boxed X (B + 1 + 1) 29 (.int .i64 0) ∧ Boxed X (B + 1 + 1 + 1 + 1) 24 v ∧ OwnE B 54 X v gs ∧
   AllE ((fun W v x => ResQ B W v x N) X) gs (pre.map (fun x => f (q1[x.val]?.getD ⟨false, [], []⟩).rat (q2[x.val]?.getD ⟨false, [], []⟩).rat)) ∧ (∀ x ∈ pre, ok (q1[x.val]?.getD ⟨false, [], []⟩).rat (q2[x.val]?.getD ⟨false, [], []⟩).rat = true) ∧ Below B w X ∧ B + 1 + 1 + 1 + 1 + 1 + 1 + 1 ≤ X.heap.size ∧ Boxed X (B + 1 + 1 + 1 + 1 + 1 + 1) 24 (.slice b2 fs.length cb2))
  (fun c pre X => c = .ret ∧ Row X (B + 1) 24 #[.slice none 0 0] ∧ Row X (B + 1 + 1) 29 #[.int .i64 17] ∧ (∃ x ∈ pre, ok (q1[x.val]?.getD ⟨false, [], []⟩).rat (q2[x.val]?.getD ⟨false, [], []⟩).rat = false) ∧ Below B w X)
  (fun pre X Y row ⟨v, gs, h0, h1, h2, h3, h4, h5, h6, h7, h8, h9⟩ hg hr => by
   have kk := KeepC.grown hg (fun r e => (hr r e).2)
   exact ⟨v, gs, Boxed.keepC h0 kk, Boxed.keepC h1 kk, Boxed.keepC h2 kk, Boxed.keepC h3 kk, h4.keepC kk, h5.imp (fun _ _ _ h => h.keepC kk), h6, h7.grown hg (by have := h7.size; omega) (fun k e => by have := (hr k e).1; omega), Nat.le_trans h8 hg.size, Boxed.keepC h9 kk⟩)
  (fun c pre X Y row ⟨h0, h1, h2, h3, h4⟩ hg hr => ⟨h0, h1.keepC (KeepC.grown hg (fun r e => (hr r e).2)), h2.keepC (KeepC.grown hg (fun r e => (hr r e).2)), h3, h4.grown hg (by have := h4.size; omega) (fun k e => by have := (hr k e).1; omega)⟩)
  ⟨_, [], d0, d1, d2, d4, d3, AllE.nil _, (fun x h => by cases h), hbV, by omega, d6⟩
  (fun (x : Fin es.length) a' X => ∃ p1 p2, B + 1 + 1 + 1 + 1 + 1 + 1 + 1 ≤ p1 ∧ B + 1 + 1 + 1 + 1 + 1 + 1 + 1 ≤ p2 ∧ Row X p1 54 #[(es[x.val]?.getD dfE).a, (es[x.val]?.getD dfE).b, (es[x.val]?.getD dfE).c] ∧ Row X p2 54 #[(fs[x.val]?.getD dfE).a, (fs[x.val]?.getD dfE).b, (fs[x.val]?.getD dfE).c] ∧
   a' = { tmps := #[.slice b1 es.length cb1, .slice b2 es.length cb2, .func (.func F) #[] cap, undef, undef, .pointer (some ⟨B, 0, none⟩), .pointer (some ⟨B + 1, 0, none⟩), .pointer (some ⟨B + 1 + 1, 0, none⟩), .pointer (some ⟨B + 1 + 1 + 1 + 1, 0, none⟩), .pointer (some ⟨p1, 0, none⟩), .pointer (some ⟨p2, 0, none⟩), undef, undef,
    .slice b1 es.length cb1, .int .i64 es.length, .slice (some ⟨B + 1 + 1 + 1, 0, none⟩) 0 es.length, .slice b1 es.length cb1, .slice b2 es.length cb2, .func (.func 167) #[] #[.pointer (some ⟨B + 1 + 1 + 1 + 1 + 1, 0, none⟩), .pointer (some ⟨B + 1 + 1 + 1 + 1 + 1 + 1, 0, none⟩)],
    .agg #[(es[x.val]?.getD dfE).a, (es[x.val]?.getD dfE).b, (es[x.val]?.getD dfE).c], .agg #[(fs[x.val]?.getD dfE).a, (fs[x.val]?.getD dfE).b, (fs[x.val]?.getD dfE).c],
    undef, undef, undef, undef, undef, undef, undef, undef, undef, undef, undef, undef, undef, undef, undef], defers := [] })
  (fun x a' _ X Y row ⟨p1, p2, g1, g2, h1, h2, h3⟩ hg hr => ⟨p1, p2, g1, g2, h1.keepC (KeepC.grown hg (fun r e => (hr r e).2)), h2.keepC (KeepC.grown hg (fun r e => (hr r e).2)), h3⟩)
  ?assign ?body ?done ?stop
 case assign =>
  rintro l pre ⟨k, hk⟩ X K ⟨v, gs, h0, h1, h2, h3, h4, h5, h6, h7, h8, h9⟩ hK
  obtain ⟨z1, z2, z3, z4, z5, z6, z7, he⟩ := hsh1 k hk
  obtain ⟨y1, y2, y3, y4, y5, y6, y7, hf⟩ := hsh2 k (by rw [HEL2.out]; exact hk)
  have hs7 := h7.size
  have hbX1 : Below X.heap.size X (X.alloc (.cells #[.bool z1, .slice z2 z3 z4, .slice z5 z6 z7] 54)) := (Below.refl _ _).alloc (Nat.le_refl _) _
  have hbX : Below X.heap.size X ((X.alloc (.cells #[.bool z1, .slice z2 z3 z4, .slice z5 z6 z7] 54)).alloc (.cells #[.bool y1, .slice y2 y3 y4, .slice y5 y6 y7] 54)) := hbX1.alloc (by simp) _
  have kk := KeepC.below hbX
  have HK := Lib.hid hK
  simp only [ratsAt]
  rw [he, hf]
  simp only
  clear hK
  gi_wp2
  refine HK.out _ _ (keepsFrom_below hbX) ⟨hbX.mono (by omega), hbX.block _ (by omega)⟩ ⟨v, gs, Boxed.keepC h0 kk, Boxed.keepC h1 kk, Boxed.keepC h2 kk, Boxed.keepC h3 kk, h4.keepC kk, h5.imp (fun _ _ _ h => h.keepC kk), h6, h7.trans (hbX.mono (by omega)), by simp; omega, Boxed.keepC h9 kk⟩ ⟨X.heap.size, X.heap.size + 1, h8, by omega, ?_, ?_, ?_⟩
  · simp only [he]; exact (Row.new _ _ _).alloc _
  · simp only [hf]
    have h := Row.new (X.alloc (.cells #[.bool z1, .slice z2 z3 z4, .slice z5 z6 z7] 54)) 54 #[.bool y1, .slice y2 y3 y4, .slice y5 y6 y7]
    simp only [World.size_alloc] at h
    exact h
  · simp only [he, hf]
 case body =>
  rintro l pre ⟨k, hk⟩ a' X hl hrec ⟨v, gs, h0, h1, h2, h3, h4, h5, h6, h7, h8, h9⟩ ⟨p1, p2, hp1, hp2, hR, hR', rfl⟩ hlt
  have hkf : k < fs.length := by rw [HEL2.out]; exact hk
  obtain ⟨z1, z2, z3, z4, z5, z6, z7, he⟩ := hsh1 k hk
  obtain ⟨y1, y2, y3, y4, y5, y6, y7, hf⟩ := hsh2 k hkf
  simp only at hR hR' ⊢
  rw [he] at hR ⊢
  rw [hf] at hR' ⊢
  simp only at hR hR' ⊢
  have hkq : k < q1.length := by rw [← HEL1.out]; exact hk
  have hkq2 : k < q2.length := by rw [HLEN.out]; exact hkq
  have hqk : q1[k]? = some q1[k] := List.getElem?_eq_getElem hkq
  have hqk2 : q2[k]? = some q2[k] := List.getElem?_eq_getElem hkq2
  obtain ⟨p, hpe⟩ : ∃ q, q1[k] = q := ⟨_, rfl⟩
  obtain ⟨q, hqe⟩ : ∃ q, q2[k] = q := ⟨_, rfl⟩
  rw [hpe] at hqk
  rw [hqe] at hqk2
  have hek : es[k]? = some es[k] := List.getElem?_eq_getElem hk
  have hfk : fs[k]? = some fs[k] := List.getElem?_eq_getElem hkf
  have hraw := HA1.out.2 k _ _ hek hqk
  have hraw2 := HA2.out.2 k _ _ hfk hqk2
  have e2 : es[k] = ⟨.bool z1, .slice z2 z3 z4, .slice z5 z6 z7⟩ := by rw [hek] at he; exact he
  have f2 : fs[k] = ⟨.bool y1, .slice y2 y3 y4, .slice y5 y6 y7⟩ := by rw [hfk] at hf; exact hf
  rw [e2] at hraw
  rw [f2] at hraw2
  have hmem := List.mem_of_getElem? hqk
  have hmem2 := List.mem_of_getElem? hqk2
  have hgd : q1[k]?.getD ⟨false, [], []⟩ = p := by rw [hqk]; rfl
  have hgd2 : q2[k]?.getD ⟨false, [], []⟩ = q := by rw [hqk2]; rfl
  obtain ⟨g0, g1, g2, _, _, _⟩ := hR.three
  obtain ⟨j0, j1, j2, _, _, _⟩ := hR'.three
  have c0 := Boxed.cell h0
  have hs7 := h7.size
  have hrX := hraw.later (hB.symm ▸ h7 : Below w.heap.size w X)
  have hrX2 := hraw2.later (hB.symm ▸ h7 : Below w.heap.size w X)
  have hcall := HDO.out X _ _ p q hmem hmem2 (hB.symm ▸ h7 : Below w.heap.size w X) hrX hrX2
  gi_wp2_with fail
  refine roundCall (hcall.mono ?_)
  rintro e w5 ⟨hop, hb5⟩
  have s5 := hb5.size
  have kk5 : KeepC X w5 := KeepC.below hb5
  have hB5 : Below B w w5 := h7.trans (hb5.mono (by omega))
  rcases hop with ⟨hok, rv, rfl, qv⟩ | ⟨hok, rfl⟩
  · have Q5 := Lib.hid qv
    obtain ⟨m5, f1, l1, i1, f2, l2, i2, rfl⟩ := qv.shape
    clear qv
    obtain ⟨r, hrv, hrb, hrne, hrc, hro⟩ := ownV_hits h4 (by omega)
    have n3 := hrne _ _ _ h3 (by decide)
    have n0 := hrne _ _ _ h0 (by decide)
    have n1 := hrne _ _ _ h1 (by decide)
    have n2 := hrne _ _ _ h2 (by decide)
    have n6 := hrne _ _ _ h9 (by decide)
    obtain ⟨av0, cv0, rfl⟩ := ownT_slice h4
    have hle : gs.length ≤ es.length := by rw [h5.1, List.length_map]; exact Nat.le_of_lt hlt
    have HLE := Lib.hid hle
    obtain ⟨x0, x1, x2, _, _, _⟩ := (Row.new w5 54 #[.bool m5, .slice f1 l1 i1, .slice f2 l2 i2]).three
    have c3 := Boxed.cell ((Boxed.keepC h3 kk5).alloc (.cells #[.bool m5, .slice f1 l1 i1, .slice f2 l2 i2] 54))
    have hown5 : OwnE B 54 w5 (.slice av0 gs.length cv0) gs := h4.keepC kk5
    have hall5 := h5.imp (Q := fun u x => (fun W v x => ResQ B W v x N) w5 u x) fun u x _ h => h.keepC kk5
    have b6 : Below w5.heap.size w5 (w5.alloc (.cells #[.bool m5, .slice f1 l1 i1, .slice f2 l2 i2] 54)) := (Below.refl _ _).alloc (Nat.le_refl _) _
    have HA5 := Lib.hid hall5
    have HA4 := Lib.hid h5
    clear hall5 h5
    have hcn := cell_three_new (w5.alloc (.cells #[.bool m5, .slice f1 l1 i1, .slice f2 l2 i2] 54)) (.bool m5) (.slice f1 l1 i1) (.slice f2 l2 i2) 54
    simp only [World.size_alloc] at hcn
    have HCN := Lib.hid hcn
    clear hcn
    gi_wp2_with (gi_at_builtin; refine wpListIn_append_own _ rfl _ _ 24 rfl B 54 i0 _ 3 56 Tryz.underlying24 hi hz0 hz1 hz2 rfl (by decide) _ gs.length (flat3 gs) rfl ((hown5.later b6).later ((Below.refl _ _).alloc (Nat.le_refl _) _)) ⟨w5.heap.size + 1, 0, none⟩ 1 1 [.bool m5, .slice f1 l1 i1, .slice f2 l2 i2] rfl rfl HCN.out (by simp [Value.oneCell']) (by unfold maxLen; omega) (by omega) (by simp; omega) ?_)
    intro v' w7 hown' hgrow _
    obtain ⟨av, cv, rfl⟩ := ownT_slice hown'
    have hk5 : Kept r X w5 := (Kept.refl r X).below hb5
    have hk7 : Kept r X w7 := ((hk5.alloc _).alloc _).grown hgrow hrv
    have R37 : Row w7 (B + 1 + 1 + 1 + 1) 24 #[.slice av0 gs.length cv0] := Row.kept h3 hk7 n3
    have f37 := R37.free 0
    have d37 := R37.cell 0
    have hx5 : ResQ B w5 (E3.agg ⟨.bool m5, .slice f1 l1 i1, .slice f2 l2 i2⟩) (f p.rat q.rat) N := Q5.out.mono (by omega)
    gi_wp2
    obtain ⟨hrow6, hb6⟩ := pushE (P := fun W v x => ResQ B W v x N) (e := ⟨.bool m5, .slice f1 l1 i1, .slice f2 l2 i2⟩) (base := B) (w := w) (hB5.alloc (by omega) (.cells #[.bool m5, .slice f1 l1 i1, .slice f2 l2 i2] 54)) (by simp; omega) (hown5.later b6) (HA5.out.imp fun u x _ h => h.later b6) (hx5.later b6) (fun u y h => h.apart (hown5.later b6) hgrow (by decide)) hown' hgrow
    obtain ⟨fs', ho', ha'⟩ := RowO.far (w' := w7.setCell ⟨B + 1 + 1 + 1 + 1, 0, none⟩ (.slice av (gs.length + 1) cv)) hrow6 R37 (by decide) (kept1 _) (fun u y h => h.far R37 (by decide) (kept1 _))
    have hk7s := hk7.size
    have hbk : Below B X w7 := ⟨hk7.os, hk7.tape, hk7.output, hk7.size, fun k hk => hk7.block k (by omega) (by omega)⟩
    have hsz := (Only.set w7 (B + 1 + 1 + 1 + 1) 0 (.slice av (gs.length + 1) cv)).size
    have hblk : (w7.setCell ⟨B + 1 + 1 + 1 + 1, 0, none⟩ (.slice av (gs.length + 1) cv)).heap[B + 1 + 1 + 1 + 1 + 1 + 1]? = X.heap[B + 1 + 1 + 1 + 1 + 1 + 1]? := (Below.heap_setCell w7 _ _ _ (by show B + 1 + 1 + 1 + 1 + 1 + 1 ≠ B + 1 + 1 + 1 + 1; omega)).trans (hk7.block _ (by omega) n6)
    refine ⟨keepsFrom_set (keepsFrom_kept hk7 hrc) _ _, ⟨hbk.setCell (by show B ≤ B + 1 + 1 + 1 + 1; omega) _, hblk⟩, _, fs', Row.far (p := ⟨B + 1 + 1 + 1 + 1, 0, none⟩) (Row.kept h0 hk7 n0) (by show B ≠ B + 1 + 1 + 1 + 1; omega) _, Row.far (p := ⟨B + 1 + 1 + 1 + 1, 0, none⟩) (Row.kept h1 hk7 n1) (by show B + 1 ≠ B + 1 + 1 + 1 + 1; omega) _, Row.far (p := ⟨B + 1 + 1 + 1 + 1, 0, none⟩) (Row.kept h2 hk7 n2) (by show B + 1 + 1 ≠ B + 1 + 1 + 1 + 1; omega) _,
     Boxed.set _ R37, ho', ?_, fun x hx => ?_, hb6.setCell (by show B ≤ B + 1 + 1 + 1 + 1; omega) _, by omega, Row.far (p := ⟨B + 1 + 1 + 1 + 1, 0, none⟩) (Row.kept h9 hk7 n6) (by show B + 1 + 1 + 1 + 1 + 1 + 1 ≠ B + 1 + 1 + 1 + 1; omega) _⟩
    · rw [List.map_append, List.map_cons, List.map_nil]
      simp only [hgd, hgd2]
      exact ha'
    · rcases List.mem_append.1 hx with hx | hx
      · exact h6 x hx
      · simp at hx
        subst hx
        simp only
        rw [hgd, hgd2]
        exact hok
  · have k1 := (Boxed.keepC h1 kk5).alloc (.cells #[.bool false, .slice none 0 0, .slice none 0 0] 54)
    have k2 := (Boxed.keepC h2 kk5).alloc (.cells #[.bool false, .slice none 0 0, .slice none 0 0] 54)
    have f1 := Row.free k1 0
    have d1 := Row.cell k1 0
    have k2' := Row.far k2 (p := ⟨B + 1, 0, none⟩) (by show B + 1 + 1 ≠ B + 1; omega) (.slice none 0 0)
    have f2 := Row.free k2' 0
    have d2 := Row.cell k2' 0
    have b6 : Below w5.heap.size w5 (w5.alloc (.cells #[.bool false, .slice none 0 0, .slice none 0 0] 54)) := (Below.refl _ _).alloc (Nat.le_refl _) _
    have b56 : Below X.heap.size X (w5.alloc (.cells #[.bool false, .slice none 0 0, .slice none 0 0] 54)) := hb5.trans (b6.mono s5)
    have g1 := (Row.set k1 0 (.slice none 0 0)).far (p := ⟨B + 1 + 1, 0, none⟩) (by show B + 1 ≠ B + 1 + 1; omega) (.int .i64 17)
    have g2 := Row.set k2' 0 (.int .i64 17)
    gi_wp2
    refine ⟨keepsFrom_set (keepsFrom_set (keepsFrom_below b56) _ _) _ _, rfl, g1, g2, ⟨_, List.mem_append_right _ (List.mem_singleton.2 rfl), ?_⟩, ((h7.trans (b56.mono (by omega))).setCell (by show B ≤ B + 1; omega) _).setCell (by show B ≤ B + 1 + 1; omega) _⟩
    show ok (q1[k]?.getD ⟨false, [], []⟩).rat (q2[k]?.getD ⟨false, [], []⟩).rat = false
    rw [hgd, hgd2]
    exact hok
 case done =>
  rintro D ys X hD hup ⟨v, gs, h0, h1, h2, h3, h4, h5, h6, h7, h8, h9⟩ hK
  have c3 := Boxed.cell h3
  have f1 := Row.free h1 0
  have d1 := Row.cell h1 0
  obtain ⟨av, cv, rfl⟩ := ownT_slice h4
  have h2' := Row.far h2 (p := ⟨B + 1, 0, none⟩) (by show B + 1 + 1 ≠ B + 1; omega) (.slice av gs.length cv)
  have f2 := Row.free h2' 0
  have d2 := Row.cell h2' 0
  have HOK := Lib.hid h6
  have HA24 := Lib.hid h5
  clear h5 h6
  gi_wp2
  have hrow : RowO B 54 (fun W v x => ResQ B W v x N) X (.slice av gs.length cv) (zipQ f q1 q2) := ⟨gs, h4, by
   have h := HA24.out
   rw [zip_upto (fun p q => f p.rat q.rat) HEL1.out.symm (by rw [HLEN.out]; exact HEL1.out.symm) hup] at h
   exact h⟩
  have hzip : zipOk ok q1 q2 = true := by
   unfold zipOk
   rw [← zip_upto (fun p q => ok p.rat q.rat) HEL1.out.symm (by rw [HLEN.out]; exact HEL1.out.symm) hup, List.all_map, List.all_eq_true]
   intro x hx
   exact HOK.out x hx
  have r1 := (Row.set h1 0 (.slice av gs.length cv)).far (p := ⟨B + 1 + 1, 0, none⟩) (by show B + 1 ≠ B + 1 + 1; omega) (.int .i64 0)
  have r2 := Row.set h2' 0 (.int .i64 0)
  have hrow1 := RowO.far (w' := X.setCell ⟨B + 1, 0, none⟩ (.slice av gs.length cv)) hrow h1 (by decide) (kept1 (.slice av gs.length cv)) (fun u y h => h.far h1 (by decide) (kept1 _))
  have hrow2 := RowO.far (w' := (X.setCell ⟨B + 1, 0, none⟩ (.slice av gs.length cv)).setCell ⟨B + 1 + 1, 0, none⟩ (.int .i64 0)) hrow1 h2' (by decide) (kept1 (.int .i64 0)) (fun u y h => h.far h2' (by decide) (kept1 _))
  have hK' := (KeepsOthers.setCell (X.setCell ⟨B + 1, 0, none⟩ (.slice av gs.length cv)) ⟨B + 1 + 1, 0, none⟩ (.int .i64 0)).same D _ ((KeepsOthers.setCell X ⟨B + 1, 0, none⟩ (.slice av gs.length cv)).same D _ hK rfl) rfl
  have hbE := (h7.setCell (p := ⟨B + 1, 0, none⟩) (by show B ≤ B + 1; omega) (.slice av gs.length cv)).setCell (p := ⟨B + 1 + 1, 0, none⟩) (by show B ≤ B + 1 + 1; omega) (.int .i64 0)
  have hsE := hbE.size
  generalize hY : (X.setCell ⟨B + 1, 0, none⟩ (.slice av gs.length cv)).setCell ⟨B + 1 + 1, 0, none⟩ (.int .i64 0) = Y at *
  refine ⟨by simp, .inl ⟨_, _, rfl, run_takeDeferred hK', ?_⟩⟩
  have kk : ∀ o', KeepC Y (Y.putObj D o') := fun o' => KeepC.grown (grownBy_putObj' Y D o') (fun r e => by cases e; exact ⟨_, hK', rfl⟩)
  have hc1 := cell_kept (Row.cell r1 0) (grownBy_putObj' _ D (.deferred none)) (fun r e => by cases e; exact ⟨_, hK', rfl⟩)
  have hc2 := cell_kept (Row.cell r2 0) (grownBy_putObj' _ D (.deferred none)) (fun r e => by cases e; exact ⟨_, hK', rfl⟩)
  simp at hc1 hc2
  obtain ⟨fs', ho', ha'⟩ := hrow2
  refine ⟨.tuple #[.slice av gs.length cv, .int .i64 0], by simp [results, Tryz.f115, go_sem, hc1, hc2], .inl ⟨hzip, _, rfl, fs', ho'.keepC (kk _), ha'.imp fun u x _ h => h.keepC (kk _)⟩, ?_⟩
  exact hbE.trans (belowK_b (n₀ := B) (w := w) (by omega) _ D _ _ (by omega) hK' rfl rfl)
 case stop =>
  rintro D c pre X hD ⟨k, hk, hup⟩ ⟨rfl, h1, h2, ⟨x, hx, hbad⟩, h4⟩ hK
  have hzip : zipOk ok q1 q2 = false := zipOk_bad (by rw [← HEL1.out]; exact x.isLt) HLEN.out hbad
  have hs4 := h4.size
  gi_wp2
  refine ⟨by simp, .inl ⟨_, _, rfl, run_takeDeferred hK, ?_⟩⟩
  have hc1 := cell_kept (Row.cell h1 0) (grownBy_putObj' _ D (.deferred none)) (fun r e => by cases e; exact ⟨_, hK, rfl⟩)
  have hc2 := cell_kept (Row.cell h2 0) (grownBy_putObj' _ D (.deferred none)) (fun r e => by cases e; exact ⟨_, hK, rfl⟩)
  simp at hc1 hc2
  refine ⟨.tuple #[.slice none 0 0, .int .i64 17], by simp [results, Tryz.f115, go_sem, hc1, hc2], .inr ⟨hzip, rfl⟩, ?_⟩
  rw [hB]
  exact h4.trans (belowK_b (n₀ := B) (w := w) (by omega) _ D _ _ (by omega) hK rfl rfl)
end
end Go.Proofs.YtengpgodmbfmkaaGreat
