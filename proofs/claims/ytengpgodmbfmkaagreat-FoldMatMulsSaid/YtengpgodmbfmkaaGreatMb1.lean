/-
  Part 1 of 4: contracts and what they rest on (Mem, RefE, RefF, DigB, QRef, QRefB, QRefC, QLaw0, RMath, TRat, TFit, TBits, TWSame, PRat, FMath, FMat, FKit, FLaw, FMats, FMatx, FTot0, RefM10).
-/
import Derived.Test.YtengpgodmbfmkaaGreatD30
import Derived.Laws.IdiomArrays
namespace Go.Proofs.YtengpgodmbfmkaaGreat
set_option linter.unusedVariables false
set_option linter.unusedSimpArgs false
set_option maxRecDepth 100000
set_option maxHeartbeats 40000000
section
open Go.RowKit
theorem Blk.only {w w' : World} {g b : Nat} {zs : List Int} (h : Blk w g zs) (k : Only b w w') (hb : g ≠ b) : Blk w' g zs := h.same (k.block g hb)
end
section
open Go.RowKit
theorem LimI.news {w : World} {ad : Addr} {xs : List Int} (h : LimI w (some ad) xs) : ∀ j u, (xs.map (Value.int .i64))[j]? = some u → w.cell? (ad.add j) = some u := by
 intro j u hj
 rcases h with rfl | ⟨b, off, e, hc⟩
 · simp at hj
 · cases e
   rw [List.getElem?_map] at hj
   have hjl : j < xs.length := by
    rcases Nat.lt_or_ge j xs.length with h | h
    · exact h
    · rw [List.getElem?_eq_none h] at hj; cases hj
   rw [show (⟨b, off, none⟩ : Addr).add j = ⟨b, off + j, none⟩ from (by unfold Addr.add; split <;> simp_all), hc j hjl, ← hj]
   simp [hjl]
theorem full_cons {x : Int} {l : List Int} (hl : 0 < l.length) (h : trimN l l.length = l.length) : trimN (x :: l) (x :: l).length = (x :: l).length := by
 obtain ⟨m, hm⟩ : ∃ m, l.length = m + 1 := ⟨l.length - 1, by omega⟩
 have h1 := trimN_last l l.length (by omega)
 rw [h, hm, Nat.add_sub_cancel] at h1
 rw [List.length_cons]
 unfold trimN
 rw [if_neg]
 rw [hm]
 simpa using h1
theorem valD_drop (xs : List Int) (j : Nat) (h : j < xs.length) : valD (xs.drop j) = xs.getD j 0 + 10000 * valD (xs.drop (j + 1)) := by
 rw [List.drop_eq_getElem_cons h]
 simp [valD, h]
theorem mulD_any {u v : Value} {xs ys : List Int} {a b : Option Addr} {capa capb : Nat} {w : World} (h1 : ArgD w u xs a capa) (h2 : ArgD w v ys b capb) (hx : xs.length ≤ 17179869184) (hy : ys.length ≤ 17179869184) :
 Calls Tryz.prog 77 #[u, v] w fun e w' => ∃ r, e = .returned r ∧ ∃ zs, ResD w.heap.size w' r zs (valD xs * valD ys) ∧ zs.length ≤ xs.length + 2 * ys.length + 3 ∧ Below w.heap.size w w' := by
 obtain ⟨i0, hi, hz0, hz1, hz2⟩ := info_parts infoInt
 obtain ⟨rfl, ly, _, wy, _⟩ := h2
 go_enter Tryz.func77, Tryz.ntmps77
 go_wp2
 go_loopw [5, 6, 7] (fun s i _ wr => ∃ (k : Nat) (q : Value) (ds : List Int), k ≤ ys.length ∧ q = s ∧ i = .int .i64 ((ys.length : Int) - 1 - k) ∧ ResD w.heap.size wr q ds (valD xs * valD (ys.drop (ys.length - k))) ∧ ds.length ≤ xs.length + 2 * k + 3 ∧ Below w.heap.size w wr) (fun _ i _ _ => (intOf i + 1).toNat)
 case atStart => exact ⟨0, _, [], Nat.zero_le _, rfl, by simp, ⟨World.ownsRow_nil _ _ _ _, WfD.nil, rfl, by simp [valD]⟩, by simp, Below.refl _ _⟩
 case round =>
  obtain ⟨k, q, ds, hk, rfl, rfl, hres, hlen, hb⟩ := hrel
  have hsz := hb.size
  by_cases hlt : k < ys.length
  · rcases ly with rfl | ⟨b, off, rfl, hc⟩
    · simp at hlt
    · obtain ⟨j, hj⟩ : ∃ j, j + k + 1 = ys.length := ⟨ys.length - k - 1, by omega⟩
      have hji : ((ys.length : Int) - 1 - k) = (j : Int) := by omega
      obtain ⟨x, hxk⟩ : ∃ x, ys.getD j 0 = x := ⟨_, rfl⟩
      obtain ⟨bx0, bx1⟩ : 0 ≤ x ∧ x < 10000 := hxk ▸ wy.getD j
      have hjl : j < ys.length := by omega
      have hcj := hc j hjl
      rw [hxk] at hcj
      have hge : (0 : Int) ≤ (j : Int) := by omega
      rw [hji]
      have hval : valD xs * valD (ys.drop (ys.length - (k + 1))) = 10000 * valD ds + valD xs * x := by
       rw [show ys.length - (k + 1) = j from by omega, valD_drop ys j hjl, hxk, hres.eq, show ys.length - k = j + 1 from by omega, Int.mul_add]
       have e : valD xs * (10000 * valD (List.drop (j + 1) ys)) = 10000 * (valD xs * valD (List.drop (j + 1) ys)) := by rw [← Int.mul_assoc, ← Int.mul_assoc, Int.mul_comm 10000]
       rw [e]
       omega
      have A1 := h1.later hb
      have HV := Lib.hid hval
      have HJ := Lib.hid hj
      clear hj hxk hc hji hval
      by_cases h0 : ds.length = 0
      · have hds : ds = [] := List.eq_nil_of_length_eq_zero h0
        subst hds
        have hq : ∃ ad cap, q = .slice ad 0 cap := by obtain ⟨ad, cap, h, _⟩ := hres.num.read; exact ⟨ad, cap, h⟩
        obtain ⟨adq, capq, rfl⟩ := hq
        have hc0 : wr.cell? ⟨b, off + j, none⟩ = some (.int .i64 x) := (hb.cell (p := ⟨b, off + j, none⟩) (World.block_lt_of_cell? w _ hcj)).trans hcj
        go_wp2_with fail
        refine (times_any x A1 (by omega) (by omega)).mono ?_
        rintro e w2 ⟨r2, rfl, z2, q2, n2, hb2⟩
        obtain ⟨ad2, cap2, A2⟩ := q2.arg
        have A0 : ArgD w2 (.slice none 0 0) [] none 0 := ⟨rfl, .inl rfl, Nat.le_refl _, WfD.nil, rfl⟩
        go_wp2_with fail
        refine (addD_any A0 A2 (by simp) (by omega)).mono ?_
        rintro e w3 ⟨r3, rfl, z3, q3, n3, hb3⟩
        have hB3 : Below w.heap.size w w3 := (hb.trans (hb2.mono hsz)).trans (hb3.mono (by have := hb2.size; omega))
        have hv3 : valD z3 = valD xs * valD (ys.drop (ys.length - (k + 1))) := by rw [q3.eq, q2.eq, HV.out]; simp [valD]
        have HV3 := Lib.hid hv3
        simp only [List.length_nil] at n3
        have hs2 := hb2.size
        clear hv3
        go_wp2
        go_roundw
        case rel => exact ⟨k + 1, r3, z3, by omega, rfl, by have := HJ.out; congr 1; omega, ⟨q3.num.mono (by omega), q3.wf, q3.full, HV3.out⟩, by omega, hB3⟩
        case measure => simp [intOf]
      · have hpos : 0 < ds.length := by omega
        have hres' := hres
        obtain ⟨⟨ad, cap, h1q, h2q, h3q, _, _⟩, wds, fds, eds⟩ := (⟨hres.num.read, hres.wf, hres.full, hres.eq⟩ : (_ ∧ _ ∧ _ ∧ _))
        subst h1q
        obtain ⟨p, o, rfl, hcd⟩ : ∃ p o, ad = some ⟨p, o, none⟩ ∧ True := by
         rcases h2q with e | ⟨p, o, e, _⟩
         · rw [e] at hpos; simp at hpos
         · exact ⟨p, o, e, trivial⟩
        have hlit := NumI.lit (base := w.heap.size) (w := wr) hsz [0] (by unfold maxLen; simp)
        have hrow : (wr.alloc (.cells #[.int .i64 0] 3)).ownsRow w.heap.size 3 1 (.slice (some ⟨wr.heap.size, 0, none⟩) 1 1) 1 [.int .i64 0] := hlit
        have hnews := (h2q.later ((Below.refl wr.heap.size wr).alloc (Nat.le_refl _) (.cells #[.int .i64 0] 3))).news
        have hal : Below w.heap.size w (wr.alloc (.cells #[.int .i64 0] 3)) := hb.alloc hsz _
        clear hlit hcd
        have hgt : (0 : Int) < (ds.length : Int) := by omega
        go_wp2_with (at_builtin; refine wpList_append_own _ rfl _ _ 56 rfl w.heap.size 3 i0 (.int .i64 0) 1 8 Tryz.underlying56 hi hz0 hz1 hz2 rfl (by decide) _ 1 [.int .i64 0] rfl hrow ⟨p, o, none⟩ ds.length cap (ds.map (Value.int .i64)) rfl (by simp) hnews (ints_oneCell _ _) (by unfold maxLen; omega) (by omega) (by simp; omega) ?_; intro v' w1 hown' hgrow _; have hb1 : Below w.heap.size w w1 := hal.grown hgrow (by simp; omega) (fun k hk => by cases hk; exact hsz); have hc0 : w1.cell? ⟨b, off + j, none⟩ = some (.int .i64 x) := (hb1.cell (p := ⟨b, off + j, none⟩) (World.block_lt_of_cell? w _ hcj)).trans hcj)
        have hup : NumI w.heap.size w1 v' (0 :: ds) := by
         unfold NumI
         rw [List.length_cons, List.map_cons, Nat.add_comm]
         exact hown'
        obtain ⟨adu, capu, hu1, hu2, hu3, _, _⟩ := hup.read
        have U1 : ArgD w1 v' (0 :: ds) adu capu := ⟨hu1, hu2, hu3, WfD.cons (by omega) wds, full_cons hpos fds⟩
        have A1' := h1.later hb1
        clear hown' hgrow hnews hrow hal h2q hup hu1 hu2 hu3
        have hs1 := hb1.size
        go_wp2_with fail
        refine (times_any x A1' (by omega) (by omega)).mono ?_
        rintro e w2 ⟨r2, rfl, z2, q2, n2, hb2⟩
        obtain ⟨ad2, cap2, A2⟩ := q2.arg
        have U2 := U1.later hb2
        go_wp2_with fail
        refine (addD_any U2 A2 (by simp only [List.length_cons]; omega) (by omega)).mono ?_
        rintro e w3 ⟨r3, rfl, z3, q3, n3, hb3⟩
        have hs2 := hb2.size
        have hB3 : Below w.heap.size w w3 := (hb1.trans (hb2.mono hs1)).trans (hb3.mono (by omega))
        have hv3 : valD z3 = valD xs * valD (ys.drop (ys.length - (k + 1))) := by rw [q3.eq, q2.eq, HV.out]; simp [valD]
        have HV3 := Lib.hid hv3
        simp only [List.length_cons] at n3
        clear hv3
        go_wp2
        go_roundw
        case rel => exact ⟨k + 1, r3, z3, by omega, rfl, by have := HJ.out; congr 1; omega, ⟨q3.num.mono (by omega), q3.wf, q3.full, HV3.out⟩, by omega, hB3⟩
        case measure => simp [intOf]
  · obtain rfl : k = ys.length := by omega
    have hji : ((ys.length : Int) - 1 - ys.length) = -1 := by omega
    rw [hji]
    clear hji
    have hv : valD ds = valD xs * valD ys := by have h := hres.eq; rwa [Nat.sub_self, List.drop_zero] at h
    go_wp2
    go_ret
    exact ⟨_, rfl, ds, ⟨hres.num, hres.wf, hres.full, hv⟩, hlen, hb⟩
end
section
open Go.RowKit
theorem Calls.quiet_eq {P : Program} {f : FuncId} {args : Array Value} {w : World} {n : Nat} {v : Value} (h : Calls P f args (w.drewN n) fun e w' => e = .returned v ∧ w.drewN n = w') :
 Calls P f args (w.drewN n) fun e w'' => e = .returned v ∧ ∃ m, w'' = w.drewN m := h.mono fun _ _ ⟨he, hm⟩ => ⟨he, n, hm.symm⟩
def subToD (xs ys : List Int) : Nat → List Int × Int
 | 0 => ([], 0)
 | k + 1 => ((subToD xs ys k).1 ++ [(xs.getD k 0 - ys.getD k 0 + (subToD xs ys k).2) % 10000], (xs.getD k 0 - ys.getD k 0 + (subToD xs ys k).2) / 10000)
theorem subToD_length (xs ys : List Int) (k : Nat) : (subToD xs ys k).1.length = k := by
 induction k with
 | zero => rfl
 | succ k ih => simp [subToD, ih]
theorem subToD_carry (xs ys : List Int) (hx : WfD xs) (hy : WfD ys) (k : Nat) : -1 ≤ (subToD xs ys k).2 ∧ (subToD xs ys k).2 ≤ 0 := by
 induction k with
 | zero => simp [subToD]
 | succ k ih => have h1 := hx.getD k; have h2 := hy.getD k; simp only [subToD]; omega
theorem subToD_wf (xs ys : List Int) (k : Nat) : WfD (subToD xs ys k).1 := by
 induction k with
 | zero => exact WfD.nil
 | succ k ih => exact ih.append (WfD.cons (by omega) WfD.nil)
theorem val_subToD (xs ys : List Int) (k : Nat) : valD (subToD xs ys k).1 + 10000 ^ k * (subToD xs ys k).2 = valD (xs.take k) - valD (ys.take k) := by
 induction k with
 | zero => simp [subToD, valD]
 | succ k ih =>
   rw [val_take_succD, val_take_succD]
   simp only [subToD]
   rw [valD_snoc, subToD_length]
   simp only [Int.pow_succ]
   have hm := mod_divD (xs.getD k 0 - ys.getD k 0 + (subToD xs ys k).2)
   generalize (subToD xs ys k).2 = c at *
   generalize ((xs.getD k 0 - ys.getD k 0 + c) % 10000) = r at *
   generalize ((xs.getD k 0 - ys.getD k 0 + c) / 10000) = q at *
   generalize (10000 : Int) ^ k = P at *
   grind
theorem val_subD {xs ys : List Int} (hx : WfD xs) (hy : WfD ys) (hl : ys.length ≤ xs.length) (h : valD ys ≤ valD xs) : valD (subToD xs ys xs.length).1 = valD xs - valD ys := by
 have h1 := val_subToD xs ys xs.length
 rw [List.take_length, List.take_of_length_le hl] at h1
 have h2 := subToD_carry xs ys hx hy xs.length
 have h3 := val_ltD (subToD_wf xs ys xs.length)
 rw [subToD_length] at h3
 rcases (show (subToD xs ys xs.length).2 = 0 ∨ (subToD xs ys xs.length).2 = -1 by omega) with e | e
 · rw [e] at h1; simpa using h1
 · rw [e] at h1; omega
theorem subD_any {u v : Value} {xs ys : List Int} {a b : Option Addr} {capa capb : Nat} {w : World} (h1 : ArgD w u xs a capa) (h2 : ArgD w v ys b capb) (hx : xs.length ≤ 68719476736) (hy : ys.length ≤ 68719476736) :
 Calls Tryz.prog 80 #[u, v] w fun e w' => ∃ r f, e = .returned (.tuple #[r, .bool f]) ∧ Below w.heap.size w w' ∧ (valD xs < valD ys → r = .slice none 0 0 ∧ f = false) ∧
  (valD ys ≤ valD xs → f = true ∧ ∃ zs, ResD w.heap.size w' r zs (valD xs - valD ys) ∧ zs.length ≤ xs.length) := by
 obtain ⟨i0, hi, hz0, hz1, hz2⟩ := info_parts infoInt
 have cmp := cmpD_any h1 h2 hx hy
 obtain ⟨rfl, lx, _, wx, fx⟩ := h1
 obtain ⟨rfl, ly, _, wy, fy⟩ := h2
 have hlen : valD ys ≤ valD xs → ys.length ≤ xs.length := fun h => by
  rcases Nat.lt_or_ge xs.length ys.length with h3 | h3
  · have := len_ltD wx wy fy h3; omega
  · exact h3
 have HL := Lib.hid hlen
 clear fx fy hlen
 go_enter Tryz.func80, Tryz.ntmps80
 go_wp2_with fail
 refine cmp.mono ?_
 rintro e V ⟨rfl, hV⟩
 clear cmp
 by_cases hlt : valD xs < valD ys
 · rw [sign_lt hlt]
   have hd : decide ((-1 : Int) < 0) = true := by decide
   go_wp2
   go_ret2
   exact ⟨_, _, rfl, hV, fun _ => ⟨rfl, rfl⟩, fun h => by omega⟩
 · have hd : decide (sign (valD xs) (valD ys) < 0) = false := decide_eq_false (by unfold sign; rw [if_neg hlt]; split <;> omega)
   have hL := HL.out (by omega)
   go_wp2
   go_loopw [6, 7, 8, 9] (fun s c i _ wr => ∃ (k : Nat) (q : Value), k ≤ xs.length ∧ q = s ∧ c = .int .i64 (-(subToD xs ys k).2) ∧ i = .int .i64 k ∧ NumI w.heap.size wr q (subToD xs ys k).1 ∧ Below w.heap.size w wr) (fun _ _ i _ _ => xs.length + 1 - (intOf i).toNat)
   case atStart => exact ⟨0, _, Nat.zero_le _, rfl, rfl, rfl, World.ownsRow_nil _ _ _ _, hV⟩
   case round =>
    obtain ⟨k, q, hk, rfl, rfl, rfl, hown, hb⟩ := hrel
    have hsz := hb.size
    obtain ⟨c, hck⟩ : ∃ c, (subToD xs ys k).2 = c := ⟨_, rfl⟩
    have bc := subToD_carry xs ys wx wy k
    rw [hck] at bc ⊢
    obtain ⟨bc0, bc1⟩ := bc
    have hrow : wr.ownsRow w.heap.size 3 1 q k ((subToD xs ys k).1.map (Value.int .i64)) := by
     have h := hown; unfold NumI at h; rw [subToD_length] at h; exact h
    have HO := Lib.hid hown
    have HC := Lib.hid hck
    have HK := Lib.hid hk
    clear hown hck
    by_cases hgo : k < xs.length
    · obtain ⟨x, hxk⟩ : ∃ x, xs.getD k 0 = x := ⟨_, rfl⟩
      obtain ⟨y, hyk⟩ : ∃ y, ys.getD k 0 = y := ⟨_, rfl⟩
      obtain ⟨bx0, bx1⟩ : 0 ≤ x ∧ x < 10000 := hxk ▸ wx.getD k
      obtain ⟨by0, by1⟩ : 0 ≤ y ∧ y < 10000 := hyk ▸ wy.getD k
      rcases lx with rfl | ⟨ba, offa, rfl, hca⟩
      · simp at hgo
      have cx := hca k hgo
      rw [hxk] at cx
      have cx0 := (hb.cell (p := ⟨ba, offa + k, none⟩) (World.block_lt_of_cell? w _ cx)).trans cx
      have ly' := ly.later hb
      have HX := Lib.hid hxk
      have HY := Lib.hid hyk
      clear hxk cx hca
      have done : ∀ (W : World) (D C : Int) (w1 : World) (v' : Value) (o : Obj), Below w.heap.size w W → wr.heap.size ≤ W.heap.size → D = (x - y + c) % 10000 → C = -((x - y + c) / 10000) → w1.ownsRow w.heap.size 3 1 v' (k + 1) ((subToD xs ys k).1.map (Value.int .i64) ++ [Value.int .i64 D]) → (W.alloc o).grownBy w1 q.ownBlock →
       ∃ (j : Nat) (p : Value), j ≤ xs.length ∧ p = v' ∧ Value.int .i64 C = .int .i64 (-(subToD xs ys j).2) ∧ Value.int .i64 ((k : Int) + 1) = .int .i64 j ∧ NumI w.heap.size w1 p (subToD xs ys j).1 ∧ Below w.heap.size w w1 := fun W D C w1 v' o hbW hsW eD eC ho hg => by
       subst eD
       subst eC
       have hown' : w1.ownsRow w.heap.size 3 1 v' ((subToD xs ys k).1.length + 1) ((subToD xs ys k).1.map (Value.int .i64) ++ [Value.int .i64 ((x - y + c) % 10000)]) := by rw [subToD_length]; exact ho
       refine ⟨k + 1, v', by omega, rfl, by simp only [subToD]; rw [HX.out, HY.out, HC.out], by go_num, ?_, ?_⟩
       · simp only [subToD]; rw [HX.out, HY.out, HC.out]
         unfold NumI
         rw [List.length_append, List.map_append]
         exact hown'
       · exact (hbW.alloc (by omega) o).grown hg (by simp; omega) (fun k hk => (HO.out.lt k hk).1)
      have DONE := Lib.hid done
      have hwr2 : ∀ nq, Below w.heap.size w (wr.drewN nq) := fun nq => ⟨hb.os, hb.tape, hb.output, hb.size, hb.block⟩
      have HWR2 := Lib.hid hwr2
      clear done hwr2
      obtain ⟨l, hl⟩ : ∃ l, -c = l := ⟨_, rfl⟩
      obtain rfl : c = -l := by omega
      rw [hl]
      clear hl
      by_cases hn : x - y - l < 0
      · have hdd : decide (x - y - l < 0) = true := decide_eq_true hn
        go_wp2
        go_quiet ((go_at_call 122; refine Calls.quiet_eq (digit_any b ys capb k y _ ?_ (by omega) HY.out); exact ly.later (HWR2.out _)))
        have hWR := HWR2.out nq
        have hsR : wr.heap.size ≤ (wr.drewN nq).heap.size := Nat.le_refl _
        have hrowR : (wr.drewN nq).ownsRow w.heap.size 3 1 q k ((subToD xs ys k).1.map (Value.int .i64)) := hrow
        generalize wr.drewN nq = WR at *
        go_wp2_with (at_builtin; refine wpList_append_own _ rfl _ _ 56 rfl w.heap.size 3 i0 (.int .i64 0) 1 8 Tryz.underlying56 hi hz0 hz1 hz2 rfl (by decide) _ _ _ rfl (hrowR.alloc _) ⟨WR.heap.size, 0, none⟩ 1 1 [.int .i64 (x - y - l + 10000)] rfl rfl (cell_one_new _ _ _) (by simp [Value.oneCell']) (by unfold maxLen; omega) (by omega) (by simp; omega) ?_; intro v' w1 hown' hgrow _)
        go_roundw
        case rel => exact DONE.out _ _ _ _ _ _ hWR hsR (by omega) (by omega) hown' hgrow
        case measure => simp [intOf]; omega
      · have hdd : decide (x - y - l < 0) = false := decide_eq_false hn
        go_wp2
        go_quiet ((go_at_call 122; refine Calls.quiet_eq (digit_any b ys capb k y _ ?_ (by omega) HY.out); exact ly.later (HWR2.out _)))
        have hWR := HWR2.out nq
        have hsR : wr.heap.size ≤ (wr.drewN nq).heap.size := Nat.le_refl _
        have hrowR : (wr.drewN nq).ownsRow w.heap.size 3 1 q k ((subToD xs ys k).1.map (Value.int .i64)) := hrow
        generalize wr.drewN nq = WR at *
        go_wp2_with (at_builtin; refine wpList_append_own _ rfl _ _ 56 rfl w.heap.size 3 i0 (.int .i64 0) 1 8 Tryz.underlying56 hi hz0 hz1 hz2 rfl (by decide) _ _ _ rfl (hrowR.alloc _) ⟨WR.heap.size, 0, none⟩ 1 1 [.int .i64 (x - y - l)] rfl rfl (cell_one_new _ _ _) (by simp [Value.oneCell']) (by unfold maxLen; omega) (by omega) (by simp; omega) ?_; intro v' w1 hown' hgrow _)
        go_roundw
        case rel => exact DONE.out _ _ _ _ _ _ hWR hsR (by omega) (by omega) hown' hgrow
        case measure => simp [intOf]; omega
    · obtain rfl : k = xs.length := by omega
      have hv := val_subD wx wy hL (by omega)
      have HV := Lib.hid hv
      clear hv
      go_wp2_with fail
      refine (trimD_num HO.out (by rw [subToD_length]; omega)).mono ?_
      rintro e w' ⟨r, rfl, hr, rfl⟩
      go_wp2_with fail
      go_ret2
      have hlen : (trim (subToD xs ys xs.length).1).length ≤ xs.length := by have h := Nat.le_trans (Nat.le_of_eq (trim_length _)) (trim_le (subToD xs ys xs.length).1); rw [subToD_length] at h; exact h
      exact ⟨_, _, rfl, hb, fun h => by omega, fun _ => ⟨rfl, trim (subToD xs ys xs.length).1, ⟨hr, (subToD_wf xs ys _).trim, trim_full _, by rw [val_trimD, HV.out]⟩, hlen⟩⟩
end
section
open Go.RowKit
theorem BlkI.only {w w' : World} {g b : Nat} {zs : List Int} (h : BlkI w g zs) (k : Only b w w') (hb : g ≠ b) : BlkI w' g zs := h.same (k.block g hb)
end
section
open Go.RowKit
theorem trimQ_any (ad : Option Addr) (xs : List Int) (cap : Nat) (w : World) (hl : LimI w ad xs) (hm : xs.length ≤ 1099511627776) (hcap : xs.length ≤ cap) :
 Calls Tryz.prog 145 #[.slice ad xs.length cap] w fun e w' => e = .returned (.slice ad (trimN xs xs.length) cap) ∧ w = w' := by
 go_enter Tryz.func145, Tryz.ntmps145
 go_wp2
 go_loop [3] (fun n => ∃ j : Nat, j ≤ xs.length ∧ n = .int .i64 j ∧ trimN xs j = trimN xs xs.length) (fun n => (intOf n).toNat)
 case atStart => exact ⟨xs.length, Nat.le_refl _, rfl, rfl⟩
 case round =>
  obtain ⟨j, hj, rfl, ht⟩ := hrel
  have HT := Lib.hid ht
  clear ht
  rcases j with _ | m
  · have h0 : trimN xs xs.length = 0 := HT.out.symm
    go_wp2
    go_ret
    exact ⟨rfl, rfl⟩
  · rcases hl with rfl | ⟨b, off, rfl, hc⟩
    · simp at hj
    · have hck := hc m (by omega)
      clear hc
      go_wp2
      · have hz : xs.getD m 0 = 0 := by
         have h : (xs[m]?.getD 0 == 0) = true := by assumption
         simpa using h
        go_round
        case rel => exact ⟨m, by omega, by go_num, by rw [← HT.out]; simp only [trimN]; rw [if_pos hz]⟩
        case measure => simp [intOf]
      · have hz : xs.getD m 0 ≠ 0 := by
         have h : (xs[m]?.getD 0 == 0) = false := by assumption
         simpa using h
        have ht : trimN xs xs.length = m + 1 := by rw [← HT.out]; simp only [trimN]; rw [if_neg hz]
        go_ret
        exact ⟨by rw [ht]; simp, rfl⟩
theorem trimQ_num {base : Nat} {v : Value} {xs : List Int} {w : World} (h : NumI base w v xs) (hm : xs.length ≤ 1099511627776) :
 Calls Tryz.prog 145 #[v] w fun e w' => ∃ u, e = .returned u ∧ NumI base w u (trim xs) ∧ w = w' := by
 obtain ⟨ad, cap, rfl, hl, hc, _, _⟩ := h.read
 exact (trimQ_any ad xs cap w hl hm hc).mono fun e w' ⟨he, hw⟩ => ⟨_, he, h.cut, hw⟩
theorem sign_le {x y : Int} : sign x y ≤ 0 ↔ x ≤ y := by unfold sign; split <;> (try split) <;> omega
theorem digitQ_any {u v : Value} {rs ys : List Int} {a b : Option Addr} {capa capb : Nat} {w : World} (h1 : ArgD w u rs a capa) (h2 : ArgD w v ys b capb) (hx : rs.length ≤ 17179869184) (hy : ys.length ≤ 17179869184)
 (hlt : valD rs < valD ys * 10000) :
 Calls Tryz.prog 146 #[u, v] w fun e w' => ∃ d : Int, e = .returned (.int .i64 d) ∧ 0 ≤ d ∧ d < 10000 ∧ valD ys * d ≤ valD rs ∧ valD rs < valD ys * (d + 1) ∧ Below w.heap.size w w' := by
 have hr0 := val_nonnegD h1.wf
 go_enter Tryz.func146, Tryz.ntmps146
 go_wp2
 go_loopw [5, 6, 7] (fun lo hi _ wr => ∃ l h : Int, lo = .int .i64 l ∧ hi = .int .i64 h ∧ 0 ≤ l ∧ l < h ∧ h ≤ 10000 ∧ valD ys * l ≤ valD rs ∧ valD rs < valD ys * h ∧ Below w.heap.size w wr) (fun lo hi _ _ => (intOf hi - intOf lo).toNat)
 case atStart => exact ⟨0, 10000, rfl, rfl, by omega, by omega, by omega, by simpa using hr0, hlt, Below.refl _ _⟩
 case round =>
  obtain ⟨l, h, rfl, rfl, hl0, hlh, hh, hlo, hhi, hb⟩ := hrel
  have hsz := hb.size
  have HLO := Lib.hid hlo
  have HHI := Lib.hid hhi
  clear hlo hhi
  by_cases hgo : 1 < h - l
  · have hq : Int.tdiv (l + h) 2 = (l + h) / 2 := Int.tdiv_eq_ediv_of_nonneg (by omega)
    obtain ⟨m, hm⟩ : ∃ m, (l + h) / 2 = m := ⟨_, rfl⟩
    rw [hm] at hq
    have hm1 : l < m := by omega
    have hm2 : m < h := by omega
    clear hm
    have A1 := h1.later hb
    have A2 := h2.later hb
    go_wp2_with fail
    refine (times_any m A2 (by omega) (by omega)).mono ?_
    rintro e w2 ⟨r2, rfl, z2, q2, n2, hb2⟩
    obtain ⟨ad2, cap2, A3⟩ := q2.arg
    have A1' := A1.later hb2
    have hs2 := hb2.size
    go_wp2_with fail
    refine (cmpD_any A3 A1' (by omega) (by omega)).mono ?_
    rintro e w3 ⟨rfl, hb3⟩
    have hB3 : Below w.heap.size w w3 := (hb.trans (hb2.mono hsz)).trans (hb3.mono (by omega))
    have hv := q2.eq
    rw [hv]
    clear A1 A2 A3 A1' hb2 hb3 q2 hv
    by_cases hle : valD ys * m ≤ valD rs
    · have hd : decide (sign (valD ys * m) (valD rs) ≤ 0) = true := decide_eq_true (sign_le.2 hle)
      have HLE := Lib.hid hle
      clear hle
      go_wp2
      go_roundw
      case rel => exact ⟨m, h, rfl, rfl, by omega, hm2, hh, HLE.out, HHI.out, hB3⟩
      case measure => simp [intOf]; omega
    · have hd : decide (sign (valD ys * m) (valD rs) ≤ 0) = false := decide_eq_false (fun h => hle (sign_le.1 h))
      have HLE := Lib.hid (Int.not_le.1 hle)
      clear hle
      go_wp2
      go_roundw
      case rel => exact ⟨l, m, rfl, rfl, hl0, hm1, by omega, HLO.out, HLE.out, hB3⟩
      case measure => simp [intOf]; omega
  · obtain rfl : h = l + 1 := by omega
    go_wp2
    go_ret
    exact ⟨l, rfl, hl0, by omega, HLO.out, HHI.out, hb⟩
end
section
open Go.RowKit
theorem NumI.only {base b : Nat} {w w' : World} {v : Value} {xs : List Int} (h : NumI base w v xs) (k : Only b w w') (hb : b < base) : NumI base w' v xs := by
 obtain ⟨h1, h2⟩ := h
 refine ⟨h1, ?_⟩
 rcases h2 with h2 | ⟨g, cap, cur, rfl, hg0, hg, hc, hm, hs, ht⟩
 · exact .inl h2
 · exact .inr ⟨g, cap, cur, rfl, hg0, (k.block g (by omega)).trans hg, hc, hm, hs, ht⟩
theorem ResD.only {base b : Nat} {w w' : World} {u : Value} {zs : List Int} {n : Int} (h : ResD base w u zs n) (k : Only b w w') (hb : b < base) : ResD base w' u zs n := ⟨h.num.only k hb, h.wf, h.full, h.eq⟩
theorem NumI.nilCap {base : Nat} {w : World} {n cap : Nat} {xs : List Int} (h : NumI base w (.slice none n cap) xs) : xs = [] ∧ n = 0 ∧ cap = 0 := by
 obtain ⟨_, h2⟩ := h
 rcases h2 with ⟨e, hn⟩ | ⟨g, cap', cur, e, _⟩
 · simp only [Value.slice.injEq] at e
   exact ⟨List.eq_nil_of_length_eq_zero hn, e.2.1, e.2.2⟩
 · simp at e
theorem divD_any {u v : Value} {xs ys : List Int} {a b : Option Addr} {capa capb : Nat} {w : World} (h1 : ArgD w u xs a capa) (h2 : ArgD w v ys b capb) (hx : xs.length ≤ 8589934592) (hy : ys.length ≤ 8589934592) (hpos : 0 < valD ys) :
 Calls Tryz.prog 111 #[u, v] w fun e w' => ∃ r s, e = .returned (.tuple #[r, s]) ∧ Below w.heap.size w w' ∧ (∃ zs, ResD w.heap.size w' r zs (valD xs / valD ys) ∧ zs.length ≤ xs.length) ∧
  (∃ zs, ResD w.heap.size w' s zs (valD xs % valD ys) ∧ zs.length ≤ ys.length) := by
 obtain ⟨rfl, lx, _, wx, _⟩ := h1
 obtain ⟨i0, hi, hz0, hz1, hz2⟩ := info_parts infoInt
 obtain ⟨n, hn⟩ : ∃ n, xs.length = n := ⟨_, rfl⟩
 have hmk := makeI_runN n n (Nat.le_refl _) (by omega)
 rw [hn]
 have HN := Lib.hid hn
 rw [hn] at hx
 clear hn
 go_enter Tryz.func111, Tryz.ntmps111
 go_wp2
 go_loopw [7, 8, 9, 10, 11] (fun s i _ _ _ wr => ∃ (k : Nat) (q : Value) (rs qs : List Int), k ≤ n ∧ q = s ∧ i = .int .i64 ((n : Int) - 1 - k) ∧ BlkI wr w.heap.size (List.replicate (n - k) 0 ++ qs) ∧ qs.length = k ∧ WfD qs ∧
  ResD (w.heap.size + 1) wr q rs (valD rs) ∧ valD (xs.drop (n - k)) = valD ys * valD qs + valD rs ∧ valD rs < valD ys ∧ Below w.heap.size w wr) (fun _ i _ _ _ _ => (intOf i + 1).toNat)
 case atStart =>
  have e : xs.drop (n - 0) = [] := by rw [Nat.sub_zero, ← HN.out, List.drop_length]
  refine ⟨0, _, [], [], Nat.zero_le _, rfl, by simp, ?_, rfl, WfD.nil, ⟨World.ownsRow_nil _ _ _ _, WfD.nil, rfl, rfl⟩, by rw [e]; simp [valD], by simpa [valD] using hpos, ((Below.refl _ w).alloc (Nat.le_refl _) _)⟩
  simpa using BlkI.made w n
 case round =>
  obtain ⟨k, q, rs, qs, hk, rfl, rfl, hblk, hql, hqw, hres, hval, hlt, hb⟩ := hrel
  have hsz := hb.size
  by_cases hgo : k < n
  · rcases lx with rfl | ⟨bx, off, rfl, hc⟩
    · have := HN.out; simp at this; omega
    obtain ⟨j, hj⟩ : ∃ j, j + k + 1 = n := ⟨n - k - 1, by omega⟩
    have hji : ((n : Int) - 1 - k) = (j : Int) := by omega
    obtain ⟨x, hxk⟩ : ∃ x, xs.getD j 0 = x := ⟨_, rfl⟩
    obtain ⟨bx0, bx1⟩ : 0 ≤ x ∧ x < 10000 := hxk ▸ wx.getD j
    have hjl : j < xs.length := by have := HN.out; omega
    have hcj := hc j hjl
    rw [hxk] at hcj
    have hc0 : wr.cell? ⟨bx, off + j, none⟩ = some (.int .i64 x) := (hb.cell (p := ⟨bx, off + j, none⟩) (World.block_lt_of_cell? w _ hcj)).trans hcj
    have hge : (0 : Int) ≤ (j : Int) := by omega
    have hjn : (j : Int) < (n : Int) := by omega
    have hstep : valD (xs.drop (n - (k + 1))) = x + 10000 * valD (xs.drop (n - k)) := by
     rw [show n - (k + 1) = j from by omega, valD_drop xs j hjl, hxk, show n - k = j + 1 from by omega]
    rw [show n - k = j + 1 from by omega] at hblk
    rw [hji]
    have hrl : rs.length ≤ ys.length := by
     obtain ⟨ad, cap, A⟩ := hres.arg
     exact A.lenLe h2 (by omega)
    have hgb : w.heap.size < wr.heap.size := hblk.lt
    have HST := Lib.hid hstep
    have HV := Lib.hid hval
    have HJ := Lib.hid hj
    have HL := Lib.hid hlt
    have HB := Lib.hid hblk
    have HQ := Lib.hid hql
    clear hstep hval hj hji hxk hc hlt hblk hql
    have hs1 : w.heap.size + 1 ≤ wr.heap.size := hgb
    have hlit := NumI.lit (base := w.heap.size + 1) (w := wr) hs1 [x] (by unfold maxLen; simp)
    have hrow : (wr.alloc (.cells #[.int .i64 x] 3)).ownsRow (w.heap.size + 1) 3 1 (.slice (some ⟨wr.heap.size, 0, none⟩) 1 1) 1 [.int .i64 x] := hlit
    have hal : Below w.heap.size w (wr.alloc (.cells #[.int .i64 x] 3)) := hb.alloc hsz _
    have hba := HB.out.alloc (.cells #[.int .i64 x] 3)
    obtain ⟨ad, cap, h1q, h2q, h3q, h4q, h5q⟩ := hres.num.read
    clear h5q
    have wrs := hres.wf
    have hnumq := hres.num
    subst h1q
    clear hres
    have HN2 := Lib.hid hnumq
    clear hnumq
    cases ad
    case' none =>
     obtain ⟨hrs, hr0, hcap⟩ := HN2.out.nilCap
     subst hcap
     rw [hr0]
     have HRS := Lib.hid hrs
     clear hrs hr0
     have hrun := run_append_owned_none (P := Tryz.prog) (wr.alloc (.cells #[.int .i64 x] 3)) (w.heap.size + 1) 56 56 3 i0 1 Tryz.underlying56 hi (.slice (some ⟨wr.heap.size, 0, none⟩) 1 1) 1 [.int .i64 x] hrow
     go_wp2_with fail
     have hup : NumI (w.heap.size + 1) (wr.alloc (.cells #[.int .i64 x] 3)) (.slice (some ⟨wr.heap.size, 0, none⟩) 1 1) (x :: rs) := by rw [HRS.out]; exact hlit
     have hB1 := hal
     have hb1 := hba
     clear hrun hlit hrow hal hba h2q hc0
     generalize wr.alloc (.cells #[.int .i64 x] 3) = w1 at *
     generalize Value.slice (some ⟨wr.heap.size, 0, none⟩) 1 1 = v' at *
    case' some ad =>
     have hnews := (h2q.later ((Below.refl wr.heap.size wr).alloc (Nat.le_refl _) (.cells #[.int .i64 x] 3))).news
     go_wp2_with (at_builtin; refine wpList_append_own _ rfl _ _ 56 rfl (w.heap.size + 1) 3 i0 (.int .i64 0) 1 8 Tryz.underlying56 hi hz0 hz1 hz2 rfl (by decide) _ 1 [.int .i64 x] rfl hrow ad rs.length cap (rs.map (Value.int .i64)) rfl (by simp) hnews (ints_oneCell _ _) (by unfold maxLen; omega) (by omega) (by simp; omega) ?_; intro v' w1 hown' hgrow _)
     have hB1 : Below w.heap.size w w1 := hal.grown hgrow (by simp; omega) (fun k hk => by cases hk; exact hsz)
     have hb1 := hba.grown hgrow (fun e => by have h : w.heap.size = wr.heap.size := Option.some.inj e; omega)
     have hup : NumI (w.heap.size + 1) w1 v' (x :: rs) := by
      unfold NumI
      rw [List.length_cons, List.map_cons, Nat.add_comm rs.length 1]
      exact hown'
     clear hown' hgrow hnews hlit hrow hal hba h2q hc0
    all_goals
     have hs2 := hb1.lt
     have hR1 : ResD (w.heap.size + 1) w1 v' (x :: rs) 0 → True := fun _ => trivial
     clear hR1
     go_wp2_with fail
     refine (trimQ_num hup (by simp only [List.length_cons]; omega)).mono ?_
     rintro e w' ⟨q1, rfl, hq1, rfl⟩
     have R1 : ResD (w.heap.size + 1) w1 q1 (trim (x :: rs)) (x + 10000 * valD rs) := ⟨hq1, (WfD.cons ⟨bx0, bx1⟩ wrs).trim, trim_full _, by rw [val_trimD]; rfl⟩
     have hl1 : (trim (x :: rs)).length ≤ rs.length + 1 := Nat.le_trans (Nat.le_of_eq (trim_length _)) (trim_le (x :: rs))
     generalize trim (x :: rs) = rs1 at *
     clear hup hq1
     obtain ⟨ad1, cap1, A1⟩ := R1.arg
     have A2 := h2.later hB1
     have hV := HL.out
     go_wp2_with fail
     refine (digitQ_any A1 A2 (by omega) (by omega) (by rw [R1.eq]; omega)).mono ?_
     rintro e w2 ⟨d, rfl, d0, d1, dlo, dhi, hb2⟩
     rw [R1.eq] at dlo dhi
     have hB2 := hB1.trans (hb2.mono (by omega))
     have R2 := R1.later hb2
     have hblk2 := hb1.below hb2 (by omega)
     have hlz : (List.replicate (j + 1) 0 ++ qs).length = n := by rw [List.length_append, List.length_replicate, HQ.out]; have := HJ.out; omega
     have hcell := hblk2.cell j (by omega)
     have hfree := hblk2.free j
     have hset := hblk2.set j d
     rw [set_front] at hset
     have hO : Only w.heap.size w2 (w2.setCell ⟨w.heap.size, j, none⟩ (.int .i64 d)) := Only.set _ _ _ _
     have R3 := R2.only hO (Nat.lt_succ_self _)
     have hB3 : Below w.heap.size w (w2.setCell ⟨w.heap.size, j, none⟩ (.int .i64 d)) := hB2.setCell (p := ⟨w.heap.size, j, none⟩) (Nat.le_refl _) _
     have hs3 : w.heap.size + 1 ≤ w2.heap.size := hblk2.lt
     have hs3' : w2.heap.size = (w2.setCell ⟨w.heap.size, j, none⟩ (.int .i64 d)).heap.size := hO.size.symm
     have DLO := Lib.hid dlo
     have DHI := Lib.hid dhi
     clear A1 A2 hB1 hb1 hb2 hB2 R1 R2 hblk2 dlo dhi hO hs2 hlz
     go_wp2_with fail
     generalize w2.setCell ⟨w.heap.size, j, none⟩ (.int .i64 d) = w3 at *
     clear hcell hfree
     have A3 := h2.later hB3
     refine (times_any d A3 (by omega) (by omega)).mono ?_
     rintro e w4 ⟨r4, rfl, z4, q4, n4, hb4⟩
     have hB4 := hB3.trans (hb4.mono (by omega))
     have R4 := R3.later hb4
     have hset4 := hset.below hb4 (by omega)
     have hs4 := hb4.size
     obtain ⟨ad4, cap4, A4⟩ := R4.arg
     obtain ⟨ad5, cap5, A5⟩ := q4.arg
     clear hB3 hb4 R3 A3 hset
     go_wp2_with fail
     refine (subD_any A4 A5 (by omega) (by omega)).mono ?_
     rintro e w5 ⟨r5, f5, rfl, hb5, _, hsub⟩
     obtain ⟨rfl, z5, q5, n5⟩ := hsub (by rw [R4.eq, q4.eq]; exact DLO.out)
     have hB5 := hB4.trans (hb5.mono (by omega))
     have hset5 := hset4.below hb5 (by omega)
     have hs5 := hb5.size
     have hv5 : valD z5 = x + 10000 * valD rs - valD ys * d := by rw [q5.eq, R4.eq, q4.eq]
     have fin : ∃ (k' : Nat) (q' : Value) (rs' qs' : List Int), k' ≤ n ∧ q' = r5 ∧ Value.int .i64 ((j : Int) - 1) = .int .i64 ((n : Int) - 1 - k') ∧ BlkI w5 w.heap.size (List.replicate (n - k') 0 ++ qs') ∧ qs'.length = k' ∧ WfD qs' ∧
      ResD (w.heap.size + 1) w5 q' rs' (valD rs') ∧ valD (xs.drop (n - k')) = valD ys * valD qs' + valD rs' ∧ valD rs' < valD ys ∧ Below w.heap.size w w5 := by
      have hj := HJ.out
      refine ⟨k + 1, r5, z5, d :: qs, by omega, rfl, by congr 1; omega, ?_, by rw [List.length_cons, HQ.out], WfD.cons ⟨d0, d1⟩ hqw, ⟨q5.num.mono (by omega), q5.wf, q5.full, rfl⟩, ?_, ?_, hB5⟩
      · rw [show n - (k + 1) = j from by omega]; exact hset5
      · rw [HST.out, HV.out, hv5]
        have e : valD (d :: qs) = d + 10000 * valD qs := rfl
        have e2 : valD ys * (d + 10000 * valD qs) = valD ys * d + 10000 * (valD ys * valD qs) := by rw [Int.mul_add, Int.mul_left_comm]
        rw [e, e2]
        omega
      · rw [hv5]
        have h := DHI.out
        rw [Int.mul_add, Int.mul_one] at h
        omega
     have FIN := Lib.hid fin
     clear fin hset5 hset4 hB5 hB4 hb5 A4 A5 R4 q4 q5 hv5
     go_wp2
     go_roundw
     case rel => exact FIN.out
     case measure => simp [intOf]
  · obtain rfl : k = n := by omega
    have hji : ((k : Int) - 1 - k) = -1 := by omega
    rw [hji]
    clear hji
    rw [Nat.sub_self] at hblk hval
    rw [List.drop_zero] at hval
    rw [List.replicate_zero, List.nil_append] at hblk
    have hnum := NumI.ofBlk hblk (Nat.le_refl _) k (by omega) (by rw [hql]; unfold maxLen; omega)
    rw [hql, List.take_of_length_le (by omega)] at hnum
    have hr0 := val_nonnegD hres.wf
    obtain ⟨e1, e2⟩ := quo_eq (V := valD qs) (d := valD ys) (r := valD rs) (N := valD xs) hpos (by rw [hval, Int.mul_comm]) ⟨hr0, hlt⟩
    have hrl : rs.length ≤ ys.length := by
     obtain ⟨ad, cap, A⟩ := hres.arg
     exact A.lenLe h2 (by omega)
    have hlen : (trim qs).length ≤ k := by have h := Nat.le_trans (Nat.le_of_eq (trim_length _)) (trim_le qs); omega
    have E1 := Lib.hid e1
    have E2 := Lib.hid e2
    clear hblk e1 e2 hval hlt
    go_wp2_with fail
    refine (trimQ_num hnum (by omega)).mono ?_
    rintro e w' ⟨p, rfl, hp, rfl⟩
    go_wp2_with fail
    go_ret2
    exact ⟨p, q, rfl, hb, ⟨trim qs, ⟨hp, hqw.trim, trim_full _, by rw [val_trimD, E1.out]⟩, hlen⟩, ⟨rs, ⟨hres.num.mono (Nat.le_succ _), hres.wf, hres.full, E2.out⟩, hrl⟩⟩
end
section
open Go.RowKit
theorem posD {ds : List Int} {a : Option Addr} {cap : Nat} {w : World} {u : Value} (h : ArgD w u ds a cap) (hl : 0 < ds.length) : 0 < valD ds := by
 have h1 := full_geD h.wf h.full (ds.length - 1) (by omega)
 have h2 := pow_posD (ds.length - 1)
 omega
theorem gcdD_any {u v : Value} {xs ys : List Int} {a b : Option Addr} {capa capb : Nat} {w : World} (h1 : ArgD w u xs a capa) (h2 : ArgD w v ys b capb) (hx : xs.length ≤ 8589934592) (hy : ys.length ≤ 8589934592) :
 Calls Tryz.prog 110 #[u, v] w fun e w' => ∃ r, e = .returned r ∧ ∃ zs ad cap, ArgD w' r zs ad cap ∧ valD zs = (Int.gcd (valD xs) (valD ys) : Int) ∧ zs.length ≤ max xs.length ys.length ∧ Below w.heap.size w w' := by
 obtain ⟨m, hm⟩ : ∃ m, max xs.length ys.length = m := ⟨_, rfl⟩
 have hm2 : m ≤ 8589934592 := by omega
 have hmx : xs.length ≤ m := by omega
 have hmy : ys.length ≤ m := by omega
 rw [hm]
 clear hm hx hy
 go_enter Tryz.func110, Tryz.ntmps110
 go_wp2
 go_loopw [0, 1, 5, 6] (fun p q _ _ wr => ∃ (p' q' : Value) (us vs : List Int) (ad bd : Option Addr) (cp cq : Nat), p' = p ∧ q' = q ∧ ArgD wr p' us ad cp ∧ ArgD wr q' vs bd cq ∧ us.length ≤ m ∧ vs.length ≤ m ∧ Int.gcd (valD us) (valD vs) = Int.gcd (valD xs) (valD ys) ∧ Below w.heap.size w wr) (fun _ q _ _ wr => leftD wr q)
 case atStart => exact ⟨u, v, xs, ys, a, b, capa, capb, rfl, rfl, h1, h2, hmx, hmy, rfl, Below.refl _ _⟩
 case round =>
  obtain ⟨p, q, us, vs, ad, bd, cp, cq, rfl, rfl, A1, A2, hu, hv, hg, hb⟩ := hrel
  have hsz := hb.size
  have HG := Lib.hid hg
  clear hg
  have hq := A2.is
  by_cases hgo : 0 < vs.length
  · have hgo2 : (0 : Int) < (vs.length : Int) := by omega
    have hpos := posD A2 hgo
    have hleft := A2.left
    subst hq
    go_wp2_with fail
    refine (divD_any A1 A2 (by omega) (by omega) hpos).mono ?_
    rintro e w2 ⟨r2, s2, rfl, hb2, _, ⟨z2, q2, n2⟩⟩
    obtain ⟨ad2, cap2, A3⟩ := q2.arg
    have A2' := A2.later hb2
    have hB2 := hb.trans (hb2.mono hsz)
    have hl2 := A3.left
    have hr1 := Int.emod_lt_of_pos (valD us) hpos
    have hr2 := Int.emod_nonneg (valD us) (show valD vs ≠ 0 by omega)
    have hm3 : leftD w2 s2 < leftD wr (.slice bd vs.length cq) := by rw [hleft, hl2, q2.eq]; omega
    have hg3 : Int.gcd (valD vs) (valD z2) = Int.gcd (valD xs) (valD ys) := by rw [q2.eq, gcd_step]; exact HG.out
    have HG3 := Lib.hid hg3
    have HM3 := Lib.hid hm3
    clear hg3 hm3 hr1 hr2 hl2 hleft q2 A1 A2 hb2
    go_wp2
    go_roundw
    case rel => exact ⟨_, _, vs, z2, bd, ad2, cq, cap2, rfl, rfl, A2', A3, hv, by omega, HG3.out, hB2⟩
    case measure => exact HM3.out
  · have h0 : vs.length = 0 := by omega
    have hvs : vs = [] := List.eq_nil_of_length_eq_zero h0
    have hg := HG.out
    rw [hvs] at hg
    have hfin : valD us = (Int.gcd (valD xs) (valD ys) : Int) := by rw [← hg]; simp only [valD]; exact (gcd_end (val_nonnegD A1.wf)).symm
    have HF := Lib.hid hfin
    rw [h0] at hq
    subst hq
    clear hfin hg A2 hvs h0 hgo
    go_wp2
    go_ret
    exact ⟨_, rfl, us, ad, cp, A1, HF.out, hu, hb⟩
end
section
open Go.RowKit Go.ChangeShapes Go.WideShapes Go.ChangeAt
theorem lenD_pos {ds : List Int} (h : 0 < valD ds) : ((ds.length : Int) == 0) = false := by
 cases ds with
 | nil => simp [valD] at h
 | cons x l => simp; omega
theorem lenD_zero {ds : List Int} (h : WfD ds) (f : trimN ds ds.length = ds.length) (e : valD ds = 0) : ((ds.length : Int) == 0) = true := by rw [valD_zero h f e]; rfl
end
section
open Go.RowKit
theorem sgn_num (x : Rat) : sgn (decide (x.num < 0)) (x.num.natAbs : Int) = x.num := by
 by_cases h : x.num < 0
 · rw [decide_eq_true h, sgn_neg]; omega
 · rw [decide_eq_false h, sgn_pos]; omega
theorem x_eq (x : Rat) : x = Rat.divInt x.num x.den := (Rat.num_divInt_den x).symm
theorem rat_mul (x y : Rat) : ratOf ((decide (x.num < 0)) != (decide (y.num < 0))) ((x.num.natAbs : Int) * (y.num.natAbs : Int)) ((x.den : Int) * (y.den : Int)) = x * y := by
 unfold ratOf
 rw [← sgn_mul, sgn_num, sgn_num]
 conv => rhs; rw [x_eq x, x_eq y]
 rw [Rat.divInt_mul_divInt]
theorem rat_add_same (x y : Rat) (h : decide (x.num < 0) = decide (y.num < 0)) :
 ratOf (decide (x.num < 0)) ((x.num.natAbs : Int) * (y.den : Int) + (y.num.natAbs : Int) * (x.den : Int)) ((x.den : Int) * (y.den : Int)) = x + y := by
 have e : sgn (decide (x.num < 0)) ((x.num.natAbs : Int) * (y.den : Int) + (y.num.natAbs : Int) * (x.den : Int)) = x.num * y.den + y.num * x.den := by
  have h1 := sgn_num x
  have h2 := sgn_num y
  rw [← h] at h2
  generalize decide (x.num < 0) = s at *
  generalize (x.num.natAbs : Int) = X at *
  generalize (y.num.natAbs : Int) = Y at *
  rw [← h1, ← h2]
  cases s
  · simp only [sgn_pos]
  · simp only [sgn_neg, Int.neg_mul]; omega
 unfold ratOf
 rw [e]
 conv => rhs; rw [x_eq x, x_eq y]
 rw [Rat.divInt_add_divInt _ _ (by have := den_pos' x; omega) (by have := den_pos' y; omega)]
theorem rat_add_left (x y : Rat) (h : decide (x.num < 0) ≠ decide (y.num < 0)) :
 ratOf (decide (x.num < 0)) ((x.num.natAbs : Int) * (y.den : Int) - (y.num.natAbs : Int) * (x.den : Int)) ((x.den : Int) * (y.den : Int)) = x + y := by
 have e : sgn (decide (x.num < 0)) ((x.num.natAbs : Int) * (y.den : Int) - (y.num.natAbs : Int) * (x.den : Int)) = x.num * y.den + y.num * x.den := by
  have h1 := sgn_num x
  have h2 := sgn_num y
  by_cases hx : x.num < 0
  · have hy : ¬ y.num < 0 := fun hy => h (by rw [decide_eq_true hx, decide_eq_true hy])
    rw [decide_eq_true hx, sgn_neg]
    rw [show x.num = -(x.num.natAbs : Int) by omega, show y.num = (y.num.natAbs : Int) by omega]
    simp only [Int.neg_mul, Int.natAbs_neg, Int.natAbs_natCast]; omega
  · have hy : y.num < 0 := by
     rcases Int.lt_or_le y.num 0 with k | k
     · exact k
     · exact absurd (by rw [decide_eq_false hx, decide_eq_false (by omega)]) h
    rw [decide_eq_false hx, sgn_pos]
    rw [show x.num = (x.num.natAbs : Int) by omega, show y.num = -(y.num.natAbs : Int) by omega]
    simp only [Int.neg_mul, Int.natAbs_neg, Int.natAbs_natCast]; omega
 unfold ratOf
 rw [e]
 conv => rhs; rw [x_eq x, x_eq y]
 rw [Rat.divInt_add_divInt _ _ (by have := den_pos' x; omega) (by have := den_pos' y; omega)]
theorem rat_add_right (x y : Rat) (h : decide (x.num < 0) ≠ decide (y.num < 0)) :
 ratOf (decide (y.num < 0)) ((y.num.natAbs : Int) * (x.den : Int) - (x.num.natAbs : Int) * (y.den : Int)) ((x.den : Int) * (y.den : Int)) = x + y := by
 rw [Rat.add_comm, Int.mul_comm (x.den : Int)]
 exact rat_add_left y x (Ne.symm h)
end
section
open Go.RowKit
theorem makeRR_any {n : Nat} {w : World} {m1 : Bool} {xs ds : List Int} {a1 a2 : Option Addr} {c1 c2 : Nat} (A : ArgD w (.slice a1 xs.length c1) xs a1 c1) (B : ArgD w (.slice a2 ds.length c2) ds a2 c2) (hx : xs.length ≤ n) (hd : ds.length ≤ n) (hn : n ≤ 4294967296) :
 Calls Tryz.prog 71 #[.bool m1, .slice a1 xs.length c1, .slice a2 ds.length c2] w fun e w' => ∃ r, e = .returned r ∧ ResR w.heap.size w' r (ratOf m1 (valD xs) (valD ds)) (n + 1) ∧ Below w.heap.size w w' := by
 have h0x := val_nonnegD A.wf
 have h0d := val_nonnegD B.wf
 obtain ⟨W, hW⟩ : ∃ W, (w.alloc (.cells #[.bool false, .slice none 0 0, .slice none 0 0] 58)) = W := ⟨_, rfl⟩
 have R0 : Row W (w.heap.size) 58 #[.bool false, .slice none 0 0, .slice none 0 0] := by rw [← hW]; exact (Row.new _ _ _)
 have hBW : Below w.heap.size w W := by rw [← hW]; exact ((Below.refl _ _).alloc (by (try simp) <;> omega) _)
 have hsW : w.heap.size + 1 ≤ W.heap.size := by rw [← hW]; simp
 by_cases z1 : valD xs = 0
 · have d1 := lenD_zero A.wf A.full z1
   have hX : ratOf m1 (valD xs) (valD ds) = 0 := by rw [z1]; exact ratOf_zero_left _ _
   have HX := Lib.hid hX
   have hb2 : Below W.heap.size W (W.alloc (.cells #[.int .i64 1] 3)) := (Below.refl _ _).alloc (Nat.le_refl _) _
   have L := digit_lit (Row.new W 3 #[.int .i64 1]) (by omega)
   have R0' := R0.later hb2
   obtain ⟨u0, u1, u2, g0, g1, g2⟩ := R0'.three
   obtain ⟨p0, p1, p2, p3, p4, p5⟩ := R0.three
   clear hX
   go_enter Tryz.func71, Tryz.ntmps71
   go_wp2_with fail
   refine bodyPost_ret (v := .agg #[.bool false, .slice none 0 0, .slice (some ⟨W.heap.size, 0, none⟩) 1 1]) (by simp [results, Tryz.results71, go_sem, u0, u1, u2]) rfl ⟨_, rfl, ⟨[], [1], none, some ⟨W.heap.size, 0, none⟩, 0, 1, ?_, ?_, ?_, by simp, by simp⟩, ?_⟩
   · rw [HX.out]; rfl
   · rw [HX.out]; exact ⟨⟨rfl, .inl ⟨rfl, rfl⟩⟩, WfD.nil, rfl, rfl⟩
   · rw [HX.out]; exact (ResD.one W (by omega)).far R0' (by decide) (kept3 _ _ _)
   · exact below_set3 (hBW.trans (hb2.mono (by omega))) (by omega) _ _ _
 by_cases z2 : valD ds = 0
 · have d1 := lenD_pos (show 0 < valD xs by omega)
   have d2 := lenD_zero B.wf B.full z2
   have hX : ratOf m1 (valD xs) (valD ds) = 0 := by rw [z2]; exact ratOf_zero_right _ _
   have HX := Lib.hid hX
   have hb2 : Below W.heap.size W (W.alloc (.cells #[.int .i64 1] 3)) := (Below.refl _ _).alloc (Nat.le_refl _) _
   have L := digit_lit (Row.new W 3 #[.int .i64 1]) (by omega)
   have R0' := R0.later hb2
   obtain ⟨u0, u1, u2, g0, g1, g2⟩ := R0'.three
   obtain ⟨p0, p1, p2, p3, p4, p5⟩ := R0.three
   clear hX
   go_enter Tryz.func71, Tryz.ntmps71
   go_wp2_with fail
   refine bodyPost_ret (v := .agg #[.bool false, .slice none 0 0, .slice (some ⟨W.heap.size, 0, none⟩) 1 1]) (by simp [results, Tryz.results71, go_sem, u0, u1, u2]) rfl ⟨_, rfl, ⟨[], [1], none, some ⟨W.heap.size, 0, none⟩, 0, 1, ?_, ?_, ?_, by simp, by simp⟩, ?_⟩
   · rw [HX.out]; rfl
   · rw [HX.out]; exact ⟨⟨rfl, .inl ⟨rfl, rfl⟩⟩, WfD.nil, rfl, rfl⟩
   · rw [HX.out]; exact (ResD.one W (by omega)).far R0' (by decide) (kept3 _ _ _)
   · exact below_set3 (hBW.trans (hb2.mono (by omega))) (by omega) _ _ _
 have hpx : 0 < valD xs := by omega
 have hpd : 0 < valD ds := by omega
 have d1 := lenD_pos hpx
 have d2 := lenD_pos hpd
 have A' := A.later hBW
 have B' := B.later hBW
 have e1 := ratOf_neg (n := m1) h0x hpd (fun h => absurd h z1)
 have e2 := ratOf_abs (n := m1) h0x hpd
 have e3 := ratOf_den (n := m1) (A := valD xs) hpd
 have hgp : 0 < (Int.gcd (valD xs) (valD ds) : Int) := gcd_pos hpx
 have E1 := Lib.hid e1
 have E2 := Lib.hid e2
 have E3 := Lib.hid e3
 clear e1 e2 e3 z1 z2
 go_enter Tryz.func71, Tryz.ntmps71
 go_wp2_with fail
 refine (gcdD_any A' B' (by omega) (by omega)).mono ?_
 rintro e w1 ⟨r1, rfl, gs, gd, gc, G, hG, lG, hb1⟩
 have hs1 := hb1.size
 have A1 := A'.later hb1
 have B1 := B'.later hb1
 have hgs : 0 < valD gs := by rw [hG]; exact hgp
 have HG := Lib.hid hG
 have eG := G.is
 subst eG
 clear hG hgp hW
 go_wp2_with fail
 refine (divD_any A1 G (by omega) (by omega) hgs).mono ?_
 rintro e w2 ⟨r2, s2, rfl, hb2, ⟨z2, q2, l2⟩, _⟩
 have hs2 := hb2.size
 obtain ⟨ad2, cp2, rfl, q2, A2⟩ := q2.slice
 have B2 := B1.later hb2
 have G2 := G.later hb2
 go_wp2_with fail
 refine (divD_any B2 G2 (by omega) (by omega) hgs).mono ?_
 rintro e w3 ⟨r3, s3, rfl, hb3, ⟨z3, q3, l3⟩, _⟩
 have hs3 := hb3.size
 obtain ⟨ad3, cp3, rfl, q3, A3⟩ := q3.slice
 have A2' := A2.later hb3
 have P3 := ((R0.later hb1).later hb2).later hb3
 have v2 := q2.eq
 have v3 := q3.eq
 rw [HG.out] at v2 v3
 have V2 := Lib.hid v2
 have V3 := Lib.hid v3
 have Q2 := Lib.hid (q2.later hb3)
 have Q3 := Lib.hid q3
 clear v2 v3 q2 q3
 obtain ⟨u0, u1, u2, g0, g1, g2⟩ := P3.three
 go_wp2_with fail
 refine bodyPost_ret (v := .agg #[.bool m1, .slice ad2 z2.length cp2, .slice ad3 z3.length cp3]) (by simp [results, Tryz.results71, go_sem, u0, u1, u2]) rfl ⟨_, rfl, ⟨z2, z3, ad2, ad3, cp2, cp3, by rw [E1.out], ?_, ?_, by omega, by omega⟩, ?_⟩
 · exact ((Q2.out.mono (by omega)).far P3 (by decide) (kept3 _ _ _)).eqTo (by rw [V2.out, E2.out])
 · exact ((Q3.out.mono (by omega)).far P3 (by decide) (kept3 _ _ _)).eqTo (by rw [V3.out, E3.out])
 · exact below_set3 (((hBW.trans (hb1.mono (by omega))).trans (hb2.mono (by omega))).trans (hb3.mono (by omega))) (by omega) _ _ _
theorem ofRR_any {n : Nat} {w : World} {v : Value} {X : Rat} (h : ArgQ w v X n) (hn : n ≤ 134217728) :
 Calls Tryz.prog 29 #[v] w fun e w' => ∃ r, e = .returned r ∧ ResR w.heap.size w' r X (5 * n + 1) ∧ Below w.heap.size w w' := by
 obtain ⟨m1, xs, ds, a1, a2, c1, c2, rfl, A, B, hX, hx, hd⟩ := h
 obtain ⟨W, hW⟩ : ∃ W, ((w.alloc (.cells #[.bool m1, .slice a1 xs.length c1, .slice a2 ds.length c2] 54)).alloc (.cells #[.bool false, .slice none 0 0, .slice none 0 0] 58)) = W := ⟨_, rfl⟩
 have R0 : Row W (w.heap.size) 54 #[.bool m1, .slice a1 xs.length c1, .slice a2 ds.length c2] := by rw [← hW]; exact ((Row.new _ _ _).alloc _)
 have R1 : Row W (w.heap.size + 1) 58 #[.bool false, .slice none 0 0, .slice none 0 0] := by rw [← hW]; have h := (Row.new (w.alloc (.cells #[.bool m1, .slice a1 xs.length c1, .slice a2 ds.length c2] 54)) 58 #[.bool false, .slice none 0 0, .slice none 0 0]); simp only [World.size_alloc] at h; exact h
 have hBW : Below w.heap.size w W := by rw [← hW]; exact (((Below.refl _ _).alloc (by (try simp) <;> omega) _).alloc (by (try simp) <;> omega) _)
 have hsW : w.heap.size + 1 + 1 ≤ W.heap.size := by rw [← hW]; simp
 have HX := Lib.hid hX
 clear hX
 have mkS : ∀ X, Kept (w.heap.size + 1) W X → X.cell? ⟨w.heap.size, 0, none⟩ = some (.bool m1) ∧ X.cell? ⟨w.heap.size, 1, none⟩ = some (.slice a1 xs.length c1) ∧ X.cell? ⟨w.heap.size, 2, none⟩ = some (.slice a2 ds.length c2) ∧ Kept (w.heap.size + 1) W X := fun X h => ⟨(R0.kept h (by omega)).cell 0, (R0.kept h (by omega)).cell 1, (R0.kept h (by omega)).cell 2, h⟩
 go_enter Tryz.func29, Tryz.ntmps29
 go_wp2_with fail
 clear hW
 go_region_held3 (fun X => X.cell? ⟨w.heap.size, 0, none⟩ = some (.bool m1) ∧ X.cell? ⟨w.heap.size, 1, none⟩ = some (.slice a1 xs.length c1) ∧ X.cell? ⟨w.heap.size, 2, none⟩ = some (.slice a2 ds.length c2) ∧ Kept (w.heap.size + 1) W X)
  (((refine mkS _ ?_; (repeat' (first | exact Kept.refl _ _ | refine Kept.drew ?_ | refine Kept.alloc ?_ _ | refine Kept.set ?_ _ _ | refine Kept.below ?_ (by assumption))))))
  ((first
    | (go_at_call 71; refine (makeRR_any (n := 5 * n) (A3.later hb4) A4 (by omega) (by omega) (by omega)).mono ?_; rintro e w5 ⟨r5, rfl, q5, hb5⟩; rw [HV.out] at q5; obtain ⟨fs, gs, f1, f2, j1, j2, e5, _⟩ := id q5; subst e5; have P5 := R1.kept (show Kept (w.heap.size + 1 + 1 + 1) W w5 by (repeat' (first | exact Kept.refl _ _ | refine Kept.drew ?_ | refine Kept.alloc ?_ _ | refine Kept.set ?_ _ _ | refine Kept.below ?_ (by assumption)))) (by omega); obtain ⟨u0, u1, u2, g0, g1, g2⟩ := P5.three)
    | (go_at_call 72; (with_reducible refine (of_any (B.later (Kept.under (show Kept (w.heap.size + 1) W _ by (repeat' (first | exact Kept.refl _ _ | refine Kept.drew ?_ | refine Kept.alloc ?_ _ | refine Kept.set ?_ _ _ | refine Kept.below ?_ (by assumption)))) hBW (by omega) (by omega))) (by omega)).mono ?_); rintro e w4 ⟨r4, rfl, z4, q4, l4, hb4⟩; obtain ⟨ad4, cp4, rfl, q4, A4⟩ := q4.slice; have HV := Lib.hid ((show ratOf m1 (valD z3) (valD z4) = ratOf m1 (val xs) (val ds) by rw [q3.eq, q4.eq]).trans HX.out))
    | (go_at_call 72; (with_reducible refine (of_any (A.later (Kept.under (show Kept (w.heap.size + 1) W _ by (repeat' (first | exact Kept.refl _ _ | refine Kept.drew ?_ | refine Kept.alloc ?_ _ | refine Kept.set ?_ _ _ | refine Kept.below ?_ (by assumption)))) hBW (by omega) (by omega))) (by omega)).mono ?_); rintro e w3 ⟨r3, rfl, z3, q3, l3, hb3⟩; obtain ⟨ad3, cp3, rfl, q3, A3⟩ := q3.slice)))
 have hs5 := hb5.size
 have hk5 := (show Kept (w.heap.size + 1 + 1 + 1) W w5 by (repeat' (first | exact Kept.refl _ _ | refine Kept.drew ?_ | refine Kept.alloc ?_ _ | refine Kept.set ?_ _ _ | refine Kept.below ?_ (by assumption)))).size
 have hk4 := (show Kept (w.heap.size + 1 + 1 + 1) W w4 by (repeat' (first | exact Kept.refl _ _ | refine Kept.drew ?_ | refine Kept.alloc ?_ _ | refine Kept.set ?_ _ _ | refine Kept.below ?_ (by assumption)))).size
 have hK5 := (Kept.under (show Kept (w.heap.size + 1 + 1 + 1) W w5 by (repeat' (first | exact Kept.refl _ _ | refine Kept.drew ?_ | refine Kept.alloc ?_ _ | refine Kept.set ?_ _ _ | refine Kept.below ?_ (by assumption)))) hBW (by omega) (by omega))
 go_wp2_with fail
 refine bodyPost_ret (v := .agg #[.bool (decide (X.num < 0)), .slice f1 fs.length j1, .slice f2 gs.length j2]) (by simp [results, Tryz.results29, go_sem, u0, u1, u2]) rfl ⟨_, rfl, ?_, below_set3 hK5 (by omega) _ _ _⟩
 exact (q5.far P5 (by decide) (kept3 _ _ _)).mono (by omega)
end
section
open Go.RowKit
theorem FitQ.mul {X Y : Rat} {a b : Nat} (h : FitQ X a) (k : FitQ Y b) : FitQ (X * Y) (a + b) := by
 rw [← rat_mul]
 have e1 := two_pow_mul a b h.1 k.1
 have e2 := two_pow_mul a b h.2 k.2
 refine FitQ.of (Int.mul_nonneg (Int.natCast_nonneg _) (Int.natCast_nonneg _)) (Int.mul_nonneg (Int.natCast_nonneg _) (Int.natCast_nonneg _)) ?_ ?_
 · rw [← Int.natCast_mul]; omega
 · rw [← Int.natCast_mul]; omega
theorem full_last {zs : List Int} (hf : trimN zs zs.length = zs.length) (hn : zs ≠ []) : zs.getD (zs.length - 1) 0 ≠ 0 := by
 obtain ⟨n, hl⟩ : ∃ n, zs.length = n + 1 := ⟨zs.length - 1, by have := List.length_pos_iff.2 hn; omega⟩
 rw [hl] at hf ⊢
 intro e
 rw [show n + 1 - 1 = n by omega] at e
 unfold trimN at hf
 rw [if_pos e] at hf
 have : ∀ (k : Nat), trimN zs k ≤ k := fun k => by
  induction k with
  | zero => exact Nat.le_refl _
  | succ k ih => unfold trimN; split <;> omega
 have := this n
 omega
theorem lenD_le {zs : List Int} {b : Nat} (hw : WfD zs) (hf : trimN zs zs.length = zs.length) (h : valD zs ≤ ((2 ^ b : Nat) : Int)) : zs.length ≤ b / 13 + 1 := by
 by_cases hn : zs = []
 · subst hn; simp
 · obtain ⟨n, hl⟩ : ∃ n, zs.length = n + 1 := ⟨zs.length - 1, by have := List.length_pos_iff.2 hn; omega⟩
   have hx := full_last hf hn
   have hd := hw.getD (zs.length - 1)
   have ht := val_take_succD zs n
   have h0 := val_nonnegD (hw.take n)
   rw [hl, show n + 1 - 1 = n by omega] at hx hd
   rw [List.take_of_length_le (by omega)] at ht
   obtain ⟨P, hP⟩ : ∃ P : Nat, 10000 ^ n = P := ⟨_, rfl⟩
   have hPI : (10000 : Int) ^ n = (P : Int) := by rw [← hP, Int.natCast_pow]; rfl
   rw [hPI] at ht
   have h1 : (P : Int) * 1 ≤ (P : Int) * zs.getD n 0 := Int.mul_le_mul_of_nonneg_left (by omega) (Int.natCast_nonneg _)
   have h2 : 2 ^ (13 * n) ≤ P := by rw [← hP, Nat.pow_mul]; exact Nat.pow_le_pow_left (by omega) n
   have h3 : 2 ^ (13 * n) ≤ 2 ^ b := by omega
   have h4 : 13 * n ≤ b := (Nat.pow_le_pow_iff_right (by omega)).1 h3
   omega
end
section
open Go.RowKit
theorem emptyT_any {w : World} (v : Value) (sa sb : Option Addr) (n m ca cb : Nat) (hv : v = .agg #[.slice sa n ca, .slice sb m cb]) :
 Calls Tryz.prog 49 #[v] w fun e w' => e = .returned (.bool (decide (n = 0) && decide (m = 0))) ∧ Below w.heap.size w w' := by
 subst hv
 obtain ⟨W, hW⟩ : ∃ W, (w.alloc (.cells #[.slice sa n ca, .slice sb m cb] 26)) = W := ⟨_, rfl⟩
 have R0 : Row W w.heap.size 26 #[.slice sa n ca, .slice sb m cb] := by rw [← hW]; exact Row.new _ _ _
 have hBW : Below w.heap.size w W := by rw [← hW]; exact (Below.refl _ _).alloc (by simp) _
 obtain ⟨c0, c1, _, _⟩ := R0.two
 by_cases h0 : n = 0
 · subst h0
   by_cases h1 : m = 0
   · subst h1
     go_enter Tryz.func49, Tryz.ntmps49
     go_wp2
     go_ret
     exact ⟨rfl, hBW⟩
   · have h1I : ((m : Int) == 0) = false := by simp; omega
     rw [decide_eq_false h1]
     clear h1
     go_enter Tryz.func49, Tryz.ntmps49
     go_wp2
     go_ret
     exact ⟨rfl, hBW⟩
 · have h0I : ((n : Int) == 0) = false := by simp; omega
   rw [decide_eq_false h0]
   clear h0
   go_enter Tryz.func49, Tryz.ntmps49
   go_wp2
   go_ret
   exact ⟨rfl, hBW⟩
end
section
open Go.RowKit
theorem ofT_tens {base n : Nat} {w : World} {a b : Option Addr} {ca cb m : Nat} {s : List Int} {L : List Rat} (hm : m = L.length) (S : ResS base w (.slice a s.length ca) s) (E : RowO base 58 (fun W v x => ResR base W v x n) w (.slice b m cb) L) :
 TensR w (.agg #[.slice a s.length ca, .slice b m cb]) s L n a ca b cb := by
 subst hm
 exact ⟨rfl, S.at_.2.1, S.at_.2.2, E.at_.2.1.imp (fun v x _ h => h.arg), E.at_.2.2⟩
end
section
open Go.RowKit
theorem mulRR_gen {n : Nat} {w : World} {m1 m2 : Bool} {xs ds zs es : List Int} {a1 a2 a3 a4 : Option Addr} {c1 c2 c3 c4 : Nat}
 (A : ArgD w (.slice a1 xs.length c1) xs a1 c1) (B : ArgD w (.slice a2 ds.length c2) ds a2 c2) (C : ArgD w (.slice a3 zs.length c3) zs a3 c3) (D : ArgD w (.slice a4 es.length c4) es a4 c4)
 (hx : xs.length ≤ n) (hd : ds.length ≤ n) (hz : zs.length ≤ n) (he : es.length ≤ n) (hn : n ≤ 1000000000) :
 Calls Tryz.prog 54 #[.agg #[.bool m1, .slice a1 xs.length c1, .slice a2 ds.length c2], .agg #[.bool m2, .slice a3 zs.length c3, .slice a4 es.length c4]] w fun e w' => ∃ r, e = .returned r ∧ ResR w.heap.size w' r (ratOf m1 (valD xs) (valD ds) * ratOf m2 (valD zs) (valD es)) (3 * n + 5) ∧ Below w.heap.size w w' := by
 obtain ⟨X, hX⟩ : ∃ X, ratOf m1 (valD xs) (valD ds) * ratOf m2 (valD zs) (valD es) = X := ⟨_, rfl⟩
 have hfin : ratOf (!(m1 == m2)) (valD xs * valD zs) (valD ds * valD es) = X := by rw [← hX]; exact rat_prod m1 m2 _ _ _ _
 have HF := Lib.hid hfin
 rw [hX]
 clear hfin hX
 obtain ⟨W, hW⟩ : ∃ W, (((w.alloc (.cells #[.bool m1, .slice a1 xs.length c1, .slice a2 ds.length c2] 58)).alloc (.cells #[.bool m2, .slice a3 zs.length c3, .slice a4 es.length c4] 58)).alloc (.cells #[.bool false, .slice none 0 0, .slice none 0 0] 58)) = W := ⟨_, rfl⟩
 have R0 : Row W (w.heap.size) 58 #[.bool m1, .slice a1 xs.length c1, .slice a2 ds.length c2] := by rw [← hW]; exact (((Row.new _ _ _).alloc _).alloc _)
 have R1 : Row W (w.heap.size + 1) 58 #[.bool m2, .slice a3 zs.length c3, .slice a4 es.length c4] := by rw [← hW]; have h := (Row.new (w.alloc (.cells #[.bool m1, .slice a1 xs.length c1, .slice a2 ds.length c2] 58)) 58 #[.bool m2, .slice a3 zs.length c3, .slice a4 es.length c4]); simp only [World.size_alloc] at h; exact (h.alloc _)
 have R2 : Row W (w.heap.size + 1 + 1) 58 #[.bool false, .slice none 0 0, .slice none 0 0] := by rw [← hW]; have h := (Row.new ((w.alloc (.cells #[.bool m1, .slice a1 xs.length c1, .slice a2 ds.length c2] 58)).alloc (.cells #[.bool m2, .slice a3 zs.length c3, .slice a4 es.length c4] 58)) 58 #[.bool false, .slice none 0 0, .slice none 0 0]); simp only [World.size_alloc] at h; exact h
 have hBW : Below w.heap.size w W := by rw [← hW]; exact ((((Below.refl _ _).alloc (by (try simp) <;> omega) _).alloc (by (try simp) <;> omega) _).alloc (by (try simp) <;> omega) _)
 have hsW : w.heap.size + 1 + 1 + 1 ≤ W.heap.size := by rw [← hW]; simp
 have mkS : ∀ X, Kept (w.heap.size + 1 + 1) W X → X.cell? ⟨w.heap.size, 0, none⟩ = some (.bool m1) ∧ X.cell? ⟨w.heap.size, 1, none⟩ = some (.slice a1 xs.length c1) ∧ X.cell? ⟨w.heap.size, 2, none⟩ = some (.slice a2 ds.length c2) ∧ X.cell? ⟨w.heap.size + 1, 0, none⟩ = some (.bool m2) ∧ X.cell? ⟨w.heap.size + 1, 1, none⟩ = some (.slice a3 zs.length c3) ∧ X.cell? ⟨w.heap.size + 1, 2, none⟩ = some (.slice a4 es.length c4) ∧ Kept (w.heap.size + 1 + 1) W X := fun X h => ⟨(R0.kept h (by omega)).cell 0, (R0.kept h (by omega)).cell 1, (R0.kept h (by omega)).cell 2, (R1.kept h (by omega)).cell 0, (R1.kept h (by omega)).cell 1, (R1.kept h (by omega)).cell 2, h⟩
 go_enter Tryz.func54, Tryz.ntmps54
 go_wp2_with fail
 clear hW
 go_region_held3 (fun X => X.cell? ⟨w.heap.size, 0, none⟩ = some (.bool m1) ∧ X.cell? ⟨w.heap.size, 1, none⟩ = some (.slice a1 xs.length c1) ∧ X.cell? ⟨w.heap.size, 2, none⟩ = some (.slice a2 ds.length c2) ∧ X.cell? ⟨w.heap.size + 1, 0, none⟩ = some (.bool m2) ∧ X.cell? ⟨w.heap.size + 1, 1, none⟩ = some (.slice a3 zs.length c3) ∧ X.cell? ⟨w.heap.size + 1, 2, none⟩ = some (.slice a4 es.length c4) ∧ Kept (w.heap.size + 1 + 1) W X)
  (((refine mkS _ ?_; (repeat' (first | exact Kept.refl _ _ | refine Kept.drew ?_ | refine Kept.alloc ?_ _ | refine Kept.set ?_ _ _ | refine Kept.below ?_ (by assumption))))))
  ((first
    | (go_at_call 71; refine (makeRR_any (n := 3 * n + 4) (A3.later hb4) A4 (by omega) (by omega) (by omega)).mono ?_; rintro e w5 ⟨r5, rfl, q5, hb5⟩; rw [HV.out] at q5; obtain ⟨fs, gs, f1, f2, j1, j2, e5, _⟩ := id q5; subst e5; have P5 := R2.kept (show Kept (w.heap.size + 1 + 1 + 1) W w5 by (repeat' (first | exact Kept.refl _ _ | refine Kept.drew ?_ | refine Kept.alloc ?_ _ | refine Kept.set ?_ _ _ | refine Kept.below ?_ (by assumption)))) (by omega); obtain ⟨u0, u1, u2, g0, g1, g2⟩ := P5.three)
    | (go_at_call 77; (with_reducible refine (mulD_any (B.later (Kept.under (show Kept (w.heap.size + 1 + 1) W _ by (repeat' (first | exact Kept.refl _ _ | refine Kept.drew ?_ | refine Kept.alloc ?_ _ | refine Kept.set ?_ _ _ | refine Kept.below ?_ (by assumption)))) hBW (by omega) (by omega))) (D.later (Kept.under (show Kept (w.heap.size + 1 + 1) W _ by (repeat' (first | exact Kept.refl _ _ | refine Kept.drew ?_ | refine Kept.alloc ?_ _ | refine Kept.set ?_ _ _ | refine Kept.below ?_ (by assumption)))) hBW (by omega) (by omega))) (by omega) (by omega)).mono ?_); rintro e w4 ⟨r4, rfl, z4, q4, l4, hb4⟩; obtain ⟨ad4, cp4, rfl, q4, A4⟩ := q4.slice; have HV := Lib.hid ((show ratOf (!(m1 == m2)) (valD z3) (valD z4) = ratOf (!(m1 == m2)) (valD xs * valD zs) (valD ds * valD es) by rw [q3.eq, q4.eq]).trans HF.out))
    | (go_at_call 77; (with_reducible refine (mulD_any (A.later (Kept.under (show Kept (w.heap.size + 1 + 1) W _ by (repeat' (first | exact Kept.refl _ _ | refine Kept.drew ?_ | refine Kept.alloc ?_ _ | refine Kept.set ?_ _ _ | refine Kept.below ?_ (by assumption)))) hBW (by omega) (by omega))) (C.later (Kept.under (show Kept (w.heap.size + 1 + 1) W _ by (repeat' (first | exact Kept.refl _ _ | refine Kept.drew ?_ | refine Kept.alloc ?_ _ | refine Kept.set ?_ _ _ | refine Kept.below ?_ (by assumption)))) hBW (by omega) (by omega))) (by omega) (by omega)).mono ?_); rintro e w3 ⟨r3, rfl, z3, q3, l3, hb3⟩; obtain ⟨ad3, cp3, rfl, q3, A3⟩ := q3.slice)))
 have hs5 := hb5.size
 have hk5 := (show Kept (w.heap.size + 1 + 1 + 1) W w5 by (repeat' (first | exact Kept.refl _ _ | refine Kept.drew ?_ | refine Kept.alloc ?_ _ | refine Kept.set ?_ _ _ | refine Kept.below ?_ (by assumption)))).size
 have hk4 := (show Kept (w.heap.size + 1 + 1 + 1) W w4 by (repeat' (first | exact Kept.refl _ _ | refine Kept.drew ?_ | refine Kept.alloc ?_ _ | refine Kept.set ?_ _ _ | refine Kept.below ?_ (by assumption)))).size
 have hK5 := (Kept.under (show Kept (w.heap.size + 1 + 1 + 1) W w5 by (repeat' (first | exact Kept.refl _ _ | refine Kept.drew ?_ | refine Kept.alloc ?_ _ | refine Kept.set ?_ _ _ | refine Kept.below ?_ (by assumption)))) hBW (by omega) (by omega))
 go_wp2_with fail
 refine bodyPost_ret (v := .agg #[.bool (decide (X.num < 0)), .slice f1 fs.length j1, .slice f2 gs.length j2]) (by simp [results, Tryz.results54, go_sem, u0, u1, u2]) rfl ⟨_, rfl, ?_, below_set3 hK5 (by omega) _ _ _⟩
 exact (q5.far P5 (by decide) (kept3 _ _ _)).mono (by omega)
theorem mulRR_any {n : Nat} {w : World} {u v : Value} {X Y : Rat} (hu : ArgR w u X n) (hv : ArgR w v Y n) (hn : n ≤ 1000000000) :
 Calls Tryz.prog 54 #[u, v] w fun e w' => ∃ r, e = .returned r ∧ ResR w.heap.size w' r (X * Y) (3 * n + 5) ∧ Below w.heap.size w w' := by
 obtain ⟨m1, xs, ds, a1, a2, c1, c2, rfl, A, B, hX, hx, hd⟩ := hu.parts
 obtain ⟨m2, zs, es, a3, a4, c3, c4, rfl, C, D, hY, hz, he⟩ := hv.parts
 rw [← hX, ← hY]
 exact mulRR_gen A B C D hx hd hz he hn
theorem addRR_any {n : Nat} {w : World} {u v : Value} {X Y : Rat} (hu : ArgR w u X n) (hv : ArgR w v Y n) (hn : n ≤ 1000000000) :
 Calls Tryz.prog 32 #[u, v] w fun e w' => ∃ r, e = .returned r ∧ ResR w.heap.size w' r (X + Y) (3 * n + 6) ∧ Below w.heap.size w w' := by
 obtain ⟨xs, ds, a1, a2, c1, c2, rfl, A, B, hX1, hX2, hx, hd⟩ := hu
 obtain ⟨zs, es, a3, a4, c3, c4, rfl, C, D, hY1, hY2, hz, he⟩ := hv
 obtain ⟨m1, hm1⟩ : ∃ m, decide (X.num < 0) = m := ⟨_, rfl⟩
 obtain ⟨m2, hm2⟩ : ∃ m, decide (Y.num < 0) = m := ⟨_, rfl⟩
 have hsame : m1 = m2 → ratOf m1 (valD xs * valD es + valD zs * valD ds) (valD ds * valD es) = X + Y := by
  intro h; rw [hX1, hX2, hY1, hY2, ← hm1]; exact rat_add_same X Y (by rw [hm1, hm2, h])
 have hleft : m1 ≠ m2 → ratOf m1 (valD xs * valD es - valD zs * valD ds) (valD ds * valD es) = X + Y := by
  intro h; rw [hX1, hX2, hY1, hY2, ← hm1]; exact rat_add_left X Y (by rw [hm1, hm2]; exact h)
 have hright : m1 ≠ m2 → ratOf m2 (valD zs * valD ds - valD xs * valD es) (valD ds * valD es) = X + Y := by
  intro h; rw [hX1, hX2, hY1, hY2, ← hm2]; exact rat_add_right X Y (by rw [hm1, hm2]; exact h)
 rw [hm1, hm2]
 have HS := Lib.hid hsame
 have HL := Lib.hid hleft
 have HR := Lib.hid hright
 clear hsame hleft hright hX1 hX2 hY1 hY2 hm1 hm2
 obtain ⟨W, hW⟩ : ∃ W, (((w.alloc (.cells #[.bool m1, .slice a1 xs.length c1, .slice a2 ds.length c2] 58)).alloc (.cells #[.bool m2, .slice a3 zs.length c3, .slice a4 es.length c4] 58)).alloc (.cells #[.bool false, .slice none 0 0, .slice none 0 0] 58)) = W := ⟨_, rfl⟩
 have R0 : Row W (w.heap.size) 58 #[.bool m1, .slice a1 xs.length c1, .slice a2 ds.length c2] := by rw [← hW]; exact (((Row.new _ _ _).alloc _).alloc _)
 have R1 : Row W (w.heap.size + 1) 58 #[.bool m2, .slice a3 zs.length c3, .slice a4 es.length c4] := by rw [← hW]; have h := (Row.new (w.alloc (.cells #[.bool m1, .slice a1 xs.length c1, .slice a2 ds.length c2] 58)) 58 #[.bool m2, .slice a3 zs.length c3, .slice a4 es.length c4]); simp only [World.size_alloc] at h; exact (h.alloc _)
 have R2 : Row W (w.heap.size + 1 + 1) 58 #[.bool false, .slice none 0 0, .slice none 0 0] := by rw [← hW]; have h := (Row.new ((w.alloc (.cells #[.bool m1, .slice a1 xs.length c1, .slice a2 ds.length c2] 58)).alloc (.cells #[.bool m2, .slice a3 zs.length c3, .slice a4 es.length c4] 58)) 58 #[.bool false, .slice none 0 0, .slice none 0 0]); simp only [World.size_alloc] at h; exact h
 have hBW : Below w.heap.size w W := by rw [← hW]; exact ((((Below.refl _ _).alloc (by (try simp) <;> omega) _).alloc (by (try simp) <;> omega) _).alloc (by (try simp) <;> omega) _)
 have hsW : w.heap.size + 1 + 1 + 1 ≤ W.heap.size := by rw [← hW]; simp
 have mkS : ∀ X, Kept (w.heap.size + 1 + 1 + 1) W X → X.cell? ⟨w.heap.size, 0, none⟩ = some (.bool m1) ∧ X.cell? ⟨w.heap.size, 1, none⟩ = some (.slice a1 xs.length c1) ∧ X.cell? ⟨w.heap.size, 2, none⟩ = some (.slice a2 ds.length c2) ∧ X.cell? ⟨w.heap.size + 1, 0, none⟩ = some (.bool m2) ∧ X.cell? ⟨w.heap.size + 1, 1, none⟩ = some (.slice a3 zs.length c3) ∧ X.cell? ⟨w.heap.size + 1, 2, none⟩ = some (.slice a4 es.length c4) ∧ Kept (w.heap.size + 1 + 1 + 1) W X := fun X h => ⟨(R0.kept h (by omega)).cell 0, (R0.kept h (by omega)).cell 1, (R0.kept h (by omega)).cell 2, (R1.kept h (by omega)).cell 0, (R1.kept h (by omega)).cell 1, (R1.kept h (by omega)).cell 2, h⟩
 go_enter Tryz.func32, Tryz.ntmps32
 go_wp2_with fail
 clear hW
 go_region_held3 (fun X => X.cell? ⟨w.heap.size, 0, none⟩ = some (.bool m1) ∧ X.cell? ⟨w.heap.size, 1, none⟩ = some (.slice a1 xs.length c1) ∧ X.cell? ⟨w.heap.size, 2, none⟩ = some (.slice a2 ds.length c2) ∧ X.cell? ⟨w.heap.size + 1, 0, none⟩ = some (.bool m2) ∧ X.cell? ⟨w.heap.size + 1, 1, none⟩ = some (.slice a3 zs.length c3) ∧ X.cell? ⟨w.heap.size + 1, 2, none⟩ = some (.slice a4 es.length c4) ∧ Kept (w.heap.size + 1 + 1 + 1) W X)
  (((refine mkS _ ?_; (repeat' (first | exact Kept.refl _ _ | refine Kept.drew ?_ | refine Kept.alloc ?_ _ | refine Kept.set ?_ _ _ | refine Kept.below ?_ (by assumption))))))
  ((first
    | (go_at_call 77; (with_reducible refine (mulD_any (C.later (Kept.under (show Kept (w.heap.size + 1 + 1 + 1) W _ by (repeat' (first | exact Kept.refl _ _ | refine Kept.drew ?_ | refine Kept.alloc ?_ _ | refine Kept.set ?_ _ _ | refine Kept.below ?_ (by assumption)))) hBW (by omega) (by omega))) (B.later (Kept.under (show Kept (w.heap.size + 1 + 1 + 1) W _ by (repeat' (first | exact Kept.refl _ _ | refine Kept.drew ?_ | refine Kept.alloc ?_ _ | refine Kept.set ?_ _ _ | refine Kept.below ?_ (by assumption)))) hBW (by omega) (by omega))) (by omega) (by omega)).mono ?_); rintro e w2 ⟨r2, rfl, z2, q2, l2, hb2⟩; obtain ⟨ad2, cp2, rfl, q2, A2⟩ := q2.slice)
    | (go_at_call 77; (with_reducible refine (mulD_any (A.later (Kept.under (show Kept (w.heap.size + 1 + 1 + 1) W _ by (repeat' (first | exact Kept.refl _ _ | refine Kept.drew ?_ | refine Kept.alloc ?_ _ | refine Kept.set ?_ _ _ | refine Kept.below ?_ (by assumption)))) hBW (by omega) (by omega))) (D.later (Kept.under (show Kept (w.heap.size + 1 + 1 + 1) W _ by (repeat' (first | exact Kept.refl _ _ | refine Kept.drew ?_ | refine Kept.alloc ?_ _ | refine Kept.set ?_ _ _ | refine Kept.below ?_ (by assumption)))) hBW (by omega) (by omega))) (by omega) (by omega)).mono ?_); rintro e w1 ⟨r1, rfl, z1, q1, l1, hb1⟩; obtain ⟨ad1, cp1, rfl, q1, A1⟩ := q1.slice)))
 have hK2 : Below W.heap.size W w2 := Kept.under (g := W.heap.size) (show Kept (W.heap.size) W w2 by (repeat' (first | exact Kept.refl _ _ | refine Kept.drew ?_ | refine Kept.alloc ?_ _ | refine Kept.set ?_ _ _ | refine Kept.below ?_ (by assumption)))) (Below.refl _ _) (by omega) (by omega)
 have hB2 : Below w.heap.size w w2 := hBW.trans (hK2.mono (by omega))
 have hs2 := hK2.size
 have A1' := A1.later hb2
 have e1 := q1.eq
 have e2 := q2.eq
 have E1 := Lib.hid e1
 have E2 := Lib.hid e2
 have B2 := B.later hB2
 have D2 := D.later hB2
 replace R0 := R0.later hK2
 replace R1 := R1.later hK2
 replace R2 := R2.later hK2
 obtain ⟨p0, p1, p2, _, _, _⟩ := R0.three
 obtain ⟨o0, o1, o2, _, _, _⟩ := R1.three
 clear mkS e1 e2 q1 q2 hb1 hK2 A B C D A1
 go_wp2_with fail
 refine (mulD_any B2 D2 (by omega) (by omega)).mono ?_
 rintro e w3 ⟨r3, rfl, z3, q3, l3, hb3⟩
 obtain ⟨ad3, cp3, rfl, q3, A3⟩ := q3.slice
 have hs3 := hb3.size
 have e3 := q3.eq
 have E3 := Lib.hid e3
 have Q0 := R0.later hb3
 have Q1 := R1.later hb3
 have Q2 := R2.later hb3
 have A1' := A1'.later hb3
 have A2' := A2.later hb3
 have hB3 : Below w.heap.size w w3 := hB2.trans (hb3.mono (by omega))
 clear p0 p1 p2 o0 o1 o2 e3 q3
 obtain ⟨p0, p1, p2, _, _, _⟩ := Q0.three
 obtain ⟨o0, o1, o2, _, _, _⟩ := Q1.three
 by_cases hm : m1 = m2
 · subst hm
   have HS2 := Lib.hid (HS.out rfl)
   clear HS HL HR
   have hbb : (m1 == m1) = true := by simp
   have mkS : ∀ X, Kept (w.heap.size + 1 + 1) w3 X → X.cell? ⟨w.heap.size, 0, none⟩ = some (.bool m1) ∧ X.cell? ⟨w.heap.size, 1, none⟩ = some (.slice a1 xs.length c1) ∧ X.cell? ⟨w.heap.size, 2, none⟩ = some (.slice a2 ds.length c2) ∧ X.cell? ⟨w.heap.size + 1, 0, none⟩ = some (.bool m1) ∧ X.cell? ⟨w.heap.size + 1, 1, none⟩ = some (.slice a3 zs.length c3) ∧ X.cell? ⟨w.heap.size + 1, 2, none⟩ = some (.slice a4 es.length c4) ∧ Kept (w.heap.size + 1 + 1) w3 X := fun X h => ⟨(Q0.kept h (by omega)).cell 0, (Q0.kept h (by omega)).cell 1, (Q0.kept h (by omega)).cell 2, (Q1.kept h (by omega)).cell 0, (Q1.kept h (by omega)).cell 1, (Q1.kept h (by omega)).cell 2, h⟩
   go_wp2_with fail
   clear p0 p1 p2 o0 o1 o2
   go_region_held3 (fun X => X.cell? ⟨w.heap.size, 0, none⟩ = some (.bool m1) ∧ X.cell? ⟨w.heap.size, 1, none⟩ = some (.slice a1 xs.length c1) ∧ X.cell? ⟨w.heap.size, 2, none⟩ = some (.slice a2 ds.length c2) ∧ X.cell? ⟨w.heap.size + 1, 0, none⟩ = some (.bool m1) ∧ X.cell? ⟨w.heap.size + 1, 1, none⟩ = some (.slice a3 zs.length c3) ∧ X.cell? ⟨w.heap.size + 1, 2, none⟩ = some (.slice a4 es.length c4) ∧ Kept (w.heap.size + 1 + 1) w3 X)
    (((refine mkS _ ?_; (repeat' (first | exact Kept.refl _ _ | refine Kept.drew ?_ | refine Kept.alloc ?_ _ | refine Kept.set ?_ _ _ | refine Kept.below ?_ (by assumption))))))
    ((first
      | (go_at_call 71; refine (makeRR_any (n := 3 * n + 4) A4 (A3.later hb4d) (by omega) (by omega) (by omega)).mono ?_; rintro e w5 ⟨r5, rfl, q5, hb5⟩; rw [HV.out] at q5; obtain ⟨fs, gs, f1, f2, j1, j2, e5, _⟩ := id q5; subst e5; have P5 := (Q2.later hb4d).later hb5; obtain ⟨u0, u1, u2, g0, g1, g2⟩ := P5.three)
      | (go_at_call 78; refine (addD_any (A1'.later (Below.refl _ w3).drew) (A2'.later (Below.refl _ w3).drew) (by omega) (by omega)).mono ?_; rintro e w4 ⟨r4, rfl, z4, q4, l4, hb4⟩; have hb4d : Below w3.heap.size w3 w4 := ⟨hb4.os, hb4.tape, hb4.output, hb4.size, hb4.block⟩; obtain ⟨ad4, cp4, rfl, q4, A4⟩ := q4.slice; have HV := Lib.hid ((show ratOf m1 (valD z4) (valD z3) = ratOf m1 (valD xs * valD es + valD zs * valD ds) (valD ds * valD es) by rw [q4.eq, E1.out, E2.out, E3.out]).trans HS2.out))))
   have hs4 := hb4d.size
   go_wp2_with fail
   refine bodyPost_ret (v := .agg #[.bool (decide ((X + Y).num < 0)), .slice f1 fs.length j1, .slice f2 gs.length j2]) (by simp [results, Tryz.results32, go_sem, u0, u1, u2]) rfl ⟨_, rfl, ((q5.far P5 (by decide) (kept3 _ _ _)).mono (by omega)).more (by omega), below_set3 ((hB3.trans (hb4d.mono (by omega))).trans (hb5.mono (by omega))) (by omega) _ _ _⟩
 · have hbb : (m1 == m2) = false := by simpa using hm
   by_cases hlt : valD z1 < valD z2
   · have hcmp := cmpD_any A1' A2' (by omega) (by omega)
     rw [sign_lt hlt] at hcmp
     go_wp2_with fail
     refine hcmp.mono ?_
     rintro e w4 ⟨rfl, hb4⟩
     have hs4 := hb4.size
     have A1b := A1'.later hb4
     have A2b := A2'.later hb4
     have A3b := A3.later hb4
     have Q1b := Q1.later hb4
     have Q2b := Q2.later hb4
     clear hcmp p0 p1 p2 o0 o1 o2
     go_wp2_with fail
     refine (subD_any A2b A1b (by omega) (by omega)).mono ?_
     rintro e w5 ⟨r5, f5, rfl, hb5, _, h5⟩
     obtain ⟨rfl, z5, q5, l5⟩ := h5 (by omega)
     have hs5 := hb5.size
     obtain ⟨ad5, cp5, rfl, q5, A5⟩ := q5.slice
     have A3c := A3b.later hb5
     have Q1c := Q1b.later hb5
     have Q2c := Q2b.later hb5
     obtain ⟨o0, o1, o2, _, _, _⟩ := Q1c.three
     have HV := Lib.hid ((show ratOf m2 (valD z5) (valD z3) = ratOf m2 (valD zs * valD ds - valD xs * valD es) (valD ds * valD es) by rw [q5.eq, E1.out, E2.out, E3.out]).trans (HR.out hm))
     clear h5
     go_wp2_with fail
     refine (makeRR_any (n := 3 * n + 4) A5 A3c (by omega) (by omega) (by omega)).mono ?_
     rintro e w6 ⟨r6, rfl, q6, hb6⟩
     rw [HV.out] at q6
     obtain ⟨fs, gs, f1, f2, j1, j2, e6, _⟩ := id q6
     subst e6
     have P6 := Q2c.later hb6
     clear o0 o1 o2
     obtain ⟨u0, u1, u2, g0, g1, g2⟩ := P6.three
     go_wp2_with fail
     refine bodyPost_ret (v := .agg #[.bool (decide ((X + Y).num < 0)), .slice f1 fs.length j1, .slice f2 gs.length j2]) (by simp [results, Tryz.results32, go_sem, u0, u1, u2]) rfl ⟨_, rfl, ((q6.far P6 (by decide) (kept3 _ _ _)).mono (by omega)).more (by omega), below_set3 (((hB3.trans (hb4.mono (by omega))).trans (hb5.mono (by omega))).trans (hb6.mono (by omega))) (by omega) _ _ _⟩
   · have hge : decide ((0 : Int) ≤ sign (valD z1) (valD z2)) = true := decide_eq_true (by unfold sign; rw [if_neg hlt]; split <;> omega)
     have hcmp := cmpD_any A1' A2' (by omega) (by omega)
     obtain ⟨sg, hsg⟩ : ∃ s, sign (valD z1) (valD z2) = s := ⟨_, rfl⟩
     rw [hsg] at hge hcmp
     clear hsg
     go_wp2_with fail
     refine hcmp.mono ?_
     rintro e w4 ⟨rfl, hb4⟩
     have hs4 := hb4.size
     have A1b := A1'.later hb4
     have A2b := A2'.later hb4
     have A3b := A3.later hb4
     have Q0b := Q0.later hb4
     have Q2b := Q2.later hb4
     clear hcmp p0 p1 p2 o0 o1 o2
     go_wp2_with fail
     refine (subD_any A1b A2b (by omega) (by omega)).mono ?_
     rintro e w5 ⟨r5, f5, rfl, hb5, _, h5⟩
     obtain ⟨rfl, z5, q5, l5⟩ := h5 (by omega)
     have hs5 := hb5.size
     obtain ⟨ad5, cp5, rfl, q5, A5⟩ := q5.slice
     have A3c := A3b.later hb5
     have Q0c := Q0b.later hb5
     have Q2c := Q2b.later hb5
     obtain ⟨o0, o1, o2, _, _, _⟩ := Q0c.three
     have HV := Lib.hid ((show ratOf m1 (valD z5) (valD z3) = ratOf m1 (valD xs * valD es - valD zs * valD ds) (valD ds * valD es) by rw [q5.eq, E1.out, E2.out, E3.out]).trans (HL.out hm))
     clear h5
     go_wp2_with fail
     refine (makeRR_any (n := 3 * n + 4) A5 A3c (by omega) (by omega) (by omega)).mono ?_
     rintro e w6 ⟨r6, rfl, q6, hb6⟩
     rw [HV.out] at q6
     obtain ⟨fs, gs, f1, f2, j1, j2, e6, _⟩ := id q6
     subst e6
     have P6 := Q2c.later hb6
     clear o0 o1 o2
     obtain ⟨u0, u1, u2, g0, g1, g2⟩ := P6.three
     go_wp2_with fail
     refine bodyPost_ret (v := .agg #[.bool (decide ((X + Y).num < 0)), .slice f1 fs.length j1, .slice f2 gs.length j2]) (by simp [results, Tryz.results32, go_sem, u0, u1, u2]) rfl ⟨_, rfl, ((q6.far P6 (by decide) (kept3 _ _ _)).mono (by omega)).more (by omega), below_set3 (((hB3.trans (hb4.mono (by omega))).trans (hb5.mono (by omega))).trans (hb6.mono (by omega))) (by omega) _ _ _⟩
end
section
theorem mmF_len (a b c : Nat) (X Y : List Rat) : (mmF a b c X Y).length = a * c := by simp [mmF]
theorem mat_lt {a c i j : Nat} (hi : i < a) (hj : j < c) : c * i + j < a * c := by
 have h : c * (i + 1) ≤ c * a := Nat.mul_le_mul_left c hi
 rw [Nat.mul_succ, Nat.mul_comm c a] at h
 omega
end
section
open Go.RowKit
theorem ArgQ.more10 {w : World} {v : Value} {x : Rat} {n m : Nat} (h : ArgQ w v x n) (hm : n ≤ m) : ArgQ w v x m := by
 obtain ⟨neg, xs, ys, ad, bd, ca, cb, rfl, A, B, e, h1, h2⟩ := h
 exact ⟨neg, xs, ys, ad, bd, ca, cb, rfl, A, B, e, by omega, by omega⟩
end
section
open Go.RowKit
theorem One.an10 {base N : Nat} {w : World} {e : Ending} {c : Int} {s : List Int} {L : List Rat} (h : One base w e c s L N) : ∃ a b n m ca cb, e = .returned (.tuple #[.agg #[.slice a n ca, .slice b m cb], .int .i64 c]) ∧ An10 base w (.agg #[.slice a n ca, .slice b m cb]) c s L N := h.shape
def BoxT10 (t : Value) : Prop := ∃ a b n m ca cb, t = .agg #[.slice a n ca, .slice b m cb]
theorem told10_any {base n N : Nat} {w : World} {r t : Value} {c : Int} {s : List Int} {L : List Rat} (h : An10 base w r c s L N) (hb : BoxT10 t) (ht : c = 0 → TenR w t s L n) (hs : s.length ≤ 17592186044416) (hL : L.length ≤ 1000000) (hn : n ≤ 1000000) (hN : N ≤ 1000000) :
 Calls Tryz.prog 16 #[r, .int .i64 c, t, .int .i64 c] w fun e w' => e = .returned (.bool true) ∧ Below w.heap.size w w' := by
 obtain ⟨a2, b2, n2, m2, ca2, cb2, rfl⟩ := hb
 obtain ⟨a, b, n1, m1, ca, cb, rfl⟩ := h.box
 obtain ⟨W, hW⟩ : ∃ W, ((w.alloc (.cells #[.slice a n1 ca, .slice b m1 cb] 26)).alloc (.cells #[.slice a2 n2 ca2, .slice b2 m2 cb2] 36)) = W := ⟨_, rfl⟩
 have R0 : Row W (w.heap.size) 26 #[.slice a n1 ca, .slice b m1 cb] := by rw [← hW]; have h := Row.new w 26 #[.slice a n1 ca, .slice b m1 cb]; (try simp only [World.size_alloc] at h); exact (h.alloc _)
 have R1 : Row W (w.heap.size + 1) 36 #[.slice a2 n2 ca2, .slice b2 m2 cb2] := by rw [← hW]; have h := Row.new (w.alloc (.cells #[.slice a n1 ca, .slice b m1 cb] 26)) 36 #[.slice a2 n2 ca2, .slice b2 m2 cb2]; (try simp only [World.size_alloc] at h); exact h
 have hBW : Below w.heap.size w W := by rw [← hW]; exact (((Below.refl _ _).alloc (by (try simp) <;> omega) _).alloc (by (try simp) <;> omega) _)
 have hsW : W.heap.size = w.heap.size + 1 + 1 := by rw [← hW]; simp
 obtain ⟨c0, c1, _, _⟩ := R0.two
 obtain ⟨c2, c3, _, _⟩ := R1.two
 rcases h with ⟨rfl, h⟩ | ⟨h0, h⟩
 · have hi := is10_true (h.later hBW) ((ht rfl).later hBW) hs hL hn hN
   have HI := Lib.hid hi
   clear h ht hi
   go_enter Tryz.func16, Tryz.ntmps16
   (try rw [hW])
   go_wp2_with (go_at_call 40; refine HI.out.mono ?_; rintro e w1 ⟨rfl, hb1⟩)
   go_ret
   exact ⟨rfl, hBW.trans (hb1.mono (by omega))⟩
 · have hne : (c != 0) = true := by simp [h0]
   have hee : (c == c) = true := by simp
   simp only [noTensor, Value.agg.injEq, Array.mk.injEq, List.cons.injEq, Value.slice.injEq, and_true] at h
   obtain ⟨⟨rfl, rfl, rfl⟩, rfl, rfl, rfl⟩ := h
   have hem := emptyT_any (w := W) (.agg #[.slice none 0 0, .slice none 0 0]) none none 0 0 0 0 rfl
   have HM := Lib.hid hem
   clear ht h0 hem
   go_enter Tryz.func16, Tryz.ntmps16
   (try rw [hW])
   go_wp2_with (go_at_call 49; refine HM.out.mono ?_; rintro e w1 ⟨rfl, hb1⟩)
   go_ret
   exact ⟨rfl, hBW.trans (hb1.mono (by omega))⟩
end
section
open Go.RowKit
theorem lensQ.more10 {qs : List Q3} {n m : Nat} (h : lensQ qs n) (hm : n ≤ m) : lensQ qs m := fun q hq => ⟨Nat.le_trans (h q hq).1 hm, Nat.le_trans (h q hq).2 hm⟩
end
section
open Go.RowKit
theorem ResQ.more10 {base n m : Nat} {w : World} {v : Value} {x : Rat} (h : ResQ base w v x n) (hm : n ≤ m) : ResQ base w v x m := by
 obtain ⟨zs, ys, ad, bd, ca, cb, hv, A, B, h1, h2⟩ := h
 exact ⟨zs, ys, ad, bd, ca, cb, hv, A, B, by omega, by omega⟩
theorem ResT.more10 {base n m : Nat} {w : World} {v : Value} {s : List Int} {L : List Rat} (h : ResT base w v s L n) (hm : n ≤ m) : ResT base w v s L m := by
 obtain ⟨a, b, ca, cb, hv, h1, es, h2, h3⟩ := h
 exact ⟨a, b, ca, cb, hv, h1, es, h2, h3.imp fun v x _ h => h.more10 hm⟩
theorem cnt_two10 (a b : Nat) : cntF [(a : Int), (b : Int)] = a * b := by
 unfold cntF
 have : prodS [(a : Int), (b : Int)] = ((a * b : Nat) : Int) := by
  simp only [prodS, Int.mul_one]
  exact (Int.natCast_mul a b).symm
 rw [this]
 rfl
end
section
open Go.RowKit
theorem wid2_10 {A B : Nat} (hA : A ≤ 1000) (hB : B ≤ 1000) : Wid [(A : Int), (B : Int)] := by
 intro x hx
 simp at hx
 rcases hx with rfl | rfl <;> omega
end
section
open Go.RowKit
theorem TensQ.wfs10 {w : World} {v : Value} {s : List Int} {qs : List Q3} {a b : Option Addr} {ca cb : Nat} (T : TensQ w v s qs a ca b cb) : ∀ q ∈ qs, Wf q.num ∧ Wf q.den := fun q hq => by
 obtain ⟨i, hi, rfl⟩ := List.mem_iff_getElem.1 hq
 obtain ⟨_, _, _, _, _, q', _, hq', _, _, _, hr⟩ := T.el.at hi
 rw [List.getElem?_eq_getElem hi] at hq'
 cases hq'
 obtain ⟨_, _, _, _, _, A, B, _⟩ := hr
 exact ⟨A.wf, B.wf⟩
theorem ResR.refit10 {base n b : Nat} {w : World} {v : Value} {X : Rat} (h : ResR base w v X n) (hf : FitQ X b) : ResR base w v X (b / 13 + 1) := by
 obtain ⟨zs, ys, ad, bd, ca, cb, rfl, A, B, _, _⟩ := h
 exact ⟨zs, ys, ad, bd, ca, cb, rfl, A, B, lenD_le A.wf A.full (by rw [A.eq]; have := hf.1; omega), lenD_le B.wf B.full (by rw [B.eq]; have := hf.2; omega)⟩
theorem ArgR.more10 {w : World} {v : Value} {X : Rat} {n m : Nat} (h : ArgR w v X n) (hm : n ≤ m) : ArgR w v X m := by
 obtain ⟨xs, ds, a1, a2, c1, c2, hv, A, B, hX1, hX2, hx, hd⟩ := h
 exact ⟨xs, ds, a1, a2, c1, c2, hv, A, B, hX1, hX2, by omega, by omega⟩
theorem ResR.shape10 {base n : Nat} {w : World} {v : Value} {X : Rat} (h : ResR base w v X n) : ∃ (m : Bool) (a : Option Addr) (b c : Nat) (d : Option Addr) (e f : Nat), v = .agg #[.bool m, .slice a b c, .slice d e f] := by
 obtain ⟨zs, ys, ad, bd, ca, cb, rfl, _⟩ := h
 exact ⟨_, _, _, _, _, _, _, rfl⟩
end
section
open Go.RowKit
def Ref10 (w' : World) (e : Ending) (c : Int) (s : List Int) (L : List Rat) (m : Nat) : Prop := ∃ r, e = .returned (.tuple #[r, .int .i64 c]) ∧ BoxT10 r ∧ (c = 0 → TenR w' r s L m)
theorem matMulR_bad {n : Nat} {w : World} {u v : Value} {s t : List Int} {X Y : List Rat} {a1 b1 a2 b2 : Option Addr} {ca1 cb1 ca2 cb2 : Nat} (T1 : TensR w u s X n a1 ca1 b1 cb1) (T2 : TensR w v t Y n a2 ca2 b2 cb2) (h : ¬ (s.length = 2 ∧ t.length = 2 ∧ s.getD 1 0 = t.getD 0 0)) (hs : s.length ≤ 1000) (ht : t.length ≤ 1000) :
 Calls Tryz.prog 22 #[u, v] w fun e w' => Ref10 w' e 13 [] [] 0 ∧ Below w.heap.size w w' := by
 have HT1 := Lib.hid T1
 have HT2 := Lib.hid T2
 obtain rfl := T1.is
 obtain rfl := T2.is
 obtain ⟨M1, hM1⟩ : ∃ m, X.length = m := ⟨_, rfl⟩
 obtain ⟨M2, hM2⟩ : ∃ m, Y.length = m := ⟨_, rfl⟩
 have HM1 := Lib.hid hM1
 have HM2 := Lib.hid hM2
 rw [hM1, hM2]
 obtain ⟨N1, hN1⟩ : ∃ m, s.length = m := ⟨_, rfl⟩
 obtain ⟨N2, hN2⟩ : ∃ m, t.length = m := ⟨_, rfl⟩
 have HN1 := Lib.hid hN1
 have HN2 := Lib.hid hN2
 rw [hN1] at hs
 rw [hN2] at ht
 rw [hN1, hN2] at h
 rw [hN1, hN2]
 clear hN1 hN2
 obtain ⟨W, hW⟩ : ∃ W, (((w.alloc (.cells #[.slice a1 N1 ca1, .slice b1 M1 cb1] 36)).alloc (.cells #[.slice a2 N2 ca2, .slice b2 M2 cb2] 36)).alloc (.cells #[.slice none 0 0, .slice none 0 0] 36)) = W := ⟨_, rfl⟩
 have R0 : Row W (w.heap.size) 36 #[.slice a1 N1 ca1, .slice b1 M1 cb1] := by rw [← hW]; have h := Row.new w 36 #[.slice a1 N1 ca1, .slice b1 M1 cb1]; (try simp only [World.size_alloc] at h); exact ((h.alloc _).alloc _)
 have R1 : Row W (w.heap.size + 1) 36 #[.slice a2 N2 ca2, .slice b2 M2 cb2] := by rw [← hW]; have h := Row.new (w.alloc (.cells #[.slice a1 N1 ca1, .slice b1 M1 cb1] 36)) 36 #[.slice a2 N2 ca2, .slice b2 M2 cb2]; (try simp only [World.size_alloc] at h); exact (h.alloc _)
 have R2 : Row W (w.heap.size + 1 + 1) 36 #[.slice none 0 0, .slice none 0 0] := by rw [← hW]; have h := Row.new ((w.alloc (.cells #[.slice a1 N1 ca1, .slice b1 M1 cb1] 36)).alloc (.cells #[.slice a2 N2 ca2, .slice b2 M2 cb2] 36)) 36 #[.slice none 0 0, .slice none 0 0]; (try simp only [World.size_alloc] at h); exact h
 have hBW : Below w.heap.size w W := by rw [← hW]; exact ((((Below.refl _ _).alloc (by (try simp) <;> omega) _).alloc (by (try simp) <;> omega) _).alloc (by (try simp) <;> omega) _)
 have hsW : W.heap.size = w.heap.size + 1 + 1 + 1 := by rw [← hW]; simp
 clear T1 T2 hM1 hM2
 by_cases h1 : N1 = 2
 case neg =>
  have h1I : ((N1 : Int) != 2) = true := by simp; omega
  clear h
  have MK := Lib.hid (show ∀ X, Below W.heap.size W X → X.cell? ⟨w.heap.size, 0, none⟩ = some (.slice a1 N1 ca1) ∧ X.cell? ⟨w.heap.size + 1, 0, none⟩ = some (.slice a2 N2 ca2) from fun X h => by
   obtain ⟨g0, g1, _⟩ := (R0.later h).two
   obtain ⟨g2, g3, _⟩ := (R1.later h).two
   exact ⟨g0, g2⟩)
  go_enter Tryz.func22, Tryz.ntmps22
  (try rw [hW])
  go_wp2_with fail
  (try rw [hW])
  refine wp_region_held_drew (S := fun X => X.cell? ⟨w.heap.size, 0, none⟩ = some (.slice a1 N1 ca1) ∧ X.cell? ⟨w.heap.size + 1, 0, none⟩ = some (.slice a2 N2 ca2)) (by kernel_rfl) (MK.out _ (Below.refl _ _).drew) (fun hHeld => ?_)
  have bd : Below W.heap.size W W.drew := (Below.refl _ _).drew
  refine todo [0, 1, 2, 3, 4, 5, 6, 7, 8, 9, 10, 11, 12, 13, 14, 15, 16, 17, 18, 19, 20] ?_
  iterate 21
   first
   | (refine todoH (v := ?_) rfl (by kernel_rfl) (fun _ _ _ h => h) (by assumption) (Or.inl ⟨by rfl, ?_⟩) ?_
      rotate_left
      · intro w hSw; (try dsimp only at hSw); go_simp; (try with_reducible rfl)
      try simp only [Act.put, nA, nB, nC, nD, nE, nF])
   | (refine todoH (v := undef) rfl (by kernel_rfl) (fun _ _ _ h => h) (by assumption) (Or.inr ⟨by rfl, rfl⟩) ?_
      try simp only [Act.put, nA, nB, nC, nD, nE, nF])
  refine todone ?_
  refine wpAnyH_done (by kernel_rfl) ?_ _
  (try dsimp only [Straight])
  obtain ⟨k0, k1, k2, k3⟩ := R2.two
  have P3 := R2.set2 (.slice none 0 0) (.slice none 0 0)
  obtain ⟨z0, z1, _, _⟩ := P3.two
  have hBE := below_set2 hBW (show w.heap.size ≤ w.heap.size + 1 + 1 by omega) (.slice none 0 0) (.slice none 0 0)
  go_wp2_with fail
  exact bodyPost_ret (v := .tuple #[noTensor, .int .i64 13]) (by simp [results, Tryz.results22, go_sem, z0, z1, noTensor]) rfl ⟨⟨_, rfl, ⟨none, none, 0, 0, 0, 0, rfl⟩, fun h => by cases h⟩, hBE.drew⟩
 case pos =>
  by_cases h2 : N2 = 2
  case neg =>
   subst h1
   have h2I : ((N2 : Int) != 2) = true := by simp; omega
   clear h
   have MK := Lib.hid (show ∀ X, Below W.heap.size W X → X.cell? ⟨w.heap.size, 0, none⟩ = some (.slice a1 2 ca1) ∧ X.cell? ⟨w.heap.size + 1, 0, none⟩ = some (.slice a2 N2 ca2) from fun X h => by
    obtain ⟨g0, g1, _⟩ := (R0.later h).two
    obtain ⟨g2, g3, _⟩ := (R1.later h).two
    exact ⟨g0, g2⟩)
   go_enter Tryz.func22, Tryz.ntmps22
   (try rw [hW])
   go_wp2_with fail
   (try rw [hW])
   refine wp_region_held_drew (S := fun X => X.cell? ⟨w.heap.size, 0, none⟩ = some (.slice a1 2 ca1) ∧ X.cell? ⟨w.heap.size + 1, 0, none⟩ = some (.slice a2 N2 ca2)) (by kernel_rfl) (MK.out _ (Below.refl _ _).drew) (fun hHeld => ?_)
   have bd : Below W.heap.size W W.drew := (Below.refl _ _).drew
   refine todo [0, 1, 2, 3, 4, 5, 6, 7, 8, 9, 10, 11, 12, 13, 14, 15, 16, 17, 18, 19, 20] ?_
   iterate 21
    first
    | (refine todoH (v := ?_) rfl (by kernel_rfl) (fun _ _ _ h => h) (by assumption) (Or.inl ⟨by rfl, ?_⟩) ?_
       rotate_left
       · intro w hSw; (try dsimp only at hSw); go_simp; (try with_reducible rfl)
       try simp only [Act.put, nA, nB, nC, nD, nE, nF])
    | (refine todoH (v := undef) rfl (by kernel_rfl) (fun _ _ _ h => h) (by assumption) (Or.inr ⟨by rfl, rfl⟩) ?_
       try simp only [Act.put, nA, nB, nC, nD, nE, nF])
   refine todone ?_
   refine wpAnyH_done (by kernel_rfl) ?_ _
   (try dsimp only [Straight])
   obtain ⟨k0, k1, k2, k3⟩ := R2.two
   have P3 := R2.set2 (.slice none 0 0) (.slice none 0 0)
   obtain ⟨z0, z1, _, _⟩ := P3.two
   have hBE := below_set2 hBW (show w.heap.size ≤ w.heap.size + 1 + 1 by omega) (.slice none 0 0) (.slice none 0 0)
   go_wp2_with fail
   exact bodyPost_ret (v := .tuple #[noTensor, .int .i64 13]) (by simp [results, Tryz.results22, go_sem, z0, z1, noTensor]) rfl ⟨⟨_, rfl, ⟨none, none, 0, 0, 0, 0, rfl⟩, fun h => by cases h⟩, hBE.drew⟩
  case pos =>
   subst h1
   subst h2
   have h3 : ¬ s.getD 1 0 = t.getD 0 0 := fun e => h ⟨rfl, rfl, e⟩
   obtain ⟨e1, f1, rfl, q1⟩ := HT1.out.sh.at (i := 1) (by rw [HN1.out]; omega)
   obtain ⟨e2, f2, rfl, q2⟩ := HT2.out.sh.at (i := 0) (by rw [HN2.out]; omega)
   obtain ⟨x1, hx1⟩ : ∃ x, s.getD 1 0 = x := ⟨_, rfl⟩
   obtain ⟨x2, hx2⟩ : ∃ x, t.getD 0 0 = x := ⟨_, rfl⟩
   rw [hx1] at q1 h3
   rw [hx2] at q2 h3
   have h3I : (x1 != x2) = true := by simp; exact h3
   have l1 := World.block_lt_of_cell? _ _ q1
   have l2 := World.block_lt_of_cell? _ _ q2
   have hq1 := fun (X : World) (h : Below W.heap.size W X) => ((hBW.trans (h.mono hBW.size)).cell l1).trans q1
   have hq2 := fun (X : World) (h : Below W.heap.size W X) => ((hBW.trans (h.mono hBW.size)).cell l2).trans q2
   clear h hx1 hx2 q1 q2
   have MK := Lib.hid (show ∀ X, Below W.heap.size W X → X.cell? ⟨w.heap.size, 0, none⟩ = some (.slice (some ⟨e1, f1, none⟩) 2 ca1) ∧ X.cell? ⟨w.heap.size + 1, 0, none⟩ = some (.slice (some ⟨e2, f2, none⟩) 2 ca2) ∧ X.cell? ⟨e1, f1 + 1, none⟩ = some (.int .i64 x1) ∧ X.cell? ⟨e2, f2, none⟩ = some (.int .i64 x2) from fun X h => by
    obtain ⟨g0, g1, _⟩ := (R0.later h).two
    obtain ⟨g2, g3, _⟩ := (R1.later h).two
    exact ⟨g0, g2, hq1 X h, hq2 X h⟩)
   go_enter Tryz.func22, Tryz.ntmps22
   (try rw [hW])
   go_wp2_with fail
   (try rw [hW])
   refine wp_region_held_drew (S := fun X => X.cell? ⟨w.heap.size, 0, none⟩ = some (.slice (some ⟨e1, f1, none⟩) 2 ca1) ∧ X.cell? ⟨w.heap.size + 1, 0, none⟩ = some (.slice (some ⟨e2, f2, none⟩) 2 ca2) ∧ X.cell? ⟨e1, f1 + 1, none⟩ = some (.int .i64 x1) ∧ X.cell? ⟨e2, f2, none⟩ = some (.int .i64 x2)) (by kernel_rfl) (MK.out _ (Below.refl _ _).drew) (fun hHeld => ?_)
   have bd : Below W.heap.size W W.drew := (Below.refl _ _).drew
   refine todo [0, 1, 2, 3, 4, 5, 6, 7, 8, 9, 10, 11, 12, 13, 14, 15, 16, 17, 18, 19, 20] ?_
   iterate 21
    first
    | (refine todoH (v := ?_) rfl (by kernel_rfl) (fun _ _ _ h => h) (by assumption) (Or.inl ⟨by rfl, ?_⟩) ?_
       rotate_left
       · intro w hSw; (try dsimp only at hSw); go_simp; (try with_reducible rfl)
       try simp only [Act.put, nA, nB, nC, nD, nE, nF])
    | (refine todoH (v := undef) rfl (by kernel_rfl) (fun _ _ _ h => h) (by assumption) (Or.inr ⟨by rfl, rfl⟩) ?_
       try simp only [Act.put, nA, nB, nC, nD, nE, nF])
   refine todone ?_
   refine wpAnyH_done (by kernel_rfl) ?_ _
   (try dsimp only [Straight])
   obtain ⟨k0, k1, k2, k3⟩ := R2.two
   have P3 := R2.set2 (.slice none 0 0) (.slice none 0 0)
   obtain ⟨z0, z1, _, _⟩ := P3.two
   have hBE := below_set2 hBW (show w.heap.size ≤ w.heap.size + 1 + 1 by omega) (.slice none 0 0) (.slice none 0 0)
   go_wp2_with fail
   exact bodyPost_ret (v := .tuple #[noTensor, .int .i64 13]) (by simp [results, Tryz.results22, go_sem, z0, z1, noTensor]) rfl ⟨⟨_, rfl, ⟨none, none, 0, 0, 0, 0, rfl⟩, fun h => by cases h⟩, hBE.drew⟩
theorem matMulR_14 {n a b c : Nat} {w : World} {u v : Value} {X Y : List Rat} {a1 b1 a2 b2 : Option Addr} {ca1 cb1 ca2 cb2 : Nat} (T1 : TensR w u [(a : Int), (b : Int)] X n a1 ca1 b1 cb1) (T2 : TensR w v [(b : Int), (c : Int)] Y n a2 ca2 b2 cb2) (ha : a ≤ 64) (hb : b ≤ 64) (hc : c ≤ 64) (h : 1024 < a * c) :
 Calls Tryz.prog 22 #[u, v] w fun e w' => Ref10 w' e 14 [] [] 0 ∧ Below w.heap.size w w' := by
 have HT1 := Lib.hid T1
 have HT2 := Lib.hid T2
 obtain rfl := T1.is
 obtain rfl := T2.is
 obtain ⟨M1, hM1⟩ : ∃ m, X.length = m := ⟨_, rfl⟩
 obtain ⟨M2, hM2⟩ : ∃ m, Y.length = m := ⟨_, rfl⟩
 have HM1 := Lib.hid hM1
 have HM2 := Lib.hid hM2
 rw [hM1, hM2]
 obtain ⟨W, hW⟩ : ∃ W, (((w.alloc (.cells #[.slice a1 2 ca1, .slice b1 M1 cb1] 36)).alloc (.cells #[.slice a2 2 ca2, .slice b2 M2 cb2] 36)).alloc (.cells #[.slice none 0 0, .slice none 0 0] 36)) = W := ⟨_, rfl⟩
 have R0 : Row W (w.heap.size) 36 #[.slice a1 2 ca1, .slice b1 M1 cb1] := by rw [← hW]; have h := Row.new w 36 #[.slice a1 2 ca1, .slice b1 M1 cb1]; (try simp only [World.size_alloc] at h); exact ((h.alloc _).alloc _)
 have R1 : Row W (w.heap.size + 1) 36 #[.slice a2 2 ca2, .slice b2 M2 cb2] := by rw [← hW]; have h := Row.new (w.alloc (.cells #[.slice a1 2 ca1, .slice b1 M1 cb1] 36)) 36 #[.slice a2 2 ca2, .slice b2 M2 cb2]; (try simp only [World.size_alloc] at h); exact (h.alloc _)
 have R2 : Row W (w.heap.size + 1 + 1) 36 #[.slice none 0 0, .slice none 0 0] := by rw [← hW]; have h := Row.new ((w.alloc (.cells #[.slice a1 2 ca1, .slice b1 M1 cb1] 36)).alloc (.cells #[.slice a2 2 ca2, .slice b2 M2 cb2] 36)) 36 #[.slice none 0 0, .slice none 0 0]; (try simp only [World.size_alloc] at h); exact h
 have hBW : Below w.heap.size w W := by rw [← hW]; exact ((((Below.refl _ _).alloc (by (try simp) <;> omega) _).alloc (by (try simp) <;> omega) _).alloc (by (try simp) <;> omega) _)
 have hsW : W.heap.size = w.heap.size + 1 + 1 + 1 := by rw [← hW]; simp
 clear T1 T2 hM1 hM2
 obtain ⟨e1, f1, rfl, p10⟩ := HT1.out.sh.at (i := 0) (by simp)
 obtain ⟨e1', f1', he1, p11⟩ := HT1.out.sh.at (i := 1) (by simp)
 obtain ⟨rfl, rfl⟩ : e1 = e1' ∧ f1 = f1' := by simpa using he1
 have l10 := World.block_lt_of_cell? _ _ p10
 have l11 := World.block_lt_of_cell? _ _ p11
 have q10 := fun (X : World) (h : Below W.heap.size W X) => (show X.cell? ⟨e1, f1, none⟩ = some (.int .i64 (a : Int)) from ((hBW.trans (h.mono hBW.size)).cell l10).trans p10)
 have q11 := fun (X : World) (h : Below W.heap.size W X) => (show X.cell? ⟨e1, f1 + 1, none⟩ = some (.int .i64 (b : Int)) from ((hBW.trans (h.mono hBW.size)).cell l11).trans p11)
 clear he1 p10 p11
 obtain ⟨e2, f2, rfl, p20⟩ := HT2.out.sh.at (i := 0) (by simp)
 obtain ⟨e2', f2', he2, p21⟩ := HT2.out.sh.at (i := 1) (by simp)
 obtain ⟨rfl, rfl⟩ : e2 = e2' ∧ f2 = f2' := by simpa using he2
 have l20 := World.block_lt_of_cell? _ _ p20
 have l21 := World.block_lt_of_cell? _ _ p21
 have q20 := fun (X : World) (h : Below W.heap.size W X) => (show X.cell? ⟨e2, f2, none⟩ = some (.int .i64 (b : Int)) from ((hBW.trans (h.mono hBW.size)).cell l20).trans p20)
 have q21 := fun (X : World) (h : Below W.heap.size W X) => (show X.cell? ⟨e2, f2 + 1, none⟩ = some (.int .i64 (c : Int)) from ((hBW.trans (h.mono hBW.size)).cell l21).trans p21)
 clear he2 p20 p21
 obtain ⟨P, hP⟩ : ∃ P, a * c = P := ⟨_, rfl⟩
 have hmul : (a : Int) * (c : Int) = (P : Int) := by rw [← hP]; exact (Int.natCast_mul a c).symm
 have hP4 : P ≤ 4096 := by rw [← hP]; exact Nat.mul_le_mul ha hc
 have HP := Lib.hid hP
 rw [hP] at h
 have MK := Lib.hid (show ∀ X, Below W.heap.size W X → X.cell? ⟨w.heap.size, 0, none⟩ = some (.slice (some ⟨e1, f1, none⟩) 2 ca1) ∧ X.cell? ⟨w.heap.size + 1, 0, none⟩ = some (.slice (some ⟨e2, f2, none⟩) 2 ca2) ∧ X.cell? ⟨e1, f1, none⟩ = some (.int .i64 (a : Int)) ∧ X.cell? ⟨e1, f1 + 1, none⟩ = some (.int .i64 (b : Int)) ∧ X.cell? ⟨e2, f2, none⟩ = some (.int .i64 (b : Int)) ∧ X.cell? ⟨e2, f2 + 1, none⟩ = some (.int .i64 (c : Int)) from fun X h => by
  obtain ⟨g0, g1, _⟩ := (R0.later h).two
  obtain ⟨g2, g3, _⟩ := (R1.later h).two
  exact ⟨g0, g2, q10 X h, q11 X h, q20 X h, q21 X h⟩)
 clear q10 q11 q20 q21 hP
 go_enter Tryz.func22, Tryz.ntmps22
 (try rw [hW])
 go_wp2_with fail
 (try rw [hW])
 (try clear hW)
 refine wp_region_held_drew (S := fun X => X.cell? ⟨w.heap.size, 0, none⟩ = some (.slice (some ⟨e1, f1, none⟩) 2 ca1) ∧ X.cell? ⟨w.heap.size + 1, 0, none⟩ = some (.slice (some ⟨e2, f2, none⟩) 2 ca2) ∧ X.cell? ⟨e1, f1, none⟩ = some (.int .i64 (a : Int)) ∧ X.cell? ⟨e1, f1 + 1, none⟩ = some (.int .i64 (b : Int)) ∧ X.cell? ⟨e2, f2, none⟩ = some (.int .i64 (b : Int)) ∧ X.cell? ⟨e2, f2 + 1, none⟩ = some (.int .i64 (c : Int))) (by kernel_rfl) (MK.out _ (Below.refl _ _).drew) (fun hHeld => ?_)
 have bd : Below W.heap.size W W.drew := (Below.refl _ _).drew
 refine todo [0, 1, 2, 3, 4, 5, 6, 7, 8, 9, 10, 11, 12, 13, 14, 15, 16, 17, 18, 19, 20] ?_
 iterate 21
  first
  | (refine todoH (v := ?_) rfl (by kernel_rfl) (fun _ _ _ h => h) (by assumption) (Or.inl ⟨by rfl, ?_⟩) ?_
     rotate_left
     · intro w hSw; (try dsimp only at hSw); go_simp; (try with_reducible rfl)
     try simp only [Act.put, nA, nB, nC, nD, nE, nF])
  | (refine todoH (v := undef) rfl (by kernel_rfl) (fun _ _ _ h => h) (by assumption) (Or.inr ⟨by rfl, rfl⟩) ?_
     try simp only [Act.put, nA, nB, nC, nD, nE, nF])
 refine todone ?_
 refine wpAnyH_done (by kernel_rfl) ?_ _
 (try dsimp only [Straight])
 go_wp2_with fail
 refine wp_region_held_drew (S := fun X => X.cell? ⟨w.heap.size, 0, none⟩ = some (.slice (some ⟨e1, f1, none⟩) 2 ca1) ∧ X.cell? ⟨w.heap.size + 1, 0, none⟩ = some (.slice (some ⟨e2, f2, none⟩) 2 ca2) ∧ X.cell? ⟨e1, f1, none⟩ = some (.int .i64 (a : Int)) ∧ X.cell? ⟨e1, f1 + 1, none⟩ = some (.int .i64 (b : Int)) ∧ X.cell? ⟨e2, f2, none⟩ = some (.int .i64 (b : Int)) ∧ X.cell? ⟨e2, f2 + 1, none⟩ = some (.int .i64 (c : Int))) (by kernel_rfl) (MK.out _ bd.drew) (fun hHeld2 => ?_)
 clear hHeld
 have hHeld := hHeld2
 clear hHeld2
 refine todo [0, 1, 2, 3, 4, 5, 6, 7, 8, 9, 10, 11, 12, 13, 14] ?_
 iterate 15
  first
  | (refine todoH (v := ?_) rfl (by kernel_rfl) (fun _ _ _ h => h) (by assumption) (Or.inl ⟨by rfl, ?_⟩) ?_
     rotate_left
     · intro w hSw; (try dsimp only at hSw); go_simp; (try with_reducible rfl)
     try simp only [Act.put, nA, nB, nC, nD, nE, nF])
  | (refine todoH (v := undef) rfl (by kernel_rfl) (fun _ _ _ h => h) (by assumption) (Or.inr ⟨by rfl, rfl⟩) ?_
     try simp only [Act.put, nA, nB, nC, nD, nE, nF])
 refine todone ?_
 refine wpAnyH_done (by kernel_rfl) ?_ _
 (try dsimp only [Straight])
 have hPI : (P : Int) > 1024 := by omega
 obtain ⟨k0, k1, k2, k3⟩ := R2.two
 have P3 := R2.set2 (.slice none 0 0) (.slice none 0 0)
 obtain ⟨z0, z1, _, _⟩ := P3.two
 have hBE := below_set2 hBW (show w.heap.size ≤ w.heap.size + 1 + 1 by omega) (.slice none 0 0) (.slice none 0 0)
 go_wp2_with fail
 exact bodyPost_ret (v := .tuple #[noTensor, .int .i64 14]) (by simp [results, Tryz.results22, go_sem, z0, z1, noTensor]) rfl ⟨⟨_, rfl, ⟨none, none, 0, 0, 0, 0, rfl⟩, fun h => by cases h⟩, hBE.drew.drew⟩
def mmL (b c : Nat) (X Y : List Rat) (m : Nat) : List Rat := (List.range m).map fun n => sumK (fun k => X.getD (b * (n / c) + k) 0 * Y.getD (c * k + n % c) 0) b
theorem mmL_len (b c : Nat) (X Y : List Rat) (m : Nat) : (mmL b c X Y m).length = m := by unfold mmL; simp
theorem mmL_next (b c : Nat) (X Y : List Rat) {i j : Nat} (hj : j < c) : mmL b c X Y (c * i + j + 1) = mmL b c X Y (c * i + j) ++ [sumK (fun k => X.getD (b * i + k) 0 * Y.getD (c * k + j) 0) b] := by
 unfold mmL
 rw [List.range_succ, List.map_append, List.map_cons, List.map_nil, (mat_div hj).1, (mat_div hj).2]
theorem mmL_all (a b c : Nat) (X Y : List Rat) : mmL b c X Y (c * a) = mmF a b c X Y := by unfold mmL mmF; rw [Nat.mul_comm]
theorem getD_fit10 {L : List Rat} {B : Nat} (h : ∀ x ∈ L, FitQ x B) (k : Nat) : FitQ (L.getD k 0) B := by
 rw [List.getD_eq_getElem?_getD]
 cases e : L[k]? with
 | none => exact FitQ.zero _
 | some x => exact h x (List.mem_of_getElem? e)
theorem sumFit10 {f : Nat → Rat} {B : Nat} (h : ∀ k, FitQ (f k) B) : ∀ k, FitQ (sumK f k) ((B + 1) * k)
 | 0 => FitQ.zero _
 | k + 1 => by
   have h3 := (sumFit10 h k).add (h k)
   have e : (B + 1) * (k + 1) = (B + 1) * k + B + 1 := by rw [Nat.mul_add, Nat.mul_one]; omega
   rw [e]
   exact h3
theorem matMulR_good {n a b c : Nat} {w : World} {u v : Value} {X Y : List Rat} {a1 b1 a2 b2 : Option Addr} {ca1 cb1 ca2 cb2 : Nat} (T1 : TensR w u [(a : Int), (b : Int)] X n a1 ca1 b1 cb1) (T2 : TensR w v [(b : Int), (c : Int)] Y n a2 ca2 b2 cb2) (ha : a ≤ 64) (hb : b ≤ 64) (hc : c ≤ 64) (h : a * c ≤ 1024) (lX : X.length = a * b) (lY : Y.length = b * c) (fX : ∀ x ∈ X, FitQ x 96) (fY : ∀ x ∈ Y, FitQ x 96) (hn : n ≤ 951) :
 Calls Tryz.prog 22 #[u, v] w fun e w' => Ref10 w' e 0 [(a : Int), (c : Int)] (mmF a b c X Y) 951 ∧ Below w.heap.size w w' := by
 obtain ⟨i0, hi, hz0, hz1, hz2⟩ := info_parts infoR
 have HFX := Lib.hid fX
 have HFY := Lib.hid fY
 have HLX := Lib.hid lX
 have HLY := Lib.hid lY
 clear fX fY lX lY
 have HT1 := Lib.hid T1
 have HT2 := Lib.hid T2
 obtain rfl := T1.is
 obtain rfl := T2.is
 obtain ⟨M1, hM1⟩ : ∃ m, X.length = m := ⟨_, rfl⟩
 obtain ⟨M2, hM2⟩ : ∃ m, Y.length = m := ⟨_, rfl⟩
 have HM1 := Lib.hid hM1
 have HM2 := Lib.hid hM2
 rw [hM1, hM2]
 obtain ⟨W, hW⟩ : ∃ W, (((w.alloc (.cells #[.slice a1 2 ca1, .slice b1 M1 cb1] 36)).alloc (.cells #[.slice a2 2 ca2, .slice b2 M2 cb2] 36)).alloc (.cells #[.slice none 0 0, .slice none 0 0] 36)) = W := ⟨_, rfl⟩
 have R0 : Row W (w.heap.size) 36 #[.slice a1 2 ca1, .slice b1 M1 cb1] := by rw [← hW]; have h := Row.new w 36 #[.slice a1 2 ca1, .slice b1 M1 cb1]; (try simp only [World.size_alloc] at h); exact ((h.alloc _).alloc _)
 have R1 : Row W (w.heap.size + 1) 36 #[.slice a2 2 ca2, .slice b2 M2 cb2] := by rw [← hW]; have h := Row.new (w.alloc (.cells #[.slice a1 2 ca1, .slice b1 M1 cb1] 36)) 36 #[.slice a2 2 ca2, .slice b2 M2 cb2]; (try simp only [World.size_alloc] at h); exact (h.alloc _)
 have R2 : Row W (w.heap.size + 1 + 1) 36 #[.slice none 0 0, .slice none 0 0] := by rw [← hW]; have h := Row.new ((w.alloc (.cells #[.slice a1 2 ca1, .slice b1 M1 cb1] 36)).alloc (.cells #[.slice a2 2 ca2, .slice b2 M2 cb2] 36)) 36 #[.slice none 0 0, .slice none 0 0]; (try simp only [World.size_alloc] at h); exact h
 have hBW : Below w.heap.size w W := by rw [← hW]; exact ((((Below.refl _ _).alloc (by (try simp) <;> omega) _).alloc (by (try simp) <;> omega) _).alloc (by (try simp) <;> omega) _)
 have hsW : W.heap.size = w.heap.size + 1 + 1 + 1 := by rw [← hW]; simp
 clear T1 T2 hM1 hM2
 obtain ⟨e1, f1, rfl, p10⟩ := HT1.out.sh.at (i := 0) (by simp)
 obtain ⟨e1', f1', he1, p11⟩ := HT1.out.sh.at (i := 1) (by simp)
 obtain ⟨rfl, rfl⟩ : e1 = e1' ∧ f1 = f1' := by simpa using he1
 have l10 := World.block_lt_of_cell? _ _ p10
 have l11 := World.block_lt_of_cell? _ _ p11
 have q10 := fun (X : World) (h : Below W.heap.size W X) => (show X.cell? ⟨e1, f1, none⟩ = some (.int .i64 (a : Int)) from ((hBW.trans (h.mono hBW.size)).cell l10).trans p10)
 have q11 := fun (X : World) (h : Below W.heap.size W X) => (show X.cell? ⟨e1, f1 + 1, none⟩ = some (.int .i64 (b : Int)) from ((hBW.trans (h.mono hBW.size)).cell l11).trans p11)
 clear he1 p10 p11
 obtain ⟨e2, f2, rfl, p20⟩ := HT2.out.sh.at (i := 0) (by simp)
 obtain ⟨e2', f2', he2, p21⟩ := HT2.out.sh.at (i := 1) (by simp)
 obtain ⟨rfl, rfl⟩ : e2 = e2' ∧ f2 = f2' := by simpa using he2
 have l20 := World.block_lt_of_cell? _ _ p20
 have l21 := World.block_lt_of_cell? _ _ p21
 have q20 := fun (X : World) (h : Below W.heap.size W X) => (show X.cell? ⟨e2, f2, none⟩ = some (.int .i64 (b : Int)) from ((hBW.trans (h.mono hBW.size)).cell l20).trans p20)
 have q21 := fun (X : World) (h : Below W.heap.size W X) => (show X.cell? ⟨e2, f2 + 1, none⟩ = some (.int .i64 (c : Int)) from ((hBW.trans (h.mono hBW.size)).cell l21).trans p21)
 clear he2 p20 p21
 obtain ⟨P, hP⟩ : ∃ P, a * c = P := ⟨_, rfl⟩
 have hmul : (a : Int) * (c : Int) = (P : Int) := by rw [← hP]; exact (Int.natCast_mul a c).symm
 have hP4 : P ≤ 4096 := by rw [← hP]; exact Nat.mul_le_mul ha hc
 have HP := Lib.hid hP
 rw [hP] at h
 have MK := Lib.hid (show ∀ X, Below W.heap.size W X → X.cell? ⟨w.heap.size, 0, none⟩ = some (.slice (some ⟨e1, f1, none⟩) 2 ca1) ∧ X.cell? ⟨w.heap.size + 1, 0, none⟩ = some (.slice (some ⟨e2, f2, none⟩) 2 ca2) ∧ X.cell? ⟨e1, f1, none⟩ = some (.int .i64 (a : Int)) ∧ X.cell? ⟨e1, f1 + 1, none⟩ = some (.int .i64 (b : Int)) ∧ X.cell? ⟨e2, f2, none⟩ = some (.int .i64 (b : Int)) ∧ X.cell? ⟨e2, f2 + 1, none⟩ = some (.int .i64 (c : Int)) from fun X h => by
  obtain ⟨g0, g1, _⟩ := (R0.later h).two
  obtain ⟨g2, g3, _⟩ := (R1.later h).two
  exact ⟨g0, g2, q10 X h, q11 X h, q20 X h, q21 X h⟩)
 clear q10 q11 q20 q21 hP
 go_enter Tryz.func22, Tryz.ntmps22
 (try rw [hW])
 go_wp2_with fail
 (try rw [hW])
 (try clear hW)
 refine wp_region_held_drew (S := fun X => X.cell? ⟨w.heap.size, 0, none⟩ = some (.slice (some ⟨e1, f1, none⟩) 2 ca1) ∧ X.cell? ⟨w.heap.size + 1, 0, none⟩ = some (.slice (some ⟨e2, f2, none⟩) 2 ca2) ∧ X.cell? ⟨e1, f1, none⟩ = some (.int .i64 (a : Int)) ∧ X.cell? ⟨e1, f1 + 1, none⟩ = some (.int .i64 (b : Int)) ∧ X.cell? ⟨e2, f2, none⟩ = some (.int .i64 (b : Int)) ∧ X.cell? ⟨e2, f2 + 1, none⟩ = some (.int .i64 (c : Int))) (by kernel_rfl) (MK.out _ (Below.refl _ _).drew) (fun hHeld => ?_)
 have bd : Below W.heap.size W W.drew := (Below.refl _ _).drew
 refine todo [0, 1, 2, 3, 4, 5, 6, 7, 8, 9, 10, 11, 12, 13, 14, 15, 16, 17, 18, 19, 20] ?_
 iterate 21
  first
  | (refine todoH (v := ?_) rfl (by kernel_rfl) (fun _ _ _ h => h) (by assumption) (Or.inl ⟨by rfl, ?_⟩) ?_
     rotate_left
     · intro w hSw; (try dsimp only at hSw); go_simp; (try with_reducible rfl)
     try simp only [Act.put, nA, nB, nC, nD, nE, nF])
  | (refine todoH (v := undef) rfl (by kernel_rfl) (fun _ _ _ h => h) (by assumption) (Or.inr ⟨by rfl, rfl⟩) ?_
     try simp only [Act.put, nA, nB, nC, nD, nE, nF])
 refine todone ?_
 refine wpAnyH_done (by kernel_rfl) ?_ _
 (try dsimp only [Straight])
 go_wp2_with fail
 refine wp_region_held_drew (S := fun X => X.cell? ⟨w.heap.size, 0, none⟩ = some (.slice (some ⟨e1, f1, none⟩) 2 ca1) ∧ X.cell? ⟨w.heap.size + 1, 0, none⟩ = some (.slice (some ⟨e2, f2, none⟩) 2 ca2) ∧ X.cell? ⟨e1, f1, none⟩ = some (.int .i64 (a : Int)) ∧ X.cell? ⟨e1, f1 + 1, none⟩ = some (.int .i64 (b : Int)) ∧ X.cell? ⟨e2, f2, none⟩ = some (.int .i64 (b : Int)) ∧ X.cell? ⟨e2, f2 + 1, none⟩ = some (.int .i64 (c : Int))) (by kernel_rfl) (MK.out _ bd.drew) (fun hHeld2 => ?_)
 clear hHeld
 have hHeld := hHeld2
 clear hHeld2
 refine todo [0, 1, 2, 3, 4, 5, 6, 7, 8, 9, 10, 11, 12, 13, 14] ?_
 iterate 15
  first
  | (refine todoH (v := ?_) rfl (by kernel_rfl) (fun _ _ _ h => h) (by assumption) (Or.inl ⟨by rfl, ?_⟩) ?_
     rotate_left
     · intro w hSw; (try dsimp only at hSw); go_simp; (try with_reducible rfl)
     try simp only [Act.put, nA, nB, nC, nD, nE, nF])
  | (refine todoH (v := undef) rfl (by kernel_rfl) (fun _ _ _ h => h) (by assumption) (Or.inr ⟨by rfl, rfl⟩) ?_
     try simp only [Act.put, nA, nB, nC, nD, nE, nF])
 refine todone ?_
 refine wpAnyH_done (by kernel_rfl) ?_ _
 (try dsimp only [Straight])
 have hPI : ¬ (P : Int) > 1024 := by omega
 obtain ⟨G, hG⟩ : ∃ G, W.heap.size = G := ⟨_, rfl⟩
 have HG := Lib.hid hG
 obtain ⟨W2, hW2⟩ : ∃ X, W.alloc (.cells #[.int .i64 (a : Int), .int .i64 (c : Int)] 3) = X := ⟨_, rfl⟩
 obtain ⟨W3, hW3⟩ : ∃ X, W2.alloc (.cells #[.slice (some ⟨G, 0, none⟩) 2 2, .slice none 0 0] 36) = X := ⟨_, rfl⟩
 have s2 : W2.heap.size = G + 1 := by rw [← hW2, World.size_alloc, hG]
 have b12 : Below W.heap.size W W2 := by rw [← hW2]; exact (Below.refl _ _).alloc (Nat.le_refl _) _
 have b23 : Below W2.heap.size W2 W3 := by rw [← hW3]; exact (Below.refl _ _).alloc (Nat.le_refl _) _
 have b13 : Below W.heap.size W W3 := b12.trans (b23.mono b12.size)
 have RR := R2.later b13
 have RO : Row W3 (G + 1) 36 #[.slice (some ⟨G, 0, none⟩) 2 2, .slice none 0 0] := by rw [← s2, ← hW3]; exact Row.new _ _ _
 have rs : ResS G W3 (.slice (some ⟨G, 0, none⟩) 2 2) [(a : Int), (c : Int)] := by
  have h : ResS W.heap.size W2 (.slice (some ⟨W.heap.size, 0, none⟩) 2 2) [(a : Int), (c : Int)] := by
   rw [← hW2]
   exact ⟨⟨rfl, .inr ⟨W.heap.size, 2, #[.int .i64 (a : Int), .int .i64 (c : Int)], rfl, Nat.le_refl _, heap_alloc_new W _, Nat.le_refl _, by unfold maxLen; omega, by simp, by simp⟩⟩, wid2_10 (by omega) (by omega)⟩
  rw [hG] at h
  exact h.later b23
 rw [hG] at b13
 have HRR := Lib.hid RR
 have HRO := Lib.hid RO
 have HRS := Lib.hid rs
 have HB13 := Lib.hid b13
 have HR0 := Lib.hid R0
 have HR1 := Lib.hid R1
 have HBW := Lib.hid hBW
 have HSW := Lib.hid hsW
 have h2' := Lib.hid hW2
 have h3' := Lib.hid hW3
 have s2' := Lib.hid s2
 clear RR RO rs b12 b23 b13 R0 R1 R2 hW2 hW3 s2 hG hBW hsW h
 go_wp2_with fail
 have hG := HG.out
 have hW2 := h2'.out
 have hW3 := h3'.out
 have s2 := s2'.out
 (try simp only [hG, hW2, s2, hW3])
 clear hG hW2 hW3 s2 hmul hPI
 go_loopw [10] (fun i wr => ∃ (i' : Nat) (v : Value), i = .int .i64 (i' : Int) ∧ i' ≤ a ∧ Row wr (w.heap.size + 1 + 1) 36 #[.slice none 0 0, .slice none 0 0] ∧ Row wr (G + 1) 36 #[.slice (some ⟨G, 0, none⟩) 2 2, v] ∧ ResS G wr (.slice (some ⟨G, 0, none⟩) 2 2) [(a : Int), (c : Int)] ∧ RowO G 58 (fun W v x => ResR G W v x 951) wr v (mmL b c X Y (c * i')) ∧ Below G W wr) (fun i _ => a - (intOf i).toNat)
 case atStart => exact ⟨0, _, rfl, Nat.zero_le _, HRR.out, HRO.out, HRS.out.later ((Below.refl _ _).drew.drew), RowO.nil _ _ _ _, HB13.out.drew.drew⟩
 case round =>
  obtain ⟨i, v, rfl, hi', rr, ro, rs, hE, hbI⟩ := hrel
  by_cases hltA : i < a
  · have hltAI : (i : Int) < (a : Int) := by omega
    have H1 := Lib.hid rr
    have H2 := Lib.hid ro
    have H3 := Lib.hid rs
    have H4 := Lib.hid hE
    have H5 := Lib.hid hbI
    clear rr ro rs hE hbI
    go_wp2_with fail
    go_loopw [11] (fun j wr => ∃ (j' : Nat) (v : Value), j = .int .i64 (j' : Int) ∧ j' ≤ c ∧ Row wr (w.heap.size + 1 + 1) 36 #[.slice none 0 0, .slice none 0 0] ∧ Row wr (G + 1) 36 #[.slice (some ⟨G, 0, none⟩) 2 2, v] ∧ ResS G wr (.slice (some ⟨G, 0, none⟩) 2 2) [(a : Int), (c : Int)] ∧ RowO G 58 (fun W v x => ResR G W v x 951) wr v (mmL b c X Y (c * i + j')) ∧ Below G W wr) (fun j _ => c - (intOf j).toNat)
    case atStart => exact ⟨0, _, rfl, Nat.zero_le _, H1.out, H2.out, H3.out, H4.out, H5.out⟩
    case round =>
     rename World => wj
     obtain ⟨j, v, rfl, hj', rr, ro, rs, hE, hbJ⟩ := hrel
     by_cases hltC : j < c
     · have hltCI : (j : Int) < (c : Int) := by omega
       have J1 := Lib.hid rr
       have J2 := Lib.hid ro
       have J3 := Lib.hid rs
       have J4 := Lib.hid hE
       have J5 := Lib.hid hbJ
       have J5sz := Lib.hid (show W.heap.size ≤ wj.heap.size from hbJ.size)
       clear rr ro rs hE hbJ
       go_wp2_with fail
       refine (intRR_any 0 _ (by decide) (by decide)).mono ?_
       rintro e y1 ⟨r7, rfl, q7, hy⟩
       obtain ⟨m7, a7, b7, c7, d7, e7, f7, rfl⟩ := q7.shape10
       obtain ⟨B3, hB3⟩ : ∃ B, y1.heap.size = B := ⟨_, rfl⟩
       obtain ⟨y2, hV⟩ : ∃ X, y1.alloc (.cells #[.bool m7, .slice a7 b7 c7, .slice d7 e7 f7] 58) = X := ⟨_, rfl⟩
       have bz : Below y1.heap.size y1 y2 := by rw [← hV]; exact (Below.refl _ _).alloc (Nat.le_refl _) _
       have NS : Row y2 B3 58 #[.bool m7, .slice a7 b7 c7, .slice d7 e7 f7] := by rw [← hB3, ← hV]; exact Row.new _ _ _
       have hyz := hy.trans (bz.mono hy.size)
       have S2 : ResR wj.heap.size y2 (.agg #[.bool m7, .slice a7 b7 c7, .slice d7 e7 f7]) (sumK (fun k => X.getD (b * i + k) 0 * Y.getD (c * k + j) 0) 0) 951 := by
        have h := (q7.later bz).more (m := 951) (by decide)
        rw [intQ_zero] at h
        exact h
       have HSY := Lib.hid hyz
       have HS2 := Lib.hid S2
       have HNS := Lib.hid NS
       have HY1 := Lib.hid hy
       have HB3 := Lib.hid hB3
       have hV2 := Lib.hid hV
       clear hy bz NS hyz S2 q7 hB3 hV
       go_wp2_with fail
       have hV := hV2.out
       have hB3 := HB3.out
       (try simp only [hB3, hV])
       clear hV hB3
       go_loopw [13] (fun k' wt => ∃ (k : Nat) (m1 : Bool) (p1 : Option Addr) (p2 p3 : Nat) (p4 : Option Addr) (p5 p6 : Nat), k' = .int .i64 (k : Int) ∧ k ≤ b ∧ Row wt B3 58 #[.bool m1, .slice p1 p2 p3, .slice p4 p5 p6] ∧ ResR wj.heap.size wt (.agg #[.bool m1, .slice p1 p2 p3, .slice p4 p5 p6]) (sumK (fun k => X.getD (b * i + k) 0 * Y.getD (c * k + j) 0) k) 951 ∧ Below wj.heap.size wj wt) (fun k' _ => b - (intOf k').toNat)
       case atStart => exact ⟨0, _, _, _, _, _, _, _, rfl, Nat.zero_le _, HNS.out, HS2.out, HSY.out⟩
       case round =>
        rename World => wt
        obtain ⟨k, m1, p1, p2, p3, p4, p5, p6, rfl, hk', rsm, hS, hbt⟩ := hrel
        have hszt := hbt.size
        have hbW : Below W.heap.size W wt := by
         have h1 := J5.out
         rw [← HG.out] at h1
         exact h1.trans (hbt.mono h1.size)
        by_cases hltB : k < b
        · have hltBI : (k : Int) < (b : Int) := by omega
          have hiA : i < a := hltA
          obtain ⟨px, hpx⟩ : ∃ p, b * i = p := ⟨_, rfl⟩
          obtain ⟨py, hpy⟩ : ∃ p, c * k = p := ⟨_, rfl⟩
          have hmx : (b : Int) * (i : Int) = (px : Int) := by rw [← hpx]; exact (Int.natCast_mul b i).symm
          have hmy : (c : Int) * (k : Int) = (py : Int) := by rw [← hpy]; exact (Int.natCast_mul c k).symm
          have hlx : px + k < X.length := by rw [HLX.out, ← hpx]; exact mat_lt hiA hltB
          have hly : py + j < Y.length := by rw [HLY.out, ← hpy]; exact mat_lt hltB hltC
          have hX4 : X.length ≤ 4096 := by rw [HLX.out]; exact Nat.mul_le_mul ha hb
          have hY4 : Y.length ≤ 4096 := by rw [HLY.out]; exact Nat.mul_le_mul hb hc
          obtain ⟨sx, hsx⟩ : ∃ p, px + k = p := ⟨_, rfl⟩
          obtain ⟨sy, hsy⟩ : ∃ p, py + j = p := ⟨_, rfl⟩
          have hsxI : (px : Int) + (k : Int) = (sx : Int) := by omega
          have hsyI : (py : Int) + (j : Int) = (sy : Int) := by omega
          rw [hsx] at hlx
          rw [hsy] at hly
          obtain ⟨bx, ox, x0, x1, x2, qx, hbx, hqx, gx0, gx1, gx2, arx⟩ := (HT1.out.later (HBW.out.trans (hbW.mono HBW.out.size))).el.at hlx
          obtain ⟨b_y, oy, u0, u1, u2, qy, hb_y, hqy, gy0, gy1, gy2, ary⟩ := (HT2.out.later (HBW.out.trans (hbW.mono HBW.out.size))).el.at hly
          subst hbx
          subst hb_y
          have hgx : X.getD (b * i + k) 0 = qx := by rw [hpx, hsx, List.getD_eq_getElem?_getD, hqx]; rfl
          have hgy : Y.getD (c * k + j) 0 = qy := by rw [hpy, hsy, List.getD_eq_getElem?_getD, hqy]; rfl
          have hnx : sumK (fun k => X.getD (b * i + k) 0 * Y.getD (c * k + j) 0) (k + 1) = sumK (fun k => X.getD (b * i + k) 0 * Y.getD (c * k + j) 0) k + qx * qy := by rw [← hgx, ← hgy]; rfl
          have hfit : FitQ (sumK (fun k => X.getD (b * i + k) 0 * Y.getD (c * k + j) 0) (k + 1)) 12352 := (sumFit10 (B := 96 + 96) (fun k => (getD_fit10 HFX.out _).mul (getD_fit10 HFY.out _)) (k + 1)).mono (by omega)
          have hxM : (sx : Int) < (M1 : Int) := by have := HM1.out; omega
          have hyM : (sy : Int) < (M2 : Int) := by have := HM2.out; omega
          have hx0 : (0 : Int) ≤ (sx : Int) := by omega
          have hy0 : (0 : Int) ≤ (sy : Int) := by omega
          have hp4 : px ≤ 4096 := by have := HM1.out; omega
          have hq4 : py ≤ 4096 := by have := HM2.out; omega
          have hs4 : sx ≤ 4096 := by omega
          have ht4 : sy ≤ 4096 := by omega
          have wpx : IntKind.i64.wrap (px : Int) = (px : Int) := IntWalk.i64_in _ (by omega)
          have wpy : IntKind.i64.wrap (py : Int) = (py : Int) := IntWalk.i64_in _ (by omega)
          have wsx : IntKind.i64.wrap (sx : Int) = (sx : Int) := IntWalk.i64_in _ (by omega)
          have wsy : IntKind.i64.wrap (sy : Int) = (sy : Int) := IntWalk.i64_in _ (by omega)
          have HNX := Lib.hid hnx
          have HFIT := Lib.hid hfit
          have HAX := Lib.hid arx
          have HAY := Lib.hid ary
          have HSM := Lib.hid rsm
          have HSS := Lib.hid hS
          have HBT := Lib.hid hbt
          have HBWt := Lib.hid hbW
          have hwB : wj.heap.size ≤ B3 := by rw [← HB3.out]; exact HY1.out.size
          have MKA := Lib.hid (show ∀ Y, Below wt.heap.size wt Y → (Y.cell? ⟨w.heap.size, 1, none⟩ = some (.slice (some ⟨bx, ox, none⟩) M1 cb1)) ∧ (Y.cell? ⟨w.heap.size + 1, 1, none⟩ = some (.slice (some ⟨b_y, oy, none⟩) M2 cb2)) ∧ (Y.cell? ⟨B3, 0, none⟩ = some (.bool m1) ∧ Y.cell? ⟨B3, 1, none⟩ = some (.slice p1 p2 p3) ∧ Y.cell? ⟨B3, 2, none⟩ = some (.slice p4 p5 p6)) ∧ (Y.cell? ⟨bx, ox + sx * 3, none⟩ = some x0 ∧ Y.cell? ⟨bx, ox + sx * 3 + 1, none⟩ = some x1 ∧ Y.cell? ⟨bx, ox + sx * 3 + 2, none⟩ = some x2) ∧ (Y.cell? ⟨b_y, oy + sy * 3, none⟩ = some u0 ∧ Y.cell? ⟨b_y, oy + sy * 3 + 1, none⟩ = some u1 ∧ Y.cell? ⟨b_y, oy + sy * 3 + 2, none⟩ = some u2) from fun Y h => by
           obtain ⟨_, g1, _⟩ := ((HR0.out.later HBWt.out).later h).two
           obtain ⟨_, g3, _⟩ := ((HR1.out.later HBWt.out).later h).two
           obtain ⟨g5, g6, g7, _⟩ := (HSM.out.later h).three
           exact ⟨g1, g3, ⟨g5, g6, g7⟩, ⟨(h.cell (World.block_lt_of_cell? _ _ gx0)).trans gx0, (h.cell (World.block_lt_of_cell? _ _ gx1)).trans gx1, (h.cell (World.block_lt_of_cell? _ _ gx2)).trans gx2⟩, (h.cell (World.block_lt_of_cell? _ _ gy0)).trans gy0, (h.cell (World.block_lt_of_cell? _ _ gy1)).trans gy1, (h.cell (World.block_lt_of_cell? _ _ gy2)).trans gy2⟩)
          clear hpx hpy hsx hsy hlx hly hX4 hY4 hqx hqy gx0 gx1 gx2 gy0 gy1 gy2 arx ary hgx hgy hnx hfit rsm hS hbt hbW
          go_wp2_with fail
          refine wp_region_L (S := fun Y => (Y.cell? ⟨w.heap.size, 1, none⟩ = some (.slice (some ⟨bx, ox, none⟩) M1 cb1)) ∧ (Y.cell? ⟨w.heap.size + 1, 1, none⟩ = some (.slice (some ⟨b_y, oy, none⟩) M2 cb2)) ∧ (Y.cell? ⟨B3, 0, none⟩ = some (.bool m1) ∧ Y.cell? ⟨B3, 1, none⟩ = some (.slice p1 p2 p3) ∧ Y.cell? ⟨B3, 2, none⟩ = some (.slice p4 p5 p6)) ∧ (Y.cell? ⟨bx, ox + sx * 3, none⟩ = some x0 ∧ Y.cell? ⟨bx, ox + sx * 3 + 1, none⟩ = some x1 ∧ Y.cell? ⟨bx, ox + sx * 3 + 2, none⟩ = some x2) ∧ (Y.cell? ⟨b_y, oy + sy * 3, none⟩ = some u0 ∧ Y.cell? ⟨b_y, oy + sy * 3 + 1, none⟩ = some u1 ∧ Y.cell? ⟨b_y, oy + sy * 3 + 2, none⟩ = some u2)) (z := 21) (by kernel_rfl) (MKA.out _ (Below.refl _ _).drew) (fun hHeld => ?_)
          have bd : Below wt.heap.size wt wt.drew := (Below.refl _ _).drew
          refine todo [0, 1, 2, 3, 4, 5, 6, 7, 8, 9, 10, 11, 12, 13, 14, 15, 16, 17, 18] ?_
          iterate 19
           refine todoL (v := ?_) rfl (by kernel_rfl) (fun _ _ _ h => h) (by assumption) (Or.inl ⟨by rfl, ?_⟩) ?_
           rotate_left
           · intro w hSw; (try dsimp only at hSw); go_simp; (try with_reducible rfl)
           try simp only [Act.put, nA, nB, nC, nD, nE, nF]
          refine todone ?_
          refine wpAnyL_one (i := 19) (by kernel_rfl) rfl (fun K hK => ?sbt_19)
          go_simp
          refine (mulRR_any (n := 951) ((HAX.out.later bd).more10 hn) ((HAY.out.later bd).more10 hn) (by decide)).mono ?_
          rintro e w5 ⟨r5, rfl, q5, hb5⟩
          have b5 : Below wt.heap.size wt w5 := bd.trans (hb5.mono bd.size)
          have Q5 := Lib.hid q5
          clear q5
          go_simp
          refine hK.out _ _ (fun _ => MKA.out _ b5) (fun hHeld2 => ?mbt_19)
          clear hK K hHeld
          have hHeld := hHeld2 (by decide)
          clear hHeld2
          try simp only [Act.put, nA, nB, nC, nD, nE, nF]
          refine wpAnyL_one (i := 20) (by kernel_rfl) rfl (fun K hK => ?sbt_20)
          go_simp
          refine (addRR_any (n := 2858) ((HSS.out.later b5).arg.more10 (by decide)) Q5.out.arg (by decide)).mono ?_
          rintro e w6 ⟨r6, rfl, q6, hb6⟩
          have b6 : Below wt.heap.size wt w6 := b5.trans (hb6.mono b5.size)
          obtain ⟨m8, a8, b8, c8, d8, e8, f8, rfl⟩ := q6.shape10
          rw [← HNX.out] at q6
          have Q6 := Lib.hid ((q6.refit10 HFIT.out).mono (base' := wj.heap.size) (by have h1 := b5.size; omega))
          clear q6
          go_simp
          refine hK.out _ _ (fun _ => MKA.out _ b6) (fun hHeld2 => ?mbt_20)
          clear hK K hHeld
          have hHeld := hHeld2 (by decide)
          clear hHeld2
          try simp only [Act.put, nA, nB, nC, nD, nE, nF]
          have R6 : Row w6 B3 58 #[.bool m1, .slice p1 p2 p3, .slice p4 p5 p6] := HSM.out.later b6
          obtain ⟨k1, k2, k3, n1, n2, n3⟩ := R6.three
          refine wpAnyL_one (i := 21) (by kernel_rfl) rfl (fun K hK => ?sbt_21)
          go_simp
          refine hK.out _ _ (fun h => absurd rfl h) (fun _ => ?mbt_21)
          clear hK K
          try simp only [Act.put, nA, nB, nC, nD, nE, nF]
          refine wpAnyL_done (by kernel_rfl) ?_ _
          go_wp2
          go_roundw
          case rel => exact ⟨k + 1, _, _, _, _, _, _, _, by go_num, by omega, R6.set3 _ _ _, Q6.out.far R6 (by decide) (kept3 _ _ _), below_set3 (HBT.out.trans (b6.mono hszt)) hwB _ _ _⟩
          case measure => simp [intOf]; omega
        · obtain rfl : k = b := by omega
          have hltBI : ¬ (k : Int) < (k : Int) := by omega
          have szj : G ≤ wj.heap.size := by rw [← HG.out]; exact J5sz.out
          have rr := J1.out.later hbt
          have ro := J2.out.later hbt
          have rsh := J3.out.later hbt
          obtain ⟨es, hown0, hall0⟩ := J4.out
          have hown := hown0.later hbt
          have hall : AllE (fun v x => ResR G wt v x 951) es (mmL k c X Y (c * i + j)) := hall0.imp fun u x _ h => h.later hbt
          have hle : es.length = c * i + j := by rw [hall.1, mmL_len]
          have hbG : Below G W wt := J5.out.trans (hbt.mono szj)
          have hszG : G ≤ wt.heap.size := Nat.le_trans szj hszt
          have hci : c * i ≤ 4096 := Nat.le_trans (Nat.mul_le_mul hc (show i ≤ 64 by omega)) (by decide)
          have hes : es.length ≤ 4160 := by omega
          obtain ⟨r, hrv, hrb, hrne, hrA⟩ := hown.hits10 hszG
          have n0 := hrne _ _ _ rr (by decide)
          have ng := hrne _ _ _ ro (by decide)
          obtain ⟨c0, c1, c2, _, _, _⟩ := rsm.three
          have cg1 := ro.cell 1
          have hal : Below wt.heap.size wt (wt.alloc (.cells #[.bool m1, .slice p1 p2 p3, .slice p4 p5 p6] 58)) := (Below.refl _ _).alloc (Nat.le_refl _) _
          have HAL := Lib.hid hal
          have HSMv := Lib.hid (hS.mono szj)
          have L1 := Lib.hid rr
          have L2 := Lib.hid ro
          have L3 := Lib.hid rsh
          have HOWN := Lib.hid hown
          have HALL := Lib.hid hall
          have HBG := Lib.hid hbG
          have HSZ := Lib.hid hszG
          have HRV := Lib.hid hrv
          have z2 : w.heap.size + 1 + 1 ≠ G + 1 := by have h1 := HSW.out; have h2 := HG.out; omega
          clear hal hS rr ro rsh hown0 hall0 hown hall hle hbG hbt hbW rsm hci
          go_wp2_with (at_builtin; refine wpList_append_own _ rfl _ _ 34 rfl G 58 i0 _ 3 56 Tryz.underlying34 hi hz0 hz1 hz2 rfl (by decide) _ es.length (flat3 es) rfl (HOWN.out.later HAL.out) ⟨wt.heap.size, 0, none⟩ 1 1 [.bool m1, .slice p1 p2 p3, .slice p4 p5 p6] rfl rfl (cell_three_new _ _ _ _ _) (by simp [Value.oneCell']) (by unfold maxLen; omega) (by omega) (by simp; omega) ?_; intro v' w7 hown' hgrow _; obtain ⟨av7, cv7, rfl⟩ := ownT_slice hown'; have hk7 : Kept r wt w7 := ((Kept.refl r wt).alloc _).grown hgrow HRV.out; have R7 := L2.out.kept hk7 ng; have f7 := R7.free 1; have c7 := R7.cell 1)
          go_roundw
          case rel =>
           obtain ⟨hrow7, hb7⟩ := pushE (P := fun Y v x => ResR G Y v x 951) (e := ⟨.bool m1, .slice p1 p2 p3, .slice p4 p5 p6⟩) (base := G) (w := W) (wr := wt) HBG.out HSZ.out HOWN.out HALL.out HSMv.out (fun u y h => h.apart HOWN.out hgrow (by decide)) hown' hgrow
           have rs7 : ResS G w7 (.slice (some ⟨G, 0, none⟩) 2 2) [(a : Int), (c : Int)] := ResS.apart HOWN.out hgrow (by decide) L3.out
           refine ⟨j + 1, _, by go_num, by omega, (L1.out.kept hk7 n0).far (by show w.heap.size + 1 + 1 ≠ G + 1; exact z2) _, R7.set21 _, rs7.far R7 (by decide) (kept1 _), ?_, hb7.setCell (by show G ≤ G + 1; omega) _⟩
           rw [← Nat.add_assoc, mmL_next k c X Y hltC]
           exact hrow7.far R7 (by decide) (kept1 _) (fun u y h => h.far R7 (by decide) (kept1 _))
          case measure => simp [intOf]; omega
     · obtain rfl : j = c := by omega
       have hltCI : ¬ (j : Int) < (j : Int) := by omega
       have e1' : j * i + j = j * (i + 1) := by rw [Nat.mul_add, Nat.mul_one]
       rw [e1'] at hE
       have Q1 := Lib.hid rr
       have Q2 := Lib.hid ro
       have Q3' := Lib.hid rs
       have Q4 := Lib.hid hE
       have Q5 := Lib.hid hbJ
       clear rr ro rs hE hbJ e1'
       go_wp2
       go_roundw
       case rel => exact ⟨i + 1, v, by go_num, by omega, Q1.out, Q2.out, Q3'.out, Q4.out, Q5.out⟩
       case measure => simp [intOf]; omega
  · obtain rfl : i = a := by omega
    have hltAI : ¬ (i : Int) < (i : Int) := by omega
    rw [mmL_all] at hE
    obtain ⟨es, hown, hall⟩ := hE
    obtain ⟨av, cv, rfl⟩ := ownT_slice hown
    have hle : es.length = i * c := by rw [hall.1, mmF_len]
    have c20 := ro.cell 0
    have d21 := ro.cell 1
    obtain ⟨g10, g11, f10, f11⟩ := rr.two
    have RRs := rr.set2 (.slice (some ⟨G, 0, none⟩) 2 2) (.slice av es.length cv)
    obtain ⟨z0, z1, _, _⟩ := RRs.two
    have hE3 : RowO G 58 (fun W v x => ResR G W v x 951) wr (.slice av es.length cv) (mmF i b c X Y) := ⟨es, hown, hall⟩
    have hT := ofT_tens (s := [(i : Int), (c : Int)]) (m := es.length) (by rw [mmF_len, hle]) (rs.far rr (by decide) (kept2 (.slice (some ⟨G, 0, none⟩) 2 2) (.slice av es.length cv))) (hE3.far rr (by decide) (kept2 (.slice (some ⟨G, 0, none⟩) 2 2) (.slice av es.length cv)) (fun u y h => h.far rr (by decide) (kept2 _ _)))
    have HT := Lib.hid hT
    have hbw := HBW.out
    have hbE := below_set2 (hbw.trans (hbI.mono (by have h1 := HSW.out; have h2 := HG.out; omega))) (show w.heap.size ≤ w.heap.size + 1 + 1 by omega) (.slice (some ⟨G, 0, none⟩) 2 2) (.slice av es.length cv)
    have HBE := Lib.hid hbE
    clear hown hall hle RRs hT hbE hE3 hbw hbI rs
    go_wp2_with fail
    exact bodyPost_ret (v := .tuple #[.agg #[.slice (some ⟨G, 0, none⟩) 2 2, .slice av es.length cv], .int .i64 0]) (by simp [results, Tryz.results22, go_sem, z0, z1]) rfl ⟨⟨_, rfl, ⟨_, _, _, _, _, _, rfl⟩, fun _ => ⟨_, _, _, _, HT.out⟩⟩, HBE.out⟩
end
end Go.Proofs.YtengpgodmbfmkaaGreat
