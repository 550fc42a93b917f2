/-
  Part 8 of 39: contracts and what they rest on (RefE, RefF, NatD, Shr, QRef, QRefB).
-/
import Derived.Test.YtengpgodmbfmkaaGreatG6
namespace Go.Proofs.YtengpgodmbfmkaaGreat
set_option linter.unusedVariables false
set_option linter.unusedSimpArgs false
set_option maxRecDepth 100000
set_option maxHeartbeats 40000000
section
open Go.RowKit
theorem NumI.lit {base : Nat} {w : World} (h : base ≤ w.heap.size) (zs : List Int) (hm : zs.length ≤ maxLen) :
 NumI base (w.alloc (.cells (zs.map (Value.int .i64)).toArray 3)) (.slice (some ⟨w.heap.size, 0, none⟩) zs.length zs.length) zs := by
 unfold NumI
 exact ⟨by simp, .inr ⟨w.heap.size, zs.length, _, rfl, h, heap_alloc_new w _, Nat.le_refl _, hm, by simp, by simp [List.take_of_length_le]⟩⟩
theorem LimI.news {w : World} {ad : Addr} {xs : List Int} (h : LimI w (some ad) xs) : ∀ j u, (xs.map (Value.int .i64))[j]? = some u → w.cell? (ad.add j) = some u := by
 intro j u hj
 rcases h with rfl | ⟨b, off, e, hc⟩
 · simp at hj
 · cases e
   rw [List.getElem?_map] at hj
   have hjl : j < xs.length := by
    rcases Nat.lt_or_ge j xs.length with h | h
    · exact h
    · rw [List.getElem?_eq_none h] at hj; cases hj
   rw [show (⟨b, off, none⟩ : Addr).add j = ⟨b, off + j, none⟩ from (by unfold Addr.add; split <;> simp_all), hc j hjl, ← hj]
   simp [hjl]
theorem full_cons {x : Int} {l : List Int} (hl : 0 < l.length) (h : trimN l l.length = l.length) : trimN (x :: l) (x :: l).length = (x :: l).length := by
 obtain ⟨m, hm⟩ : ∃ m, l.length = m + 1 := ⟨l.length - 1, by omega⟩
 have h1 := trimN_last l l.length (by omega)
 rw [h, hm, Nat.add_sub_cancel] at h1
 rw [List.length_cons]
 unfold trimN
 rw [if_neg]
 rw [hm]
 simpa using h1
theorem valD_drop (xs : List Int) (j : Nat) (h : j < xs.length) : valD (xs.drop j) = xs.getD j 0 + 10000 * valD (xs.drop (j + 1)) := by
 rw [List.drop_eq_getElem_cons h]
 simp [valD, h]
theorem mulD_any {u v : Value} {xs ys : List Int} {a b : Option Addr} {capa capb : Nat} {w : World} (h1 : ArgD w u xs a capa) (h2 : ArgD w v ys b capb) (hx : xs.length ≤ 17179869184) (hy : ys.length ≤ 17179869184) :
 Calls Tryz.prog 77 #[u, v] w fun e w' => ∃ r, e = .returned r ∧ ∃ zs, ResD w.heap.size w' r zs (valD xs * valD ys) ∧ zs.length ≤ xs.length + 2 * ys.length + 3 ∧ Below w.heap.size w w' := by
 obtain ⟨i0, hi, hz0, hz1, hz2⟩ := info_parts infoInt
 obtain ⟨rfl, ly, _, wy, _⟩ := h2
 go_enter Tryz.func77, Tryz.ntmps77
 go_wp2
 go_loopw [5, 6, 7] (fun s i _ wr => ∃ (k : Nat) (q : Value) (ds : List Int), k ≤ ys.length ∧ q = s ∧ i = .int .i64 ((ys.length : Int) - 1 - k) ∧ ResD w.heap.size wr q ds (valD xs * valD (ys.drop (ys.length - k))) ∧ ds.length ≤ xs.length + 2 * k + 3 ∧ Below w.heap.size w wr) (fun _ i _ _ => (intOf i + 1).toNat)
 case atStart => exact ⟨0, _, [], Nat.zero_le _, rfl, by simp, ⟨World.ownsRow_nil _ _ _ _, WfD.nil, rfl, by simp [valD]⟩, by simp, Below.refl _ _⟩
 case round =>
  obtain ⟨k, q, ds, hk, rfl, rfl, hres, hlen, hb⟩ := hrel
  have hsz := hb.size
  by_cases hlt : k < ys.length
  · rcases ly with rfl | ⟨b, off, rfl, hc⟩
    · simp at hlt
    · obtain ⟨j, hj⟩ : ∃ j, j + k + 1 = ys.length := ⟨ys.length - k - 1, by omega⟩
      have hji : ((ys.length : Int) - 1 - k) = (j : Int) := by omega
      obtain ⟨x, hxk⟩ : ∃ x, ys.getD j 0 = x := ⟨_, rfl⟩
      obtain ⟨bx0, bx1⟩ : 0 ≤ x ∧ x < 10000 := hxk ▸ wy.getD j
      have hjl : j < ys.length := by omega
      have hcj := hc j hjl
      rw [hxk] at hcj
      have hge : (0 : Int) ≤ (j : Int) := by omega
      rw [hji]
      have hval : valD xs * valD (ys.drop (ys.length - (k + 1))) = 10000 * valD ds + valD xs * x := by
       rw [show ys.length - (k + 1) = j from by omega, valD_drop ys j hjl, hxk, hres.eq, show ys.length - k = j + 1 from by omega, Int.mul_add]
       have e : valD xs * (10000 * valD (List.drop (j + 1) ys)) = 10000 * (valD xs * valD (List.drop (j + 1) ys)) := by rw [← Int.mul_assoc, ← Int.mul_assoc, Int.mul_comm 10000]
       rw [e]
       omega
      have A1 := h1.later hb
      have HV := Lib.hid hval
      have HJ := Lib.hid hj
      clear hj hxk hc hji hval
      by_cases h0 : ds.length = 0
      · have hds : ds = [] := List.eq_nil_of_length_eq_zero h0
        subst hds
        have hq : ∃ ad cap, q = .slice ad 0 cap := by obtain ⟨ad, cap, h, _⟩ := hres.num.read; exact ⟨ad, cap, h⟩
        obtain ⟨adq, capq, rfl⟩ := hq
        have hc0 : wr.cell? ⟨b, off + j, none⟩ = some (.int .i64 x) := (hb.cell (p := ⟨b, off + j, none⟩) (World.block_lt_of_cell? w _ hcj)).trans hcj
        go_wp2_with fail
        refine (times_any x A1 (by omega) (by omega)).mono ?_
        rintro e w2 ⟨r2, rfl, z2, q2, n2, hb2⟩
        obtain ⟨ad2, cap2, A2⟩ := q2.arg
        have A0 : ArgD w2 (.slice none 0 0) [] none 0 := ⟨rfl, .inl rfl, Nat.le_refl _, WfD.nil, rfl⟩
        go_wp2_with fail
        refine (addD_any A0 A2 (by simp) (by omega)).mono ?_
        rintro e w3 ⟨r3, rfl, z3, q3, n3, hb3⟩
        have hB3 : Below w.heap.size w w3 := (hb.trans (hb2.mono hsz)).trans (hb3.mono (by have := hb2.size; omega))
        have hv3 : valD z3 = valD xs * valD (ys.drop (ys.length - (k + 1))) := by rw [q3.eq, q2.eq, HV.out]; simp [valD]
        have HV3 := Lib.hid hv3
        simp only [List.length_nil] at n3
        have hs2 := hb2.size
        clear hv3
        go_wp2
        go_roundw
        case rel => exact ⟨k + 1, r3, z3, by omega, rfl, by have := HJ.out; congr 1; omega, ⟨q3.num.mono (by omega), q3.wf, q3.full, HV3.out⟩, by omega, hB3⟩
        case measure => simp [intOf]
      · have hpos : 0 < ds.length := by omega
        have hres' := hres
        obtain ⟨⟨ad, cap, h1q, h2q, h3q, _, _⟩, wds, fds, eds⟩ := (⟨hres.num.read, hres.wf, hres.full, hres.eq⟩ : (_ ∧ _ ∧ _ ∧ _))
        subst h1q
        obtain ⟨p, o, rfl, hcd⟩ : ∃ p o, ad = some ⟨p, o, none⟩ ∧ True := by
         rcases h2q with e | ⟨p, o, e, _⟩
         · rw [e] at hpos; simp at hpos
         · exact ⟨p, o, e, trivial⟩
        have hlit := NumI.lit (base := w.heap.size) (w := wr) hsz [0] (by unfold maxLen; simp)
        have hrow : (wr.alloc (.cells #[.int .i64 0] 3)).ownsRow w.heap.size 3 1 (.slice (some ⟨wr.heap.size, 0, none⟩) 1 1) 1 [.int .i64 0] := hlit
        have hnews := (h2q.later ((Below.refl wr.heap.size wr).alloc (Nat.le_refl _) (.cells #[.int .i64 0] 3))).news
        have hal : Below w.heap.size w (wr.alloc (.cells #[.int .i64 0] 3)) := hb.alloc hsz _
        clear hlit hcd
        have hgt : (0 : Int) < (ds.length : Int) := by omega
        go_wp2_with (at_builtin; refine wpList_append_own _ rfl _ _ 56 rfl w.heap.size 3 i0 (.int .i64 0) 1 8 Tryz.underlying56 hi hz0 hz1 hz2 rfl (by decide) _ 1 [.int .i64 0] rfl hrow ⟨p, o, none⟩ ds.length cap (ds.map (Value.int .i64)) rfl (by simp) hnews (ints_oneCell _ _) (by unfold maxLen; omega) (by omega) (by simp; omega) ?_; intro v' w1 hown' hgrow _; have hb1 : Below w.heap.size w w1 := hal.grown hgrow (by simp; omega) (fun k hk => by cases hk; exact hsz); have hc0 : w1.cell? ⟨b, off + j, none⟩ = some (.int .i64 x) := (hb1.cell (p := ⟨b, off + j, none⟩) (World.block_lt_of_cell? w _ hcj)).trans hcj)
        have hup : NumI w.heap.size w1 v' (0 :: ds) := by
         unfold NumI
         rw [List.length_cons, List.map_cons, Nat.add_comm]
         exact hown'
        obtain ⟨adu, capu, hu1, hu2, hu3, _, _⟩ := hup.read
        have U1 : ArgD w1 v' (0 :: ds) adu capu := ⟨hu1, hu2, hu3, WfD.cons (by omega) wds, full_cons hpos fds⟩
        have A1' := h1.later hb1
        clear hown' hgrow hnews hrow hal h2q hup hu1 hu2 hu3
        have hs1 := hb1.size
        go_wp2_with fail
        refine (times_any x A1' (by omega) (by omega)).mono ?_
        rintro e w2 ⟨r2, rfl, z2, q2, n2, hb2⟩
        obtain ⟨ad2, cap2, A2⟩ := q2.arg
        have U2 := U1.later hb2
        go_wp2_with fail
        refine (addD_any U2 A2 (by simp only [List.length_cons]; omega) (by omega)).mono ?_
        rintro e w3 ⟨r3, rfl, z3, q3, n3, hb3⟩
        have hs2 := hb2.size
        have hB3 : Below w.heap.size w w3 := (hb1.trans (hb2.mono hs1)).trans (hb3.mono (by omega))
        have hv3 : valD z3 = valD xs * valD (ys.drop (ys.length - (k + 1))) := by rw [q3.eq, q2.eq, HV.out]; simp [valD]
        have HV3 := Lib.hid hv3
        simp only [List.length_cons] at n3
        clear hv3
        go_wp2
        go_roundw
        case rel => exact ⟨k + 1, r3, z3, by omega, rfl, by have := HJ.out; congr 1; omega, ⟨q3.num.mono (by omega), q3.wf, q3.full, HV3.out⟩, by omega, hB3⟩
        case measure => simp [intOf]
  · obtain rfl : k = ys.length := by omega
    have hji : ((ys.length : Int) - 1 - ys.length) = -1 := by omega
    rw [hji]
    clear hji
    have hv : valD ds = valD xs * valD ys := by have h := hres.eq; rwa [Nat.sub_self, List.drop_zero] at h
    go_wp2
    go_ret
    exact ⟨_, rfl, ds, ⟨hres.num, hres.wf, hres.full, hv⟩, hlen, hb⟩
end
section
open Go.RowKit
theorem Calls.quiet_eq {P : Program} {f : FuncId} {args : Array Value} {w : World} {n : Nat} {v : Value} (h : Calls P f args (w.drewN n) fun e w' => e = .returned v ∧ w.drewN n = w') :
 Calls P f args (w.drewN n) fun e w'' => e = .returned v ∧ ∃ m, w'' = w.drewN m := h.mono fun _ _ ⟨he, hm⟩ => ⟨he, n, hm.symm⟩
def subToD (xs ys : List Int) : Nat → List Int × Int
 | 0 => ([], 0)
 | k + 1 => ((subToD xs ys k).1 ++ [(xs.getD k 0 - ys.getD k 0 + (subToD xs ys k).2) % 10000], (xs.getD k 0 - ys.getD k 0 + (subToD xs ys k).2) / 10000)
theorem subToD_length (xs ys : List Int) (k : Nat) : (subToD xs ys k).1.length = k := by
 induction k with
 | zero => rfl
 | succ k ih => simp [subToD, ih]
theorem subToD_carry (xs ys : List Int) (hx : WfD xs) (hy : WfD ys) (k : Nat) : -1 ≤ (subToD xs ys k).2 ∧ (subToD xs ys k).2 ≤ 0 := by
 induction k with
 | zero => simp [subToD]
 | succ k ih => have h1 := hx.getD k; have h2 := hy.getD k; simp only [subToD]; omega
theorem subToD_wf (xs ys : List Int) (k : Nat) : WfD (subToD xs ys k).1 := by
 induction k with
 | zero => exact WfD.nil
 | succ k ih => exact ih.append (WfD.cons (by omega) WfD.nil)
theorem val_subToD (xs ys : List Int) (k : Nat) : valD (subToD xs ys k).1 + 10000 ^ k * (subToD xs ys k).2 = valD (xs.take k) - valD (ys.take k) := by
 induction k with
 | zero => simp [subToD, valD]
 | succ k ih =>
   rw [val_take_succD, val_take_succD]
   simp only [subToD]
   rw [valD_snoc, subToD_length]
   simp only [Int.pow_succ]
   have hm := mod_divD (xs.getD k 0 - ys.getD k 0 + (subToD xs ys k).2)
   generalize (subToD xs ys k).2 = c at *
   generalize ((xs.getD k 0 - ys.getD k 0 + c) % 10000) = r at *
   generalize ((xs.getD k 0 - ys.getD k 0 + c) / 10000) = q at *
   generalize (10000 : Int) ^ k = P at *
   grind
theorem val_subD {xs ys : List Int} (hx : WfD xs) (hy : WfD ys) (hl : ys.length ≤ xs.length) (h : valD ys ≤ valD xs) : valD (subToD xs ys xs.length).1 = valD xs - valD ys := by
 have h1 := val_subToD xs ys xs.length
 rw [List.take_length, List.take_of_length_le hl] at h1
 have h2 := subToD_carry xs ys hx hy xs.length
 have h3 := val_ltD (subToD_wf xs ys xs.length)
 rw [subToD_length] at h3
 rcases (show (subToD xs ys xs.length).2 = 0 ∨ (subToD xs ys xs.length).2 = -1 by omega) with e | e
 · rw [e] at h1; simpa using h1
 · rw [e] at h1; omega
theorem subD_any {u v : Value} {xs ys : List Int} {a b : Option Addr} {capa capb : Nat} {w : World} (h1 : ArgD w u xs a capa) (h2 : ArgD w v ys b capb) (hx : xs.length ≤ 68719476736) (hy : ys.length ≤ 68719476736) :
 Calls Tryz.prog 80 #[u, v] w fun e w' => ∃ r f, e = .returned (.tuple #[r, .bool f]) ∧ Below w.heap.size w w' ∧ (valD xs < valD ys → r = .slice none 0 0 ∧ f = false) ∧
  (valD ys ≤ valD xs → f = true ∧ ∃ zs, ResD w.heap.size w' r zs (valD xs - valD ys) ∧ zs.length ≤ xs.length) := by
 obtain ⟨i0, hi, hz0, hz1, hz2⟩ := info_parts infoInt
 have cmp := cmpD_any h1 h2 hx hy
 obtain ⟨rfl, lx, _, wx, fx⟩ := h1
 obtain ⟨rfl, ly, _, wy, fy⟩ := h2
 have hlen : valD ys ≤ valD xs → ys.length ≤ xs.length := fun h => by
  rcases Nat.lt_or_ge xs.length ys.length with h3 | h3
  · have := len_ltD wx wy fy h3; omega
  · exact h3
 have HL := Lib.hid hlen
 clear fx fy hlen
 go_enter Tryz.func80, Tryz.ntmps80
 go_wp2_with fail
 refine cmp.mono ?_
 rintro e V ⟨rfl, hV⟩
 clear cmp
 by_cases hlt : valD xs < valD ys
 · rw [sign_lt hlt]
   have hd : decide ((-1 : Int) < 0) = true := by decide
   go_wp2
   go_ret2
   exact ⟨_, _, rfl, hV, fun _ => ⟨rfl, rfl⟩, fun h => by omega⟩
 · have hd : decide (sign (valD xs) (valD ys) < 0) = false := decide_eq_false (by unfold sign; rw [if_neg hlt]; split <;> omega)
   have hL := HL.out (by omega)
   go_wp2
   go_loopw [6, 7, 8, 9] (fun s c i _ wr => ∃ (k : Nat) (q : Value), k ≤ xs.length ∧ q = s ∧ c = .int .i64 (-(subToD xs ys k).2) ∧ i = .int .i64 k ∧ NumI w.heap.size wr q (subToD xs ys k).1 ∧ Below w.heap.size w wr) (fun _ _ i _ _ => xs.length + 1 - (intOf i).toNat)
   case atStart => exact ⟨0, _, Nat.zero_le _, rfl, rfl, rfl, World.ownsRow_nil _ _ _ _, hV⟩
   case round =>
    obtain ⟨k, q, hk, rfl, rfl, rfl, hown, hb⟩ := hrel
    have hsz := hb.size
    obtain ⟨c, hck⟩ : ∃ c, (subToD xs ys k).2 = c := ⟨_, rfl⟩
    have bc := subToD_carry xs ys wx wy k
    rw [hck] at bc ⊢
    obtain ⟨bc0, bc1⟩ := bc
    have hrow : wr.ownsRow w.heap.size 3 1 q k ((subToD xs ys k).1.map (Value.int .i64)) := by
     have h := hown; unfold NumI at h; rw [subToD_length] at h; exact h
    have HO := Lib.hid hown
    have HC := Lib.hid hck
    have HK := Lib.hid hk
    clear hown hck
    by_cases hgo : k < xs.length
    · obtain ⟨x, hxk⟩ : ∃ x, xs.getD k 0 = x := ⟨_, rfl⟩
      obtain ⟨y, hyk⟩ : ∃ y, ys.getD k 0 = y := ⟨_, rfl⟩
      obtain ⟨bx0, bx1⟩ : 0 ≤ x ∧ x < 10000 := hxk ▸ wx.getD k
      obtain ⟨by0, by1⟩ : 0 ≤ y ∧ y < 10000 := hyk ▸ wy.getD k
      rcases lx with rfl | ⟨ba, offa, rfl, hca⟩
      · simp at hgo
      have cx := hca k hgo
      rw [hxk] at cx
      have cx0 := (hb.cell (p := ⟨ba, offa + k, none⟩) (World.block_lt_of_cell? w _ cx)).trans cx
      have ly' := ly.later hb
      have HX := Lib.hid hxk
      have HY := Lib.hid hyk
      clear hxk cx hca
      have done : ∀ (W : World) (D C : Int) (w1 : World) (v' : Value) (o : Obj), Below w.heap.size w W → wr.heap.size ≤ W.heap.size → D = (x - y + c) % 10000 → C = -((x - y + c) / 10000) → w1.ownsRow w.heap.size 3 1 v' (k + 1) ((subToD xs ys k).1.map (Value.int .i64) ++ [Value.int .i64 D]) → (W.alloc o).grownBy w1 q.ownBlock →
       ∃ (j : Nat) (p : Value), j ≤ xs.length ∧ p = v' ∧ Value.int .i64 C = .int .i64 (-(subToD xs ys j).2) ∧ Value.int .i64 ((k : Int) + 1) = .int .i64 j ∧ NumI w.heap.size w1 p (subToD xs ys j).1 ∧ Below w.heap.size w w1 := fun W D C w1 v' o hbW hsW eD eC ho hg => by
       subst eD
       subst eC
       have hown' : w1.ownsRow w.heap.size 3 1 v' ((subToD xs ys k).1.length + 1) ((subToD xs ys k).1.map (Value.int .i64) ++ [Value.int .i64 ((x - y + c) % 10000)]) := by rw [subToD_length]; exact ho
       refine ⟨k + 1, v', by omega, rfl, by simp only [subToD]; rw [HX.out, HY.out, HC.out], by go_num, ?_, ?_⟩
       · simp only [subToD]; rw [HX.out, HY.out, HC.out]
         unfold NumI
         rw [List.length_append, List.map_append]
         exact hown'
       · exact (hbW.alloc (by omega) o).grown hg (by simp; omega) (fun k hk => (HO.out.lt k hk).1)
      have DONE := Lib.hid done
      have hwr2 : ∀ nq, Below w.heap.size w (wr.drewN nq) := fun nq => ⟨hb.os, hb.tape, hb.output, hb.size, hb.block⟩
      have HWR2 := Lib.hid hwr2
      clear done hwr2
      obtain ⟨l, hl⟩ : ∃ l, -c = l := ⟨_, rfl⟩
      obtain rfl : c = -l := by omega
      rw [hl]
      clear hl
      by_cases hn : x - y - l < 0
      · have hdd : decide (x - y - l < 0) = true := decide_eq_true hn
        go_wp2
        go_quiet ((go_at_call 122; refine Calls.quiet_eq (digit_any b ys capb k y _ ?_ (by omega) HY.out); exact ly.later (HWR2.out _)))
        have hWR := HWR2.out nq
        have hsR : wr.heap.size ≤ (wr.drewN nq).heap.size := Nat.le_refl _
        have hrowR : (wr.drewN nq).ownsRow w.heap.size 3 1 q k ((subToD xs ys k).1.map (Value.int .i64)) := hrow
        generalize wr.drewN nq = WR at *
        go_wp2_with (at_builtin; refine wpList_append_own _ rfl _ _ 56 rfl w.heap.size 3 i0 (.int .i64 0) 1 8 Tryz.underlying56 hi hz0 hz1 hz2 rfl (by decide) _ _ _ rfl (hrowR.alloc _) ⟨WR.heap.size, 0, none⟩ 1 1 [.int .i64 (x - y - l + 10000)] rfl rfl (cell_one_new _ _ _) (by simp [Value.oneCell']) (by unfold maxLen; omega) (by omega) (by simp; omega) ?_; intro v' w1 hown' hgrow _)
        go_roundw
        case rel => exact DONE.out _ _ _ _ _ _ hWR hsR (by omega) (by omega) hown' hgrow
        case measure => simp [intOf]; omega
      · have hdd : decide (x - y - l < 0) = false := decide_eq_false hn
        go_wp2
        go_quiet ((go_at_call 122; refine Calls.quiet_eq (digit_any b ys capb k y _ ?_ (by omega) HY.out); exact ly.later (HWR2.out _)))
        have hWR := HWR2.out nq
        have hsR : wr.heap.size ≤ (wr.drewN nq).heap.size := Nat.le_refl _
        have hrowR : (wr.drewN nq).ownsRow w.heap.size 3 1 q k ((subToD xs ys k).1.map (Value.int .i64)) := hrow
        generalize wr.drewN nq = WR at *
        go_wp2_with (at_builtin; refine wpList_append_own _ rfl _ _ 56 rfl w.heap.size 3 i0 (.int .i64 0) 1 8 Tryz.underlying56 hi hz0 hz1 hz2 rfl (by decide) _ _ _ rfl (hrowR.alloc _) ⟨WR.heap.size, 0, none⟩ 1 1 [.int .i64 (x - y - l)] rfl rfl (cell_one_new _ _ _) (by simp [Value.oneCell']) (by unfold maxLen; omega) (by omega) (by simp; omega) ?_; intro v' w1 hown' hgrow _)
        go_roundw
        case rel => exact DONE.out _ _ _ _ _ _ hWR hsR (by omega) (by omega) hown' hgrow
        case measure => simp [intOf]; omega
    · obtain rfl : k = xs.length := by omega
      have hv := val_subD wx wy hL (by omega)
      have HV := Lib.hid hv
      clear hv
      go_wp2_with fail
      refine (trimD_num HO.out (by rw [subToD_length]; omega)).mono ?_
      rintro e w' ⟨r, rfl, hr, rfl⟩
      go_wp2_with fail
      go_ret2
      have hlen : (trim (subToD xs ys xs.length).1).length ≤ xs.length := by have h := Nat.le_trans (Nat.le_of_eq (trim_length _)) (trim_le (subToD xs ys xs.length).1); rw [subToD_length] at h; exact h
      exact ⟨_, _, rfl, hb, fun h => by omega, fun _ => ⟨rfl, trim (subToD xs ys xs.length).1, ⟨hr, (subToD_wf xs ys _).trim, trim_full _, by rw [val_trimD, HV.out]⟩, hlen⟩⟩
end
section
open Go.RowKit
theorem bitLen_is {t : Int} (h0 : 0 < t) (h1 : t < 18446744073709551616) : ∃ j : Nat, Lib.bitLen t.toNat = j + 1 ∧ 2 ^ j ≤ t ∧ t < 2 ^ (j + 1) := by
 obtain ⟨n, rfl⟩ := Int.eq_ofNat_of_zero_le (Int.le_of_lt h0)
 obtain ⟨a, b, c⟩ := Lib.bitLenAux_bounds 64 n (by omega) (by omega)
 rw [Int.toNat_natCast]
 unfold Lib.bitLen
 refine ⟨Lib.bitLenAux 64 n - 1, by omega, ?_, ?_⟩
 · exact_mod_cast b
 · rw [show Lib.bitLenAux 64 n - 1 + 1 = Lib.bitLenAux 64 n from by omega]; exact_mod_cast c
theorem pow_limb (m : Nat) : (4294967296 : Int) ^ m = 2 ^ (m * 32) := by rw [Nat.mul_comm, Int.pow_mul, show (2 : Int) ^ 32 = 4294967296 from rfl]
theorem bitsN_is {xs : List Int} (hx : Wf xs) : IsBits (val xs) (bitsN xs) := by
 unfold bitsN
 split
 · rename_i h
   refine .inl ⟨rfl, ?_⟩
   rw [← val_trim xs]
   unfold trim
   rw [h]
   rfl
 · rename_i h
   obtain ⟨m, hm⟩ : ∃ m, trimN xs xs.length = m + 1 := ⟨trimN xs xs.length - 1, by omega⟩
   have hne := trimN_last xs xs.length (by omega)
   have hv := val_take_ge xs (m + 1) (by omega)
   rw [hm, Nat.add_sub_cancel] at hne ⊢
   rw [val_take_succ] at hv
   have b1 := hx.getD m
   have b2 := val_nonneg (hx.take m)
   have b3 := val_lt (hx.take m)
   have b4 : (4294967296 : Int) ^ (xs.take m).length = 4294967296 ^ m := by rw [List.length_take, Nat.min_eq_left (by have := trim_le xs; omega)]
   rw [b4] at b3
   obtain ⟨j, hj, h1, h2⟩ := bitLen_is (show 0 < xs.getD m 0 by omega) (by omega)
   rw [hj]
   refine .inr ⟨m * 32 + j, rfl, ?_⟩
   rw [show m * 32 + j + 1 = m * 32 + (j + 1) from rfl, Int.pow_add, Int.pow_add, ← pow_limb]
   have hp := pow_pos' m
   generalize xs.getD m 0 = x at *
   generalize (4294967296 : Int) ^ m = P at *
   generalize val (xs.take m) = V at *
   have c1 : P * 2 ^ j ≤ P * x := Int.mul_le_mul_of_nonneg_left h1 (by omega)
   have c2 : P * (x + 1) ≤ P * 2 ^ (j + 1) := Int.mul_le_mul_of_nonneg_left (by omega) (by omega)
   rw [Int.mul_add, Int.mul_one] at c2
   omega
theorem two_limbs {xs : List Int} (hx : Wf xs) (h : bitsN xs ≤ 64) : 4294967296 * xs.getD 1 0 + xs.getD 0 0 = val xs := by
 have hb := (bitsN_is hx).lt (m := 64) h
 have ht : trimN xs xs.length ≤ 2 := by
  rcases Nat.lt_or_ge 2 (trimN xs xs.length) with e | e
  · exfalso
    have h1 := full_ge hx.trim (trim_full xs) (trimN xs xs.length - 1) (by rw [trim_length]; omega)
    rw [val_trim] at h1
    have h2 : (2 : Int) ^ 64 ≤ 4294967296 ^ (trimN xs xs.length - 1) := by rw [pow_limb]; exact two_mono (by omega)
    omega
  · exact e
 rw [← val_take_ge xs 2 ht, val_take_succ, val_take_succ]
 simp [val]
 omega
theorem bits_res {u : Value} {xs : List Int} {a : Option Addr} {capa : Nat} {w : World} {n : Nat} (h1 : Arg w u xs a capa) (hx : xs.length ≤ 35184372088832) (hn : IsBits (val xs) n) :
 Calls Tryz.prog 133 #[u] w fun e w' => e = .returned (.int .i64 n) ∧ w = w' := by
 rw [h1.is]
 refine (bits_any a xs capa w h1.lim hx h1.le h1.wf).mono fun e w' ⟨he, hw⟩ => ⟨?_, hw⟩
 rw [he, hn.unique (bitsN_is h1.wf)]
theorem uint_small {u : Value} {xs : List Int} {a : Option Addr} {capa : Nat} {w : World} (h1 : Arg w u xs a capa) (hx : xs.length ≤ 35184372088832) (hn : val xs < 18446744073709551616) :
 Calls Tryz.prog 160 #[u] w fun e w' => e = .returned (.tuple #[.int .u64 (val xs), .bool true]) ∧ w = w' := by
 rw [h1.is]
 have hb : bitsN xs ≤ 64 := (bitsN_is h1.wf).le (m := 64) hn
 refine (uint_any a xs capa w h1.lim hx h1.le h1.wf).mono fun e w' ⟨he, hw⟩ => ⟨?_, hw⟩
 rw [he, if_pos hb, two_limbs h1.wf hb]
theorem uint_big {u : Value} {xs : List Int} {a : Option Addr} {capa : Nat} {w : World} (h1 : Arg w u xs a capa) (hx : xs.length ≤ 35184372088832) (hn : 18446744073709551616 ≤ val xs) :
 Calls Tryz.prog 160 #[u] w fun e w' => e = .returned (.tuple #[.int .u64 0, .bool false]) ∧ w = w' := by
 rw [h1.is]
 have hb : ¬ bitsN xs ≤ 64 := fun h => by have := (bitsN_is h1.wf).lt (m := 64) h; omega
 refine (uint_any a xs capa w h1.lim hx h1.le h1.wf).mono fun e w' ⟨he, hw⟩ => ⟨?_, hw⟩
 rw [he, if_neg hb]
theorem ofN_any (n : Int) (w : World) (h0 : 0 ≤ n) (h1 : n < 18446744073709551616) :
 Calls Tryz.prog 134 #[.int .u64 n] w fun e w' => ∃ r zs, e = .returned r ∧ Res w.heap.size w' r zs n ∧ zs.length ≤ 2 ∧ Below w.heap.size w w' := by
 have hwf : Wf [n % 4294967296, n / 4294967296] := wf2 (by omega) (by omega)
 have hnum := Num.ofBlk (base := w.heap.size) (g := w.heap.size) (Blk.lit w [n % 4294967296, n / 4294967296]) (Nat.le_refl _) 2 (by simp) (by unfold maxLen; simp)
 go_enter Tryz.func134, Tryz.ntmps134
 go_wp2_with fail
 refine (cut_num hnum).mono ?_
 rintro e w' ⟨u, rfl, hu, rfl⟩
 go_wp2_with fail
 go_ret
 refine ⟨_, _, rfl, ⟨hu, hwf.trim, trim_full _, by rw [val_trim]; simp [val]; omega⟩, ?_, (Below.refl _ w).alloc (Nat.le_refl _) _⟩
 exact trim_len_le [n % 4294967296, n / 4294967296]
end
section
open Go.RowKit
def shrW (q : Nat) : List Int → List Int
 | [] => []
 | x :: L => ((4294967296 * L.getD 0 0 + x) / 2 ^ q) % 4294967296 :: shrW q L
theorem shrW_length (q : Nat) (L : List Int) : (shrW q L).length = L.length := by
 induction L with
 | nil => rfl
 | cons x L ih => simp [shrW, ih]
theorem shrW_wf (q : Nat) (L : List Int) : Wf (shrW q L) := by
 induction L with
 | nil => exact Wf.nil
 | cons x L ih => exact Wf.cons (by omega) ih
theorem shrW_at (q : Nat) (L : List Int) (i : Nat) (h : i < L.length) : (shrW q L).getD i 0 = ((4294967296 * L.getD (i + 1) 0 + L.getD i 0) / 2 ^ q) % 4294967296 := by
 induction L generalizing i with
 | nil => simp at h
 | cons x L ih =>
   cases i with
   | zero => simp [shrW]
   | succ i =>
     have := ih i (by simpa using h)
     simpa [shrW] using this
theorem val_head (L : List Int) : val L = L.getD 0 0 + 4294967296 * val L.tail := by
 cases L with
 | nil => simp [val]
 | cons x L => simp [val]
theorem val_shrW (q : Nat) (hq : q < 32) {L : List Int} (hw : Wf L) : val (shrW q L) = val L / 2 ^ q := by
 induction L with
 | nil => simp [shrW, val]
 | cons x L ih =>
   simp only [shrW, val]
   rw [ih hw.tail]
   have hx := hw.head
   have hy := hw.tail.getD 0
   have hP := two_pos q
   have hB : (4294967296 : Int) = 2 ^ q * 2 ^ (32 - q) := by rw [← Int.pow_add, show q + (32 - q) = 32 from by omega]; rfl
   have hv := val_head L
   generalize val L.tail = z at hv
   generalize L.getD 0 0 = y at *
   rw [hv]
   generalize hPd : (2 : Int) ^ q = P at *
   generalize hQd : (2 : Int) ^ (32 - q) = Q at *
   have e1 : (y + 4294967296 * z) / P = y / P + Q * z := by
    rw [show y + 4294967296 * z = y + P * (Q * z) from by rw [← Int.mul_assoc, ← hB], Int.add_mul_ediv_left _ _ (by omega)]
   have e2 : (x + 4294967296 * (y + 4294967296 * z)) / P = (4294967296 * y + x) / P + 4294967296 * (Q * z) := by
    rw [show x + 4294967296 * (y + 4294967296 * z) = 4294967296 * y + x + P * (4294967296 * (Q * z)) from by
     rw [show P * (4294967296 * (Q * z)) = 4294967296 * (P * Q * z) from by rw [Int.mul_assoc P Q z, Int.mul_left_comm], ← hB]; omega]
    rw [Int.add_mul_ediv_left _ _ (by omega)]
   have e3 : (4294967296 * y + x) / P / 4294967296 = y / P := by
    rw [Int.ediv_ediv_of_nonneg (by omega), Int.mul_comm P, ← Int.ediv_ediv_of_nonneg (by omega)]
    congr 1
    omega
   have e4 := Int.mul_ediv_add_emod ((4294967296 * y + x) / P) 4294967296
   rw [e3] at e4
   rw [e1, e2]
   generalize y / P = Y at *
   generalize (4294967296 * y + x) / P = D at *
   generalize Q * z = S at *
   omega
theorem shift_parts (n : Int) (h : n ≤ 9223372036854775807) : ∃ wh q : Nat, max n 0 / 32 = wh ∧ max n 0 % 32 = q ∧ n.toNat = wh * 32 + q ∧ q < 32 ∧ wh ≤ 288230376151711744 :=
 ⟨n.toNat / 32, n.toNat % 32, by omega, by omega, by omega, by omega, by omega⟩
theorem val_shr {xs : List Int} (wh q : Nat) (hw : Wf xs) : val xs / 2 ^ (wh * 32 + q) = val (xs.drop wh) / 2 ^ q := by
 rw [Int.pow_add, ← pow_limb, ← Int.ediv_ediv_of_nonneg (Int.le_of_lt (pow_pos' _))]
 congr 1
 rcases Nat.lt_or_ge wh xs.length with h | h
 · have e := val_append (xs.take wh) (xs.drop wh)
   rw [List.take_append_drop, List.length_take, Nat.min_eq_left (by omega)] at e
   have h1 := val_nonneg (hw.take wh)
   have h2 := val_lt (hw.take wh)
   rw [List.length_take, Nat.min_eq_left (by omega)] at h2
   rw [e, Int.add_mul_ediv_left _ _ (by have := pow_pos' wh; omega), Int.ediv_eq_zero_of_lt h1 h2, Int.zero_add]
 · rw [List.drop_of_length_le h]
   have h2 := val_lt hw
   have h4 : (4294967296 : Int) ^ xs.length ≤ 4294967296 ^ wh := by rw [pow_limb, pow_limb]; exact two_mono (by omega)
   rw [Int.ediv_eq_zero_of_lt (val_nonneg hw) (by omega)]
   rfl
theorem shr_any {u : Value} {xs : List Int} {a : Option Addr} {capa : Nat} {w : World} (n : Int) (h1 : Arg w u xs a capa) (hx : xs.length ≤ 35184372088832) (hn1 : -9223372036854775808 ≤ n) (hn2 : n ≤ 9223372036854775807) :
 Calls Tryz.prog 182 #[u, .int .i64 n] w fun e w' => ∃ r zs, e = .returned r ∧ Res w.heap.size w' r zs (val xs / 2 ^ n.toNat) ∧ zs.length ≤ xs.length ∧ Below w.heap.size w w' := by
 obtain ⟨rfl, hl, hcap, hwf⟩ := h1
 obtain ⟨wh, q, e1, e2, e3, hq, hwh⟩ := shift_parts n hn2
 have hta := trim_le xs
 have hval : val xs / 2 ^ n.toNat = val ((trim xs).drop wh) / 2 ^ q := by rw [e3, ← val_shr wh q hwf.trim, val_trim]
 have hwt := hwf.trim
 have htl := trim_length xs
 have hlt : Lim w a (trim xs) := hl.take _
 rw [hval]
 have sp := split_any n w hn1 hn2
 rw [e1, e2] at sp
 obtain ⟨t, ht⟩ : ∃ t, trimN xs xs.length = t := ⟨_, rfl⟩
 rw [ht] at hta htl
 generalize trim xs = ys at *
 have HT := Lib.hid htl
 have HTT := Lib.hid ht
 clear hval e1 e2 e3 htl ht hwf
 go_enter Tryz.func182, Tryz.ntmps182
 go_wp2_with fail
 refine sp.mono ?_
 rintro e w' ⟨rfl, rfl⟩
 clear sp
 go_wp2_with fail
 refine (cut_any a xs capa _ hl (by unfold maxLen; omega) hcap).mono ?_
 rintro e w' ⟨rfl, rfl⟩
 rw [HTT.out]
 by_cases hge : t ≤ wh
 · have hge2 : (t : Int) ≤ (wh : Int) := by omega
   go_wp2
   go_ret
   exact ⟨_, [], rfl, ⟨World.ownsRow_nil _ _ _ _, Wf.nil, rfl, by rw [List.drop_of_length_le (by rw [HT.out]; exact hge)]; simp [val]⟩, by simp, Below.refl _ _⟩
 · obtain ⟨m, hm⟩ : ∃ m, wh + m = t := ⟨t - wh, by omega⟩
   have hlt2 : ¬ (t : Int) ≤ (wh : Int) := by omega
   have hsub : (t : Int) - (wh : Int) = (m : Int) := by omega
   have hmk := make_runN m m (Nat.le_refl _) (by omega)
   obtain ⟨L, hL⟩ : ∃ L, shrW q (ys.drop wh) = L := ⟨_, rfl⟩
   have hLl : L.length = m := by rw [← hL, shrW_length, List.length_drop, HT.out]; omega
   have HL := Lib.hid hL
   have HLL := Lib.hid hLl
   have hcapt : t ≤ capa := by omega
   clear hL hLl
   go_wp2
   go_loopw [8, 27] (fun _ i wr => ∃ k : Nat, k ≤ m ∧ i = .int .i64 k ∧ Blk wr w.heap.size (L.take k ++ List.replicate (m - k) 0) ∧ Below w.heap.size w wr) (fun _ i _ => m - (intOf i).toNat)
   case atStart => exact ⟨0, Nat.zero_le _, rfl, by simpa using Blk.made w m, (Below.refl _ w).alloc (Nat.le_refl _) _⟩
   case round =>
    obtain ⟨k, hk, rfl, hblk, hb⟩ := hrel
    by_cases hkm : k < m
    · have hkm2 : (k : Int) < (m : Int) := by omega
      have hlz : (L.take k ++ List.replicate (m - k) 0).length = m := by rw [List.length_append, List.length_take, HLL.out, List.length_replicate]; omega
      have hcell := hblk.cell k (by omega)
      have hfree := hblk.free k
      have hset := hblk.set k (L.getD k 0)
      rw [set_mid _ _ _ _ (by rw [List.length_take, HLL.out]; omega) hkm] at hset
      have hpr := pair_any a ys capa ((wh : Int) + k) wr (hlt.later hb) (by rw [HT.out]; unfold maxLen; omega) (by omega) (by omega) hwt
      have ei : ((wh : Int) + k).toNat = wh + k := by omega
      rw [ei, HT.out] at hpr
      have hLk : L.getD k 0 = ((4294967296 * ys.getD (wh + k + 1) 0 + ys.getD (wh + k) 0) / 2 ^ q) % 4294967296 := by
       rw [← HL.out, shrW_at _ _ _ (by rw [List.length_drop, HT.out]; omega)]
       simp [List.getElem?_drop, Nat.add_assoc]
      obtain ⟨p0, p1⟩ : 0 ≤ 4294967296 * ys.getD (wh + k + 1) 0 + ys.getD (wh + k) 0 ∧ 4294967296 * ys.getD (wh + k + 1) 0 + ys.getD (wh + k) 0 < 18446744073709551616 := by have b1 := hwt.getD (wh + k + 1); have b0 := hwt.getD (wh + k); omega
      obtain ⟨d, hd⟩ : ∃ d, 4294967296 * ys.getD (wh + k + 1) 0 + ys.getD (wh + k) 0 = d := ⟨_, rfl⟩
      rw [hd] at hpr hLk p0 p1
      have hp := two_pos q
      have d0 : 0 ≤ d / 2 ^ q := Int.ediv_nonneg p0 (by omega)
      have d1 : d / 2 ^ q ≤ d := Int.ediv_le_self _ p0
      have HSET := Lib.hid hset
      have HLK := Lib.hid hLk
      clear hset hLk hlz hd ei hblk
      go_wp2_with fail
      refine hpr.mono ?_
      rintro e w' ⟨rfl, rfl⟩
      go_wp2
      go_roundw
      case rel =>
       refine ⟨k + 1, by omega, by go_num, ?_, hb.setCell (p := ⟨w.heap.size, k, none⟩) (Nat.le_refl _) _⟩
       have e : L.take (k + 1) = L.take k ++ [L.getD k 0] := by
        have hl := HLL.out
        rw [List.take_succ_eq_append_getElem (by omega)]
        simp [show k < L.length by omega]
       rw [e, ← HLK.out]
       exact HSET.out
      case measure => simp [intOf]; omega
    · obtain rfl : k = m := by omega
      have hl := HLL.out
      rw [Nat.sub_self, List.replicate_zero, List.append_nil, List.take_of_length_le (by omega)] at hblk
      have hnum := Num.ofBlk hblk (Nat.le_refl _) k (by omega) (by rw [hl]; unfold maxLen; omega)
      rw [hl, List.take_of_length_le (by omega)] at hnum
      have hv : val L = val (ys.drop wh) / 2 ^ q := by rw [← HL.out]; exact val_shrW q hq (hwt.drop wh)
      have wL : Wf L := by rw [← HL.out]; exact shrW_wf _ _
      have HV := Lib.hid hv
      clear hv hblk
      go_wp2_with fail
      refine (cut_num hnum).mono ?_
      rintro e w' ⟨z, rfl, hz, rfl⟩
      go_wp2_with fail
      go_ret
      exact ⟨_, _, rfl, ⟨hz, wL.trim, trim_full _, by rw [val_trim, HV.out]⟩, by have := trim_len_le L; have h2 := HLL.out; omega, hb⟩
end
section
open Go.RowKit
theorem trimQ_any (ad : Option Addr) (xs : List Int) (cap : Nat) (w : World) (hl : LimI w ad xs) (hm : xs.length ≤ 1099511627776) (hcap : xs.length ≤ cap) :
 Calls Tryz.prog 145 #[.slice ad xs.length cap] w fun e w' => e = .returned (.slice ad (trimN xs xs.length) cap) ∧ w = w' := by
 go_enter Tryz.func145, Tryz.ntmps145
 go_wp2
 go_loop [3] (fun n => ∃ j : Nat, j ≤ xs.length ∧ n = .int .i64 j ∧ trimN xs j = trimN xs xs.length) (fun n => (intOf n).toNat)
 case atStart => exact ⟨xs.length, Nat.le_refl _, rfl, rfl⟩
 case round =>
  obtain ⟨j, hj, rfl, ht⟩ := hrel
  have HT := Lib.hid ht
  clear ht
  rcases j with _ | m
  · have h0 : trimN xs xs.length = 0 := HT.out.symm
    go_wp2
    go_ret
    exact ⟨rfl, rfl⟩
  · rcases hl with rfl | ⟨b, off, rfl, hc⟩
    · simp at hj
    · have hck := hc m (by omega)
      clear hc
      go_wp2
      · have hz : xs.getD m 0 = 0 := by
         have h : (xs[m]?.getD 0 == 0) = true := by assumption
         simpa using h
        go_round
        case rel => exact ⟨m, by omega, by go_num, by rw [← HT.out]; simp only [trimN]; rw [if_pos hz]⟩
        case measure => simp [intOf]
      · have hz : xs.getD m 0 ≠ 0 := by
         have h : (xs[m]?.getD 0 == 0) = false := by assumption
         simpa using h
        have ht : trimN xs xs.length = m + 1 := by rw [← HT.out]; simp only [trimN]; rw [if_neg hz]
        go_ret
        exact ⟨by rw [ht]; simp, rfl⟩
theorem trimQ_num {base : Nat} {v : Value} {xs : List Int} {w : World} (h : NumI base w v xs) (hm : xs.length ≤ 1099511627776) :
 Calls Tryz.prog 145 #[v] w fun e w' => ∃ u, e = .returned u ∧ NumI base w u (trim xs) ∧ w = w' := by
 obtain ⟨ad, cap, rfl, hl, hc, _, _⟩ := h.read
 exact (trimQ_any ad xs cap w hl hm hc).mono fun e w' ⟨he, hw⟩ => ⟨_, he, h.cut, hw⟩
theorem sign_le {x y : Int} : sign x y ≤ 0 ↔ x ≤ y := by unfold sign; split <;> (try split) <;> omega
theorem digitQ_any {u v : Value} {rs ys : List Int} {a b : Option Addr} {capa capb : Nat} {w : World} (h1 : ArgD w u rs a capa) (h2 : ArgD w v ys b capb) (hx : rs.length ≤ 17179869184) (hy : ys.length ≤ 17179869184)
 (hlt : valD rs < valD ys * 10000) :
 Calls Tryz.prog 146 #[u, v] w fun e w' => ∃ d : Int, e = .returned (.int .i64 d) ∧ 0 ≤ d ∧ d < 10000 ∧ valD ys * d ≤ valD rs ∧ valD rs < valD ys * (d + 1) ∧ Below w.heap.size w w' := by
 have hr0 := val_nonnegD h1.wf
 go_enter Tryz.func146, Tryz.ntmps146
 go_wp2
 go_loopw [5, 6, 7] (fun lo hi _ wr => ∃ l h : Int, lo = .int .i64 l ∧ hi = .int .i64 h ∧ 0 ≤ l ∧ l < h ∧ h ≤ 10000 ∧ valD ys * l ≤ valD rs ∧ valD rs < valD ys * h ∧ Below w.heap.size w wr) (fun lo hi _ _ => (intOf hi - intOf lo).toNat)
 case atStart => exact ⟨0, 10000, rfl, rfl, by omega, by omega, by omega, by simpa using hr0, hlt, Below.refl _ _⟩
 case round =>
  obtain ⟨l, h, rfl, rfl, hl0, hlh, hh, hlo, hhi, hb⟩ := hrel
  have hsz := hb.size
  have HLO := Lib.hid hlo
  have HHI := Lib.hid hhi
  clear hlo hhi
  by_cases hgo : 1 < h - l
  · have hq : Int.tdiv (l + h) 2 = (l + h) / 2 := Int.tdiv_eq_ediv_of_nonneg (by omega)
    obtain ⟨m, hm⟩ : ∃ m, (l + h) / 2 = m := ⟨_, rfl⟩
    rw [hm] at hq
    have hm1 : l < m := by omega
    have hm2 : m < h := by omega
    clear hm
    have A1 := h1.later hb
    have A2 := h2.later hb
    go_wp2_with fail
    refine (times_any m A2 (by omega) (by omega)).mono ?_
    rintro e w2 ⟨r2, rfl, z2, q2, n2, hb2⟩
    obtain ⟨ad2, cap2, A3⟩ := q2.arg
    have A1' := A1.later hb2
    have hs2 := hb2.size
    go_wp2_with fail
    refine (cmpD_any A3 A1' (by omega) (by omega)).mono ?_
    rintro e w3 ⟨rfl, hb3⟩
    have hB3 : Below w.heap.size w w3 := (hb.trans (hb2.mono hsz)).trans (hb3.mono (by omega))
    have hv := q2.eq
    rw [hv]
    clear A1 A2 A3 A1' hb2 hb3 q2 hv
    by_cases hle : valD ys * m ≤ valD rs
    · have hd : decide (sign (valD ys * m) (valD rs) ≤ 0) = true := decide_eq_true (sign_le.2 hle)
      have HLE := Lib.hid hle
      clear hle
      go_wp2
      go_roundw
      case rel => exact ⟨m, h, rfl, rfl, by omega, hm2, hh, HLE.out, HHI.out, hB3⟩
      case measure => simp [intOf]; omega
    · have hd : decide (sign (valD ys * m) (valD rs) ≤ 0) = false := decide_eq_false (fun h => hle (sign_le.1 h))
      have HLE := Lib.hid (Int.not_le.1 hle)
      clear hle
      go_wp2
      go_roundw
      case rel => exact ⟨l, m, rfl, rfl, hl0, hm1, by omega, HLO.out, HLE.out, hB3⟩
      case measure => simp [intOf]; omega
  · obtain rfl : h = l + 1 := by omega
    go_wp2
    go_ret
    exact ⟨l, rfl, hl0, by omega, HLO.out, HHI.out, hb⟩
end
section
open Go.RowKit
theorem ArgD.lenLe {w w' : World} {u v : Value} {xs ys : List Int} {a b : Option Addr} {capa capb : Nat} (h1 : ArgD w u xs a capa) (h2 : ArgD w' v ys b capb) (h : valD xs ≤ valD ys) : xs.length ≤ ys.length := by
 rcases Nat.lt_or_ge ys.length xs.length with k | k
 · have := len_ltD h2.wf h1.wf h1.full k; omega
 · exact k
theorem NumI.only {base b : Nat} {w w' : World} {v : Value} {xs : List Int} (h : NumI base w v xs) (k : Only b w w') (hb : b < base) : NumI base w' v xs := by
 obtain ⟨h1, h2⟩ := h
 refine ⟨h1, ?_⟩
 rcases h2 with h2 | ⟨g, cap, cur, rfl, hg0, hg, hc, hm, hs, ht⟩
 · exact .inl h2
 · exact .inr ⟨g, cap, cur, rfl, hg0, (k.block g (by omega)).trans hg, hc, hm, hs, ht⟩
theorem ResD.only {base b : Nat} {w w' : World} {u : Value} {zs : List Int} {n : Int} (h : ResD base w u zs n) (k : Only b w w') (hb : b < base) : ResD base w' u zs n := ⟨h.num.only k hb, h.wf, h.full, h.eq⟩
theorem ResD.mono {base base' : Nat} {w : World} {u : Value} {zs : List Int} {n : Int} (h : ResD base w u zs n) (hb : base' ≤ base) : ResD base' w u zs n := ⟨h.num.mono hb, h.wf, h.full, h.eq⟩
theorem NumI.nilCap {base : Nat} {w : World} {n cap : Nat} {xs : List Int} (h : NumI base w (.slice none n cap) xs) : xs = [] ∧ n = 0 ∧ cap = 0 := by
 obtain ⟨_, h2⟩ := h
 rcases h2 with ⟨e, hn⟩ | ⟨g, cap', cur, e, _⟩
 · simp only [Value.slice.injEq] at e
   exact ⟨List.eq_nil_of_length_eq_zero hn, e.2.1, e.2.2⟩
 · simp at e
theorem divD_any {u v : Value} {xs ys : List Int} {a b : Option Addr} {capa capb : Nat} {w : World} (h1 : ArgD w u xs a capa) (h2 : ArgD w v ys b capb) (hx : xs.length ≤ 8589934592) (hy : ys.length ≤ 8589934592) (hpos : 0 < valD ys) :
 Calls Tryz.prog 111 #[u, v] w fun e w' => ∃ r s, e = .returned (.tuple #[r, s]) ∧ Below w.heap.size w w' ∧ (∃ zs, ResD w.heap.size w' r zs (valD xs / valD ys) ∧ zs.length ≤ xs.length) ∧
  (∃ zs, ResD w.heap.size w' s zs (valD xs % valD ys) ∧ zs.length ≤ ys.length) := by
 obtain ⟨rfl, lx, _, wx, _⟩ := h1
 obtain ⟨i0, hi, hz0, hz1, hz2⟩ := info_parts infoInt
 obtain ⟨n, hn⟩ : ∃ n, xs.length = n := ⟨_, rfl⟩
 have hmk := makeI_runN n n (Nat.le_refl _) (by omega)
 rw [hn]
 have HN := Lib.hid hn
 rw [hn] at hx
 clear hn
 go_enter Tryz.func111, Tryz.ntmps111
 go_wp2
 go_loopw [7, 8, 9, 10, 11] (fun s i _ _ _ wr => ∃ (k : Nat) (q : Value) (rs qs : List Int), k ≤ n ∧ q = s ∧ i = .int .i64 ((n : Int) - 1 - k) ∧ BlkI wr w.heap.size (List.replicate (n - k) 0 ++ qs) ∧ qs.length = k ∧ WfD qs ∧
  ResD (w.heap.size + 1) wr q rs (valD rs) ∧ valD (xs.drop (n - k)) = valD ys * valD qs + valD rs ∧ valD rs < valD ys ∧ Below w.heap.size w wr) (fun _ i _ _ _ _ => (intOf i + 1).toNat)
 case atStart =>
  have e : xs.drop (n - 0) = [] := by rw [Nat.sub_zero, ← HN.out, List.drop_length]
  refine ⟨0, _, [], [], Nat.zero_le _, rfl, by simp, ?_, rfl, WfD.nil, ⟨World.ownsRow_nil _ _ _ _, WfD.nil, rfl, rfl⟩, by rw [e]; simp [valD], by simpa [valD] using hpos, ((Below.refl _ w).alloc (Nat.le_refl _) _)⟩
  simpa using BlkI.made w n
 case round =>
  obtain ⟨k, q, rs, qs, hk, rfl, rfl, hblk, hql, hqw, hres, hval, hlt, hb⟩ := hrel
  have hsz := hb.size
  by_cases hgo : k < n
  · rcases lx with rfl | ⟨bx, off, rfl, hc⟩
    · have := HN.out; simp at this; omega
    obtain ⟨j, hj⟩ : ∃ j, j + k + 1 = n := ⟨n - k - 1, by omega⟩
    have hji : ((n : Int) - 1 - k) = (j : Int) := by omega
    obtain ⟨x, hxk⟩ : ∃ x, xs.getD j 0 = x := ⟨_, rfl⟩
    obtain ⟨bx0, bx1⟩ : 0 ≤ x ∧ x < 10000 := hxk ▸ wx.getD j
    have hjl : j < xs.length := by have := HN.out; omega
    have hcj := hc j hjl
    rw [hxk] at hcj
    have hc0 : wr.cell? ⟨bx, off + j, none⟩ = some (.int .i64 x) := (hb.cell (p := ⟨bx, off + j, none⟩) (World.block_lt_of_cell? w _ hcj)).trans hcj
    have hge : (0 : Int) ≤ (j : Int) := by omega
    have hjn : (j : Int) < (n : Int) := by omega
    have hstep : valD (xs.drop (n - (k + 1))) = x + 10000 * valD (xs.drop (n - k)) := by
     rw [show n - (k + 1) = j from by omega, valD_drop xs j hjl, hxk, show n - k = j + 1 from by omega]
    rw [show n - k = j + 1 from by omega] at hblk
    rw [hji]
    have hrl : rs.length ≤ ys.length := by
     obtain ⟨ad, cap, A⟩ := hres.arg
     exact A.lenLe h2 (by omega)
    have hgb : w.heap.size < wr.heap.size := hblk.lt
    have HST := Lib.hid hstep
    have HV := Lib.hid hval
    have HJ := Lib.hid hj
    have HL := Lib.hid hlt
    have HB := Lib.hid hblk
    have HQ := Lib.hid hql
    clear hstep hval hj hji hxk hc hlt hblk hql
    have hs1 : w.heap.size + 1 ≤ wr.heap.size := hgb
    have hlit := NumI.lit (base := w.heap.size + 1) (w := wr) hs1 [x] (by unfold maxLen; simp)
    have hrow : (wr.alloc (.cells #[.int .i64 x] 3)).ownsRow (w.heap.size + 1) 3 1 (.slice (some ⟨wr.heap.size, 0, none⟩) 1 1) 1 [.int .i64 x] := hlit
    have hal : Below w.heap.size w (wr.alloc (.cells #[.int .i64 x] 3)) := hb.alloc hsz _
    have hba := HB.out.alloc (.cells #[.int .i64 x] 3)
    obtain ⟨ad, cap, h1q, h2q, h3q, h4q, h5q⟩ := hres.num.read
    clear h5q
    have wrs := hres.wf
    have hnumq := hres.num
    subst h1q
    clear hres
    have HN2 := Lib.hid hnumq
    clear hnumq
    cases ad
    case' none =>
     obtain ⟨hrs, hr0, hcap⟩ := HN2.out.nilCap
     subst hcap
     rw [hr0]
     have HRS := Lib.hid hrs
     clear hrs hr0
     have hrun := run_append_owned_none (P := Tryz.prog) (wr.alloc (.cells #[.int .i64 x] 3)) (w.heap.size + 1) 56 56 3 i0 1 Tryz.underlying56 hi (.slice (some ⟨wr.heap.size, 0, none⟩) 1 1) 1 [.int .i64 x] hrow
     go_wp2_with fail
     have hup : NumI (w.heap.size + 1) (wr.alloc (.cells #[.int .i64 x] 3)) (.slice (some ⟨wr.heap.size, 0, none⟩) 1 1) (x :: rs) := by rw [HRS.out]; exact hlit
     have hB1 := hal
     have hb1 := hba
     clear hrun hlit hrow hal hba h2q hc0
     generalize wr.alloc (.cells #[.int .i64 x] 3) = w1 at *
     generalize Value.slice (some ⟨wr.heap.size, 0, none⟩) 1 1 = v' at *
    case' some ad =>
     have hnews := (h2q.later ((Below.refl wr.heap.size wr).alloc (Nat.le_refl _) (.cells #[.int .i64 x] 3))).news
     go_wp2_with (at_builtin; refine wpList_append_own _ rfl _ _ 56 rfl (w.heap.size + 1) 3 i0 (.int .i64 0) 1 8 Tryz.underlying56 hi hz0 hz1 hz2 rfl (by decide) _ 1 [.int .i64 x] rfl hrow ad rs.length cap (rs.map (Value.int .i64)) rfl (by simp) hnews (ints_oneCell _ _) (by unfold maxLen; omega) (by omega) (by simp; omega) ?_; intro v' w1 hown' hgrow _)
     have hB1 : Below w.heap.size w w1 := hal.grown hgrow (by simp; omega) (fun k hk => by cases hk; exact hsz)
     have hb1 := hba.grown hgrow (fun e => by have h : w.heap.size = wr.heap.size := Option.some.inj e; omega)
     have hup : NumI (w.heap.size + 1) w1 v' (x :: rs) := by
      unfold NumI
      rw [List.length_cons, List.map_cons, Nat.add_comm rs.length 1]
      exact hown'
     clear hown' hgrow hnews hlit hrow hal hba h2q hc0
    all_goals
     have hs2 := hb1.lt
     have hR1 : ResD (w.heap.size + 1) w1 v' (x :: rs) 0 → True := fun _ => trivial
     clear hR1
     go_wp2_with fail
     refine (trimQ_num hup (by simp only [List.length_cons]; omega)).mono ?_
     rintro e w' ⟨q1, rfl, hq1, rfl⟩
     have R1 : ResD (w.heap.size + 1) w1 q1 (trim (x :: rs)) (x + 10000 * valD rs) := ⟨hq1, (WfD.cons ⟨bx0, bx1⟩ wrs).trim, trim_full _, by rw [val_trimD]; rfl⟩
     have hl1 : (trim (x :: rs)).length ≤ rs.length + 1 := Nat.le_trans (Nat.le_of_eq (trim_length _)) (trim_le (x :: rs))
     generalize trim (x :: rs) = rs1 at *
     clear hup hq1
     obtain ⟨ad1, cap1, A1⟩ := R1.arg
     have A2 := h2.later hB1
     have hV := HL.out
     go_wp2_with fail
     refine (digitQ_any A1 A2 (by omega) (by omega) (by rw [R1.eq]; omega)).mono ?_
     rintro e w2 ⟨d, rfl, d0, d1, dlo, dhi, hb2⟩
     rw [R1.eq] at dlo dhi
     have hB2 := hB1.trans (hb2.mono (by omega))
     have R2 := R1.later hb2
     have hblk2 := hb1.below hb2 (by omega)
     have hlz : (List.replicate (j + 1) 0 ++ qs).length = n := by rw [List.length_append, List.length_replicate, HQ.out]; have := HJ.out; omega
     have hcell := hblk2.cell j (by omega)
     have hfree := hblk2.free j
     have hset := hblk2.set j d
     rw [set_front] at hset
     have hO : Only w.heap.size w2 (w2.setCell ⟨w.heap.size, j, none⟩ (.int .i64 d)) := Only.set _ _ _ _
     have R3 := R2.only hO (Nat.lt_succ_self _)
     have hB3 : Below w.heap.size w (w2.setCell ⟨w.heap.size, j, none⟩ (.int .i64 d)) := hB2.setCell (p := ⟨w.heap.size, j, none⟩) (Nat.le_refl _) _
     have hs3 : w.heap.size + 1 ≤ w2.heap.size := hblk2.lt
     have hs3' : w2.heap.size = (w2.setCell ⟨w.heap.size, j, none⟩ (.int .i64 d)).heap.size := hO.size.symm
     have DLO := Lib.hid dlo
     have DHI := Lib.hid dhi
     clear A1 A2 hB1 hb1 hb2 hB2 R1 R2 hblk2 dlo dhi hO hs2 hlz
     go_wp2_with fail
     generalize w2.setCell ⟨w.heap.size, j, none⟩ (.int .i64 d) = w3 at *
     clear hcell hfree
     have A3 := h2.later hB3
     refine (times_any d A3 (by omega) (by omega)).mono ?_
     rintro e w4 ⟨r4, rfl, z4, q4, n4, hb4⟩
     have hB4 := hB3.trans (hb4.mono (by omega))
     have R4 := R3.later hb4
     have hset4 := hset.below hb4 (by omega)
     have hs4 := hb4.size
     obtain ⟨ad4, cap4, A4⟩ := R4.arg
     obtain ⟨ad5, cap5, A5⟩ := q4.arg
     clear hB3 hb4 R3 A3 hset
     go_wp2_with fail
     refine (subD_any A4 A5 (by omega) (by omega)).mono ?_
     rintro e w5 ⟨r5, f5, rfl, hb5, _, hsub⟩
     obtain ⟨rfl, z5, q5, n5⟩ := hsub (by rw [R4.eq, q4.eq]; exact DLO.out)
     have hB5 := hB4.trans (hb5.mono (by omega))
     have hset5 := hset4.below hb5 (by omega)
     have hs5 := hb5.size
     have hv5 : valD z5 = x + 10000 * valD rs - valD ys * d := by rw [q5.eq, R4.eq, q4.eq]
     have fin : ∃ (k' : Nat) (q' : Value) (rs' qs' : List Int), k' ≤ n ∧ q' = r5 ∧ Value.int .i64 ((j : Int) - 1) = .int .i64 ((n : Int) - 1 - k') ∧ BlkI w5 w.heap.size (List.replicate (n - k') 0 ++ qs') ∧ qs'.length = k' ∧ WfD qs' ∧
      ResD (w.heap.size + 1) w5 q' rs' (valD rs') ∧ valD (xs.drop (n - k')) = valD ys * valD qs' + valD rs' ∧ valD rs' < valD ys ∧ Below w.heap.size w w5 := by
      have hj := HJ.out
      refine ⟨k + 1, r5, z5, d :: qs, by omega, rfl, by congr 1; omega, ?_, by rw [List.length_cons, HQ.out], WfD.cons ⟨d0, d1⟩ hqw, ⟨q5.num.mono (by omega), q5.wf, q5.full, rfl⟩, ?_, ?_, hB5⟩
      · rw [show n - (k + 1) = j from by omega]; exact hset5
      · rw [HST.out, HV.out, hv5]
        have e : valD (d :: qs) = d + 10000 * valD qs := rfl
        have e2 : valD ys * (d + 10000 * valD qs) = valD ys * d + 10000 * (valD ys * valD qs) := by rw [Int.mul_add, Int.mul_left_comm]
        rw [e, e2]
        omega
      · rw [hv5]
        have h := DHI.out
        rw [Int.mul_add, Int.mul_one] at h
        omega
     have FIN := Lib.hid fin
     clear fin hset5 hset4 hB5 hB4 hb5 A4 A5 R4 q4 q5 hv5
     go_wp2
     go_roundw
     case rel => exact FIN.out
     case measure => simp [intOf]
  · obtain rfl : k = n := by omega
    have hji : ((k : Int) - 1 - k) = -1 := by omega
    rw [hji]
    clear hji
    rw [Nat.sub_self] at hblk hval
    rw [List.drop_zero] at hval
    rw [List.replicate_zero, List.nil_append] at hblk
    have hnum := NumI.ofBlk hblk (Nat.le_refl _) k (by omega) (by rw [hql]; unfold maxLen; omega)
    rw [hql, List.take_of_length_le (by omega)] at hnum
    have hr0 := val_nonnegD hres.wf
    obtain ⟨e1, e2⟩ := quo_eq (V := valD qs) (d := valD ys) (r := valD rs) (N := valD xs) hpos (by rw [hval, Int.mul_comm]) ⟨hr0, hlt⟩
    have hrl : rs.length ≤ ys.length := by
     obtain ⟨ad, cap, A⟩ := hres.arg
     exact A.lenLe h2 (by omega)
    have hlen : (trim qs).length ≤ k := by have h := Nat.le_trans (Nat.le_of_eq (trim_length _)) (trim_le qs); omega
    have E1 := Lib.hid e1
    have E2 := Lib.hid e2
    clear hblk e1 e2 hval hlt
    go_wp2_with fail
    refine (trimQ_num hnum (by omega)).mono ?_
    rintro e w' ⟨p, rfl, hp, rfl⟩
    go_wp2_with fail
    go_ret2
    exact ⟨p, q, rfl, hb, ⟨trim qs, ⟨hp, hqw.trim, trim_full _, by rw [val_trimD, E1.out]⟩, hlen⟩, ⟨rs, ⟨hres.num.mono (Nat.le_succ _), hres.wf, hres.full, E2.out⟩, hrl⟩⟩
end
end Go.Proofs.YtengpgodmbfmkaaGreat
