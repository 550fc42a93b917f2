/-
  Part 3 of 5: contracts and what they rest on (QRefB, QRefC, RRefA, RRefF, RTwo, RVar, SMem, TRat, TMay, DSame, TCode8, TReg, PRat, PTwo, PTwoB, PKit, FLaw, FMats, FTot0).
-/
import Derived.Test.YtengpgodmbfmkaaGreatTb1
import Derived.Test.YtengpgodmbfmkaaGreatTb2
import Derived.Laws.IdiomArrays
namespace Go.Proofs.YtengpgodmbfmkaaGreat
set_option linter.unusedVariables false
set_option linter.unusedSimpArgs false
set_option maxRecDepth 100000
set_option maxHeartbeats 40000000
section
open Go.RowKit
theorem NumI.only {base b : Nat} {w w' : World} {v : Value} {xs : List Int} (h : NumI base w v xs) (k : Only b w w') (hb : b < base) : NumI base w' v xs := by
 obtain ⟨h1, h2⟩ := h
 refine ⟨h1, ?_⟩
 rcases h2 with h2 | ⟨g, cap, cur, rfl, hg0, hg, hc, hm, hs, ht⟩
 · exact .inl h2
 · exact .inr ⟨g, cap, cur, rfl, hg0, (k.block g (by omega)).trans hg, hc, hm, hs, ht⟩
theorem ResD.only {base b : Nat} {w w' : World} {u : Value} {zs : List Int} {n : Int} (h : ResD base w u zs n) (k : Only b w w') (hb : b < base) : ResD base w' u zs n := ⟨h.num.only k hb, h.wf, h.full, h.eq⟩
theorem NumI.nilCap {base : Nat} {w : World} {n cap : Nat} {xs : List Int} (h : NumI base w (.slice none n cap) xs) : xs = [] ∧ n = 0 ∧ cap = 0 := by
 obtain ⟨_, h2⟩ := h
 rcases h2 with ⟨e, hn⟩ | ⟨g, cap', cur, e, _⟩
 · simp only [Value.slice.injEq] at e
   exact ⟨List.eq_nil_of_length_eq_zero hn, e.2.1, e.2.2⟩
 · simp at e
theorem divD_any {u v : Value} {xs ys : List Int} {a b : Option Addr} {capa capb : Nat} {w : World} (h1 : ArgD w u xs a capa) (h2 : ArgD w v ys b capb) (hx : xs.length ≤ 8589934592) (hy : ys.length ≤ 8589934592) (hpos : 0 < valD ys) :
 Calls Tryz.prog 111 #[u, v] w fun e w' => ∃ r s, e = .returned (.tuple #[r, s]) ∧ Below w.heap.size w w' ∧ (∃ zs, ResD w.heap.size w' r zs (valD xs / valD ys) ∧ zs.length ≤ xs.length) ∧
  (∃ zs, ResD w.heap.size w' s zs (valD xs % valD ys) ∧ zs.length ≤ ys.length) := by
 obtain ⟨rfl, lx, _, wx, _⟩ := h1
 obtain ⟨i0, hi, hz0, hz1, hz2⟩ := info_parts infoInt
 obtain ⟨n, hn⟩ : ∃ n, xs.length = n := ⟨_, rfl⟩
 have hmk := makeI_runN n n (Nat.le_refl _) (by omega)
 rw [hn]
 have HN := Lib.hid hn
 rw [hn] at hx
 clear hn
 go_enter Tryz.func111, Tryz.ntmps111
 go_wp2
 go_loopw [7, 8, 9, 10, 11] (fun s i _ _ _ wr => ∃ (k : Nat) (q : Value) (rs qs : List Int), k ≤ n ∧ q = s ∧ i = .int .i64 ((n : Int) - 1 - k) ∧ BlkI wr w.heap.size (List.replicate (n - k) 0 ++ qs) ∧ qs.length = k ∧ WfD qs ∧
  ResD (w.heap.size + 1) wr q rs (valD rs) ∧ valD (xs.drop (n - k)) = valD ys * valD qs + valD rs ∧ valD rs < valD ys ∧ Below w.heap.size w wr) (fun _ i _ _ _ _ => (intOf i + 1).toNat)
 case atStart =>
  have e : xs.drop (n - 0) = [] := by rw [Nat.sub_zero, ← HN.out, List.drop_length]
  refine ⟨0, _, [], [], Nat.zero_le _, rfl, by simp, ?_, rfl, WfD.nil, ⟨World.ownsRow_nil _ _ _ _, WfD.nil, rfl, rfl⟩, by rw [e]; simp [valD], by simpa [valD] using hpos, ((Below.refl _ w).alloc (Nat.le_refl _) _)⟩
  simpa using BlkI.made w n
 case round =>
  obtain ⟨k, q, rs, qs, hk, rfl, rfl, hblk, hql, hqw, hres, hval, hlt, hb⟩ := hrel
  have hsz := hb.size
  by_cases hgo : k < n
  · rcases lx with rfl | ⟨bx, off, rfl, hc⟩
    · have := HN.out; simp at this; omega
    obtain ⟨j, hj⟩ : ∃ j, j + k + 1 = n := ⟨n - k - 1, by omega⟩
    have hji : ((n : Int) - 1 - k) = (j : Int) := by omega
    obtain ⟨x, hxk⟩ : ∃ x, xs.getD j 0 = x := ⟨_, rfl⟩
    obtain ⟨bx0, bx1⟩ : 0 ≤ x ∧ x < 10000 := hxk ▸ wx.getD j
    have hjl : j < xs.length := by have := HN.out; omega
    have hcj := hc j hjl
    rw [hxk] at hcj
    have hc0 : wr.cell? ⟨bx, off + j, none⟩ = some (.int .i64 x) := (hb.cell (p := ⟨bx, off + j, none⟩) (World.block_lt_of_cell? w _ hcj)).trans hcj
    have hge : (0 : Int) ≤ (j : Int) := by omega
    have hjn : (j : Int) < (n : Int) := by omega
    have hstep : valD (xs.drop (n - (k + 1))) = x + 10000 * valD (xs.drop (n - k)) := by
     rw [show n - (k + 1) = j from by omega, valD_drop xs j hjl, hxk, show n - k = j + 1 from by omega]
    rw [show n - k = j + 1 from by omega] at hblk
    rw [hji]
    have hrl : rs.length ≤ ys.length := by
     obtain ⟨ad, cap, A⟩ := hres.arg
     exact A.lenLe h2 (by omega)
    have hgb : w.heap.size < wr.heap.size := hblk.lt
    have HST := Lib.hid hstep
    have HV := Lib.hid hval
    have HJ := Lib.hid hj
    have HL := Lib.hid hlt
    have HB := Lib.hid hblk
    have HQ := Lib.hid hql
    clear hstep hval hj hji hxk hc hlt hblk hql
    have hs1 : w.heap.size + 1 ≤ wr.heap.size := hgb
    have hlit := NumI.lit (base := w.heap.size + 1) (w := wr) hs1 [x] (by unfold maxLen; simp)
    have hrow : (wr.alloc (.cells #[.int .i64 x] 3)).ownsRow (w.heap.size + 1) 3 1 (.slice (some ⟨wr.heap.size, 0, none⟩) 1 1) 1 [.int .i64 x] := hlit
    have hal : Below w.heap.size w (wr.alloc (.cells #[.int .i64 x] 3)) := hb.alloc hsz _
    have hba := HB.out.alloc (.cells #[.int .i64 x] 3)
    obtain ⟨ad, cap, h1q, h2q, h3q, h4q, h5q⟩ := hres.num.read
    clear h5q
    have wrs := hres.wf
    have hnumq := hres.num
    subst h1q
    clear hres
    have HN2 := Lib.hid hnumq
    clear hnumq
    cases ad
    case' none =>
     obtain ⟨hrs, hr0, hcap⟩ := HN2.out.nilCap
     subst hcap
     rw [hr0]
     have HRS := Lib.hid hrs
     clear hrs hr0
     have hrun := run_append_owned_none (P := Tryz.prog) (wr.alloc (.cells #[.int .i64 x] 3)) (w.heap.size + 1) 56 56 3 i0 1 Tryz.underlying56 hi (.slice (some ⟨wr.heap.size, 0, none⟩) 1 1) 1 [.int .i64 x] hrow
     go_wp2_with fail
     have hup : NumI (w.heap.size + 1) (wr.alloc (.cells #[.int .i64 x] 3)) (.slice (some ⟨wr.heap.size, 0, none⟩) 1 1) (x :: rs) := by rw [HRS.out]; exact hlit
     have hB1 := hal
     have hb1 := hba
     clear hrun hlit hrow hal hba h2q hc0
     generalize wr.alloc (.cells #[.int .i64 x] 3) = w1 at *
     generalize Value.slice (some ⟨wr.heap.size, 0, none⟩) 1 1 = v' at *
    case' some ad =>
     have hnews := (h2q.later ((Below.refl wr.heap.size wr).alloc (Nat.le_refl _) (.cells #[.int .i64 x] 3))).news
     go_wp2_with (at_builtin; refine wpList_append_own _ rfl _ _ 56 rfl (w.heap.size + 1) 3 i0 (.int .i64 0) 1 8 Tryz.underlying56 hi hz0 hz1 hz2 rfl (by decide) _ 1 [.int .i64 x] rfl hrow ad rs.length cap (rs.map (Value.int .i64)) rfl (by simp) hnews (ints_oneCell _ _) (by unfold maxLen; omega) (by omega) (by simp; omega) ?_; intro v' w1 hown' hgrow _)
     have hB1 : Below w.heap.size w w1 := hal.grown hgrow (by simp; omega) (fun k hk => by cases hk; exact hsz)
     have hb1 := hba.grown hgrow (fun e => by have h : w.heap.size = wr.heap.size := Option.some.inj e; omega)
     have hup : NumI (w.heap.size + 1) w1 v' (x :: rs) := by
      unfold NumI
      rw [List.length_cons, List.map_cons, Nat.add_comm rs.length 1]
      exact hown'
     clear hown' hgrow hnews hlit hrow hal hba h2q hc0
    all_goals
     have hs2 := hb1.lt
     have hR1 : ResD (w.heap.size + 1) w1 v' (x :: rs) 0 → True := fun _ => trivial
     clear hR1
     go_wp2_with fail
     refine (trimQ_num hup (by simp only [List.length_cons]; omega)).mono ?_
     rintro e w' ⟨q1, rfl, hq1, rfl⟩
     have R1 : ResD (w.heap.size + 1) w1 q1 (trim (x :: rs)) (x + 10000 * valD rs) := ⟨hq1, (WfD.cons ⟨bx0, bx1⟩ wrs).trim, trim_full _, by rw [val_trimD]; rfl⟩
     have hl1 : (trim (x :: rs)).length ≤ rs.length + 1 := Nat.le_trans (Nat.le_of_eq (trim_length _)) (trim_le (x :: rs))
     generalize trim (x :: rs) = rs1 at *
     clear hup hq1
     obtain ⟨ad1, cap1, A1⟩ := R1.arg
     have A2 := h2.later hB1
     have hV := HL.out
     go_wp2_with fail
     refine (digitQ_any A1 A2 (by omega) (by omega) (by rw [R1.eq]; omega)).mono ?_
     rintro e w2 ⟨d, rfl, d0, d1, dlo, dhi, hb2⟩
     rw [R1.eq] at dlo dhi
     have hB2 := hB1.trans (hb2.mono (by omega))
     have R2 := R1.later hb2
     have hblk2 := hb1.below hb2 (by omega)
     have hlz : (List.replicate (j + 1) 0 ++ qs).length = n := by rw [List.length_append, List.length_replicate, HQ.out]; have := HJ.out; omega
     have hcell := hblk2.cell j (by omega)
     have hfree := hblk2.free j
     have hset := hblk2.set j d
     rw [set_front] at hset
     have hO : Only w.heap.size w2 (w2.setCell ⟨w.heap.size, j, none⟩ (.int .i64 d)) := Only.set _ _ _ _
     have R3 := R2.only hO (Nat.lt_succ_self _)
     have hB3 : Below w.heap.size w (w2.setCell ⟨w.heap.size, j, none⟩ (.int .i64 d)) := hB2.setCell (p := ⟨w.heap.size, j, none⟩) (Nat.le_refl _) _
     have hs3 : w.heap.size + 1 ≤ w2.heap.size := hblk2.lt
     have hs3' : w2.heap.size = (w2.setCell ⟨w.heap.size, j, none⟩ (.int .i64 d)).heap.size := hO.size.symm
     have DLO := Lib.hid dlo
     have DHI := Lib.hid dhi
     clear A1 A2 hB1 hb1 hb2 hB2 R1 R2 hblk2 dlo dhi hO hs2 hlz
     go_wp2_with fail
     generalize w2.setCell ⟨w.heap.size, j, none⟩ (.int .i64 d) = w3 at *
     clear hcell hfree
     have A3 := h2.later hB3
     refine (times_any d A3 (by omega) (by omega)).mono ?_
     rintro e w4 ⟨r4, rfl, z4, q4, n4, hb4⟩
     have hB4 := hB3.trans (hb4.mono (by omega))
     have R4 := R3.later hb4
     have hset4 := hset.below hb4 (by omega)
     have hs4 := hb4.size
     obtain ⟨ad4, cap4, A4⟩ := R4.arg
     obtain ⟨ad5, cap5, A5⟩ := q4.arg
     clear hB3 hb4 R3 A3 hset
     go_wp2_with fail
     refine (subD_any A4 A5 (by omega) (by omega)).mono ?_
     rintro e w5 ⟨r5, f5, rfl, hb5, _, hsub⟩
     obtain ⟨rfl, z5, q5, n5⟩ := hsub (by rw [R4.eq, q4.eq]; exact DLO.out)
     have hB5 := hB4.trans (hb5.mono (by omega))
     have hset5 := hset4.below hb5 (by omega)
     have hs5 := hb5.size
     have hv5 : valD z5 = x + 10000 * valD rs - valD ys * d := by rw [q5.eq, R4.eq, q4.eq]
     have fin : ∃ (k' : Nat) (q' : Value) (rs' qs' : List Int), k' ≤ n ∧ q' = r5 ∧ Value.int .i64 ((j : Int) - 1) = .int .i64 ((n : Int) - 1 - k') ∧ BlkI w5 w.heap.size (List.replicate (n - k') 0 ++ qs') ∧ qs'.length = k' ∧ WfD qs' ∧
      ResD (w.heap.size + 1) w5 q' rs' (valD rs') ∧ valD (xs.drop (n - k')) = valD ys * valD qs' + valD rs' ∧ valD rs' < valD ys ∧ Below w.heap.size w w5 := by
      have hj := HJ.out
      refine ⟨k + 1, r5, z5, d :: qs, by omega, rfl, by congr 1; omega, ?_, by rw [List.length_cons, HQ.out], WfD.cons ⟨d0, d1⟩ hqw, ⟨q5.num.mono (by omega), q5.wf, q5.full, rfl⟩, ?_, ?_, hB5⟩
      · rw [show n - (k + 1) = j from by omega]; exact hset5
      · rw [HST.out, HV.out, hv5]
        have e : valD (d :: qs) = d + 10000 * valD qs := rfl
        have e2 : valD ys * (d + 10000 * valD qs) = valD ys * d + 10000 * (valD ys * valD qs) := by rw [Int.mul_add, Int.mul_left_comm]
        rw [e, e2]
        omega
      · rw [hv5]
        have h := DHI.out
        rw [Int.mul_add, Int.mul_one] at h
        omega
     have FIN := Lib.hid fin
     clear fin hset5 hset4 hB5 hB4 hb5 A4 A5 R4 q4 q5 hv5
     go_wp2
     go_roundw
     case rel => exact FIN.out
     case measure => simp [intOf]
  · obtain rfl : k = n := by omega
    have hji : ((k : Int) - 1 - k) = -1 := by omega
    rw [hji]
    clear hji
    rw [Nat.sub_self] at hblk hval
    rw [List.drop_zero] at hval
    rw [List.replicate_zero, List.nil_append] at hblk
    have hnum := NumI.ofBlk hblk (Nat.le_refl _) k (by omega) (by rw [hql]; unfold maxLen; omega)
    rw [hql, List.take_of_length_le (by omega)] at hnum
    have hr0 := val_nonnegD hres.wf
    obtain ⟨e1, e2⟩ := quo_eq (V := valD qs) (d := valD ys) (r := valD rs) (N := valD xs) hpos (by rw [hval, Int.mul_comm]) ⟨hr0, hlt⟩
    have hrl : rs.length ≤ ys.length := by
     obtain ⟨ad, cap, A⟩ := hres.arg
     exact A.lenLe h2 (by omega)
    have hlen : (trim qs).length ≤ k := by have h := Nat.le_trans (Nat.le_of_eq (trim_length _)) (trim_le qs); omega
    have E1 := Lib.hid e1
    have E2 := Lib.hid e2
    clear hblk e1 e2 hval hlt
    go_wp2_with fail
    refine (trimQ_num hnum (by omega)).mono ?_
    rintro e w' ⟨p, rfl, hp, rfl⟩
    go_wp2_with fail
    go_ret2
    exact ⟨p, q, rfl, hb, ⟨trim qs, ⟨hp, hqw.trim, trim_full _, by rw [val_trimD, E1.out]⟩, hlen⟩, ⟨rs, ⟨hres.num.mono (Nat.le_succ _), hres.wf, hres.full, E2.out⟩, hrl⟩⟩
end
section
open Go.RowKit
theorem posD {ds : List Int} {a : Option Addr} {cap : Nat} {w : World} {u : Value} (h : ArgD w u ds a cap) (hl : 0 < ds.length) : 0 < valD ds := by
 have h1 := full_geD h.wf h.full (ds.length - 1) (by omega)
 have h2 := pow_posD (ds.length - 1)
 omega
theorem gcdD_any {u v : Value} {xs ys : List Int} {a b : Option Addr} {capa capb : Nat} {w : World} (h1 : ArgD w u xs a capa) (h2 : ArgD w v ys b capb) (hx : xs.length ≤ 8589934592) (hy : ys.length ≤ 8589934592) :
 Calls Tryz.prog 110 #[u, v] w fun e w' => ∃ r, e = .returned r ∧ ∃ zs ad cap, ArgD w' r zs ad cap ∧ valD zs = (Int.gcd (valD xs) (valD ys) : Int) ∧ zs.length ≤ max xs.length ys.length ∧ Below w.heap.size w w' := by
 obtain ⟨m, hm⟩ : ∃ m, max xs.length ys.length = m := ⟨_, rfl⟩
 have hm2 : m ≤ 8589934592 := by omega
 have hmx : xs.length ≤ m := by omega
 have hmy : ys.length ≤ m := by omega
 rw [hm]
 clear hm hx hy
 go_enter Tryz.func110, Tryz.ntmps110
 go_wp2
 go_loopw [0, 1, 5, 6] (fun p q _ _ wr => ∃ (p' q' : Value) (us vs : List Int) (ad bd : Option Addr) (cp cq : Nat), p' = p ∧ q' = q ∧ ArgD wr p' us ad cp ∧ ArgD wr q' vs bd cq ∧ us.length ≤ m ∧ vs.length ≤ m ∧ Int.gcd (valD us) (valD vs) = Int.gcd (valD xs) (valD ys) ∧ Below w.heap.size w wr) (fun _ q _ _ wr => leftD wr q)
 case atStart => exact ⟨u, v, xs, ys, a, b, capa, capb, rfl, rfl, h1, h2, hmx, hmy, rfl, Below.refl _ _⟩
 case round =>
  obtain ⟨p, q, us, vs, ad, bd, cp, cq, rfl, rfl, A1, A2, hu, hv, hg, hb⟩ := hrel
  have hsz := hb.size
  have HG := Lib.hid hg
  clear hg
  have hq := A2.is
  by_cases hgo : 0 < vs.length
  · have hgo2 : (0 : Int) < (vs.length : Int) := by omega
    have hpos := posD A2 hgo
    have hleft := A2.left
    subst hq
    go_wp2_with fail
    refine (divD_any A1 A2 (by omega) (by omega) hpos).mono ?_
    rintro e w2 ⟨r2, s2, rfl, hb2, _, ⟨z2, q2, n2⟩⟩
    obtain ⟨ad2, cap2, A3⟩ := q2.arg
    have A2' := A2.later hb2
    have hB2 := hb.trans (hb2.mono hsz)
    have hl2 := A3.left
    have hr1 := Int.emod_lt_of_pos (valD us) hpos
    have hr2 := Int.emod_nonneg (valD us) (show valD vs ≠ 0 by omega)
    have hm3 : leftD w2 s2 < leftD wr (.slice bd vs.length cq) := by rw [hleft, hl2, q2.eq]; omega
    have hg3 : Int.gcd (valD vs) (valD z2) = Int.gcd (valD xs) (valD ys) := by rw [q2.eq, gcd_step]; exact HG.out
    have HG3 := Lib.hid hg3
    have HM3 := Lib.hid hm3
    clear hg3 hm3 hr1 hr2 hl2 hleft q2 A1 A2 hb2
    go_wp2
    go_roundw
    case rel => exact ⟨_, _, vs, z2, bd, ad2, cq, cap2, rfl, rfl, A2', A3, hv, by omega, HG3.out, hB2⟩
    case measure => exact HM3.out
  · have h0 : vs.length = 0 := by omega
    have hvs : vs = [] := List.eq_nil_of_length_eq_zero h0
    have hg := HG.out
    rw [hvs] at hg
    have hfin : valD us = (Int.gcd (valD xs) (valD ys) : Int) := by rw [← hg]; simp only [valD]; exact (gcd_end (val_nonnegD A1.wf)).symm
    have HF := Lib.hid hfin
    rw [h0] at hq
    subst hq
    clear hfin hg A2 hvs h0 hgo
    go_wp2
    go_ret
    exact ⟨_, rfl, us, ad, cp, A1, HF.out, hu, hb⟩
end
section
open Go.RowKit
theorem makeR_any {n : Nat} {w : World} {m1 : Bool} {xs ds : List Int} {a1 a2 : Option Addr} {c1 c2 : Nat} (A : ArgD w (.slice a1 xs.length c1) xs a1 c1) (B : ArgD w (.slice a2 ds.length c2) ds a2 c2) (hx : xs.length ≤ n) (hd : ds.length ≤ n) (hn : n ≤ 4294967296) :
 Calls Tryz.prog 71 #[.bool m1, .slice a1 xs.length c1, .slice a2 ds.length c2] w fun e w' => ∃ r, e = .returned r ∧ ArgR w' r (ratOf m1 (valD xs) (valD ds)) (n + 1) ∧ Below w.heap.size w w' := by
 have h0x := val_nonnegD A.wf
 have h0d := val_nonnegD B.wf
 obtain ⟨W, hW⟩ : ∃ W, (w.alloc (.cells #[.bool false, .slice none 0 0, .slice none 0 0] 58)) = W := ⟨_, rfl⟩
 have R0 : Row W (w.heap.size) 58 #[.bool false, .slice none 0 0, .slice none 0 0] := by rw [← hW]; exact (Row.new _ _ _)
 have hBW : Below w.heap.size w W := by rw [← hW]; exact ((Below.refl _ _).alloc (by (try simp) <;> omega) _)
 have hsW : w.heap.size + 1 ≤ W.heap.size := by rw [← hW]; simp
 by_cases z1 : valD xs = 0
 · have d1 := lenD_zero A.wf A.full z1
   have hX : ratOf m1 (valD xs) (valD ds) = 0 := by rw [z1]; exact ratOf_zero_left _ _
   have HX := Lib.hid hX
   have hb2 : Below W.heap.size W (W.alloc (.cells #[.int .i64 1] 3)) := (Below.refl _ _).alloc (Nat.le_refl _) _
   have L := digit_lit (Row.new W 3 #[.int .i64 1]) (by omega)
   have R0' := R0.later hb2
   obtain ⟨u0, u1, u2, g0, g1, g2⟩ := R0'.three
   obtain ⟨p0, p1, p2, p3, p4, p5⟩ := R0.three
   clear hX
   go_enter Tryz.func71, Tryz.ntmps71
   go_wp2_with fail
   refine bodyPost_ret (v := .agg #[.bool false, .slice none 0 0, .slice (some ⟨W.heap.size, 0, none⟩) 1 1]) (by simp [results, Tryz.results71, go_sem, u0, u1, u2]) rfl ⟨_, rfl, ⟨[], [1], none, some ⟨W.heap.size, 0, none⟩, 0, 1, ?_, ?_, ?_, ?_, ?_, by simp, by simp⟩, ?_⟩
   · rw [HX.out]; rfl
   · exact ⟨rfl, .inl rfl, Nat.le_refl _, WfD.nil, rfl⟩
   · exact L.far R0' (noInts3 _ _ _ _ _ _ _) (kept3 _ _ _)
   · rw [HX.out]; rfl
   · rw [HX.out]; rfl
   · exact below_set3 (hBW.trans (hb2.mono (by omega))) (by omega) _ _ _
 by_cases z2 : valD ds = 0
 · have d1 := lenD_pos (show 0 < valD xs by omega)
   have d2 := lenD_zero B.wf B.full z2
   have hX : ratOf m1 (valD xs) (valD ds) = 0 := by rw [z2]; exact ratOf_zero_right _ _
   have HX := Lib.hid hX
   have hb2 : Below W.heap.size W (W.alloc (.cells #[.int .i64 1] 3)) := (Below.refl _ _).alloc (Nat.le_refl _) _
   have L := digit_lit (Row.new W 3 #[.int .i64 1]) (by omega)
   have R0' := R0.later hb2
   obtain ⟨u0, u1, u2, g0, g1, g2⟩ := R0'.three
   obtain ⟨p0, p1, p2, p3, p4, p5⟩ := R0.three
   clear hX
   go_enter Tryz.func71, Tryz.ntmps71
   go_wp2_with fail
   refine bodyPost_ret (v := .agg #[.bool false, .slice none 0 0, .slice (some ⟨W.heap.size, 0, none⟩) 1 1]) (by simp [results, Tryz.results71, go_sem, u0, u1, u2]) rfl ⟨_, rfl, ⟨[], [1], none, some ⟨W.heap.size, 0, none⟩, 0, 1, ?_, ?_, ?_, ?_, ?_, by simp, by simp⟩, ?_⟩
   · rw [HX.out]; rfl
   · exact ⟨rfl, .inl rfl, Nat.le_refl _, WfD.nil, rfl⟩
   · exact L.far R0' (noInts3 _ _ _ _ _ _ _) (kept3 _ _ _)
   · rw [HX.out]; rfl
   · rw [HX.out]; rfl
   · exact below_set3 (hBW.trans (hb2.mono (by omega))) (by omega) _ _ _
 have hpx : 0 < valD xs := by omega
 have hpd : 0 < valD ds := by omega
 have d1 := lenD_pos hpx
 have d2 := lenD_pos hpd
 have A' := A.later hBW
 have B' := B.later hBW
 have e1 := ratOf_neg (n := m1) h0x hpd (fun h => absurd h z1)
 have e2 := ratOf_abs (n := m1) h0x hpd
 have e3 := ratOf_den (n := m1) (A := valD xs) hpd
 have hgp : 0 < (Int.gcd (valD xs) (valD ds) : Int) := gcd_pos hpx
 have E1 := Lib.hid e1
 have E2 := Lib.hid e2
 have E3 := Lib.hid e3
 clear e1 e2 e3 z1 z2
 go_enter Tryz.func71, Tryz.ntmps71
 go_wp2_with fail
 refine (gcdD_any A' B' (by omega) (by omega)).mono ?_
 rintro e w1 ⟨r1, rfl, gs, gd, gc, G, hG, lG, hb1⟩
 have hs1 := hb1.size
 have A1 := A'.later hb1
 have B1 := B'.later hb1
 have hgs : 0 < valD gs := by rw [hG]; exact hgp
 have HG := Lib.hid hG
 have eG := G.is
 subst eG
 clear hG hgp hW
 go_wp2_with fail
 refine (divD_any A1 G (by omega) (by omega) hgs).mono ?_
 rintro e w2 ⟨r2, s2, rfl, hb2, ⟨z2, q2, l2⟩, _⟩
 have hs2 := hb2.size
 obtain ⟨ad2, cp2, rfl, q2, A2⟩ := q2.slice
 have B2 := B1.later hb2
 have G2 := G.later hb2
 go_wp2_with fail
 refine (divD_any B2 G2 (by omega) (by omega) hgs).mono ?_
 rintro e w3 ⟨r3, s3, rfl, hb3, ⟨z3, q3, l3⟩, _⟩
 have hs3 := hb3.size
 obtain ⟨ad3, cp3, rfl, q3, A3⟩ := q3.slice
 have A2' := A2.later hb3
 have P3 := ((R0.later hb1).later hb2).later hb3
 have v2 := q2.eq
 have v3 := q3.eq
 rw [HG.out] at v2 v3
 have V2 := Lib.hid v2
 have V3 := Lib.hid v3
 clear v2 v3 q2 q3
 obtain ⟨u0, u1, u2, g0, g1, g2⟩ := P3.three
 go_wp2_with fail
 refine bodyPost_ret (v := .agg #[.bool m1, .slice ad2 z2.length cp2, .slice ad3 z3.length cp3]) (by simp [results, Tryz.results71, go_sem, u0, u1, u2]) rfl ⟨_, rfl, ⟨z2, z3, ad2, ad3, cp2, cp3, by rw [E1.out], ?_, ?_, ?_, ?_, by omega, by omega⟩, ?_⟩
 · exact A2'.far P3 (noInts3 _ _ _ _ _ _ _) (kept3 _ _ _)
 · exact A3.far P3 (noInts3 _ _ _ _ _ _ _) (kept3 _ _ _)
 · rw [V2.out, E2.out]
 · rw [V3.out, E3.out]
 · exact below_set3 (((hBW.trans (hb1.mono (by omega))).trans (hb2.mono (by omega))).trans (hb3.mono (by omega))) (by omega) _ _ _
theorem ofR_any {n : Nat} {w : World} {v : Value} {X : Rat} (h : ArgQ w v X n) (hn : n ≤ 134217728) :
 Calls Tryz.prog 29 #[v] w fun e w' => ∃ r, e = .returned r ∧ ArgR w' r X (5 * n + 1) ∧ Below w.heap.size w w' := by
 obtain ⟨m1, xs, ds, a1, a2, c1, c2, rfl, A, B, hX, hx, hd⟩ := h
 obtain ⟨W, hW⟩ : ∃ W, ((w.alloc (.cells #[.bool m1, .slice a1 xs.length c1, .slice a2 ds.length c2] 54)).alloc (.cells #[.bool false, .slice none 0 0, .slice none 0 0] 58)) = W := ⟨_, rfl⟩
 have R0 : Row W (w.heap.size) 54 #[.bool m1, .slice a1 xs.length c1, .slice a2 ds.length c2] := by rw [← hW]; exact ((Row.new _ _ _).alloc _)
 have R1 : Row W (w.heap.size + 1) 58 #[.bool false, .slice none 0 0, .slice none 0 0] := by rw [← hW]; have h := (Row.new (w.alloc (.cells #[.bool m1, .slice a1 xs.length c1, .slice a2 ds.length c2] 54)) 58 #[.bool false, .slice none 0 0, .slice none 0 0]); simp only [World.size_alloc] at h; exact h
 have hBW : Below w.heap.size w W := by rw [← hW]; exact (((Below.refl _ _).alloc (by (try simp) <;> omega) _).alloc (by (try simp) <;> omega) _)
 have hsW : w.heap.size + 1 + 1 ≤ W.heap.size := by rw [← hW]; simp
 have HX := Lib.hid hX
 clear hX
 have mkS : ∀ X, Kept (w.heap.size + 1) W X → X.cell? ⟨w.heap.size, 0, none⟩ = some (.bool m1) ∧ X.cell? ⟨w.heap.size, 1, none⟩ = some (.slice a1 xs.length c1) ∧ X.cell? ⟨w.heap.size, 2, none⟩ = some (.slice a2 ds.length c2) ∧ Kept (w.heap.size + 1) W X := fun X h => ⟨(R0.kept h (by omega)).cell 0, (R0.kept h (by omega)).cell 1, (R0.kept h (by omega)).cell 2, h⟩
 go_enter Tryz.func29, Tryz.ntmps29
 go_wp2_with fail
 clear hW
 go_region_held3 (fun X => X.cell? ⟨w.heap.size, 0, none⟩ = some (.bool m1) ∧ X.cell? ⟨w.heap.size, 1, none⟩ = some (.slice a1 xs.length c1) ∧ X.cell? ⟨w.heap.size, 2, none⟩ = some (.slice a2 ds.length c2) ∧ Kept (w.heap.size + 1) W X)
  (((refine mkS _ ?_; (repeat' (first | exact Kept.refl _ _ | refine Kept.drew ?_ | refine Kept.alloc ?_ _ | refine Kept.set ?_ _ _ | refine Kept.below ?_ (by assumption))))))
  ((first
   | (go_at_call 71; refine (makeR_any (n := 5 * n) (A3.later hb4) A4 (by omega) (by omega) (by omega)).mono ?_; rintro e w5 ⟨r5, rfl, q5, hb5⟩; rw [HV.out] at q5; obtain ⟨fs, gs, f1, f2, j1, j2, e5, _⟩ := id q5; subst e5; have P5 := R1.kept (show Kept (w.heap.size + 1 + 1 + 1) W w5 by (repeat' (first | exact Kept.refl _ _ | refine Kept.drew ?_ | refine Kept.alloc ?_ _ | refine Kept.set ?_ _ _ | refine Kept.below ?_ (by assumption)))) (by omega); obtain ⟨u0, u1, u2, g0, g1, g2⟩ := P5.three)
   | (go_at_call 72; (with_reducible refine (of_any (B.later (Kept.under (show Kept (w.heap.size + 1) W _ by (repeat' (first | exact Kept.refl _ _ | refine Kept.drew ?_ | refine Kept.alloc ?_ _ | refine Kept.set ?_ _ _ | refine Kept.below ?_ (by assumption)))) hBW (by omega) (by omega))) (by omega)).mono ?_); rintro e w4 ⟨r4, rfl, z4, q4, l4, hb4⟩; obtain ⟨ad4, cp4, rfl, q4, A4⟩ := q4.slice; have HV := Lib.hid ((show ratOf m1 (valD z3) (valD z4) = ratOf m1 (val xs) (val ds) by rw [q3.eq, q4.eq]).trans HX.out))
   | (go_at_call 72; (with_reducible refine (of_any (A.later (Kept.under (show Kept (w.heap.size + 1) W _ by (repeat' (first | exact Kept.refl _ _ | refine Kept.drew ?_ | refine Kept.alloc ?_ _ | refine Kept.set ?_ _ _ | refine Kept.below ?_ (by assumption)))) hBW (by omega) (by omega))) (by omega)).mono ?_); rintro e w3 ⟨r3, rfl, z3, q3, l3, hb3⟩; obtain ⟨ad3, cp3, rfl, q3, A3⟩ := q3.slice)))
 have hs5 := hb5.size
 have hk5 := (show Kept (w.heap.size + 1 + 1 + 1) W w5 by (repeat' (first | exact Kept.refl _ _ | refine Kept.drew ?_ | refine Kept.alloc ?_ _ | refine Kept.set ?_ _ _ | refine Kept.below ?_ (by assumption)))).size
 have hK5 := (Kept.under (show Kept (w.heap.size + 1 + 1 + 1) W w5 by (repeat' (first | exact Kept.refl _ _ | refine Kept.drew ?_ | refine Kept.alloc ?_ _ | refine Kept.set ?_ _ _ | refine Kept.below ?_ (by assumption)))) hBW (by omega) (by omega))
 go_wp2_with fail
 refine bodyPost_ret (v := .agg #[.bool (decide (X.num < 0)), .slice f1 fs.length j1, .slice f2 gs.length j2]) (by simp [results, Tryz.results29, go_sem, u0, u1, u2]) rfl ⟨_, rfl, ?_, below_set3 hK5 (by omega) _ _ _⟩
 exact (q5.far P5 (noInts3 _ _ _ _ _ _ _) (kept3 _ _ _))
end
section
open Go.RowKit
theorem mayR_any {n : Nat} {w : World} {m1 : Bool} {xs ds : List Int} {a1 a2 : Option Addr} {c1 c2 : Nat} (A : Arg w (.slice a1 xs.length c1) xs a1 c1) (B : Arg w (.slice a2 ds.length c2) ds a2 c2)
 (hx : xs.length ≤ n) (hd : ds.length ≤ n) (hn : n ≤ 134217728) :
 Calls Tryz.prog 48 #[.agg #[.bool m1, .slice a1 xs.length c1, .slice a2 ds.length c2]] w fun e w' => e = .returned (.int .i64 (if validB m1 xs ds (ratOf m1 (val xs) (val ds)) = true then 0 else 6)) ∧ Below w.heap.size w w' := by
 obtain ⟨X, hX⟩ : ∃ X, ratOf m1 (val xs) (val ds) = X := ⟨_, rfl⟩
 have hq : ArgQ w (.agg #[.bool m1, .slice a1 xs.length c1, .slice a2 ds.length c2]) X n := ⟨m1, xs, ds, a1, a2, c1, c2, rfl, A, B, hX, hx, hd⟩
 rw [hX]
 clear hX
 obtain ⟨W, hW⟩ : ∃ W, (w.alloc (.cells #[.bool m1, .slice a1 xs.length c1, .slice a2 ds.length c2] 54)) = W := ⟨_, rfl⟩
 have R0 : Row W (w.heap.size) 54 #[.bool m1, .slice a1 xs.length c1, .slice a2 ds.length c2] := by rw [← hW]; exact (Row.new _ _ _)
 have hBW : Below w.heap.size w W := by rw [← hW]; exact ((Below.refl _ _).alloc (by (try simp) <;> omega) _)
 have hsW : w.heap.size + 1 ≤ W.heap.size := by rw [← hW]; simp
 obtain ⟨p0, p1, p2, _, _, _⟩ := R0.three
 have hq' := hq.later hBW
 obtain ⟨b, hb⟩ : ∃ b, validB m1 xs ds X = b := ⟨_, rfl⟩
 have HB := Lib.hid hb
 rw [hb]
 clear hb hq
 go_enter Tryz.func48, Tryz.ntmps48
 go_wp2_with fail
 refine (ofR_any hq' hn).mono ?_
 rintro e w1 ⟨r1, rfl, h1, hb1⟩
 have hs1 := hb1.size
 obtain ⟨m4, fs, gs, f1, f2, j1, j2, rfl⟩ := h1.box
 clear p0 p1 p2 hW
 have Q0 := R0.later hb1
 obtain ⟨U, hU⟩ : ∃ U, w1.alloc (.cells #[.bool m4, .slice f1 fs.length j1, .slice f2 gs.length j2] 58) = U := ⟨_, rfl⟩
 have hBU : Below w1.heap.size w1 U := by rw [← hU]; exact (Below.refl _ _).alloc (Nat.le_refl _) _
 have R5 : Row U w1.heap.size 58 #[.bool m4, .slice f1 fs.length j1, .slice f2 gs.length j2] := by rw [← hU]; exact Row.new _ _ _
 have hsU : w1.heap.size + 1 ≤ U.heap.size := by rw [← hU]; simp
 have k := isR_dec (m2 := m1) (h1.later hBU) (((A.later hBW).later hb1).later hBU) (((B.later hBW).later hb1).later hBU) (by omega) (by omega) (by omega)
 rw [HB.out] at k
 obtain ⟨p0, p1, p2, _, _, _⟩ := Q0.three
 obtain ⟨q0, q1, q2, _, _, _⟩ := (Q0.later hBU).three
 obtain ⟨o0, o1, o2, _, _, _⟩ := R5.three
 have hB2 : Below w.heap.size w U := (hBW.trans (hb1.mono (by omega))).trans (hBU.mono (by omega))
 cases b with
 | true =>
  go_wp2_with fail
  (try rw [hU])
  refine k.mono ?_
  rintro e w2 ⟨rfl, hb2⟩
  clear k hU
  go_wp2_with fail
  go_ret
  exact ⟨rfl, hB2.trans (hb2.mono (by omega))⟩
 | false =>
  go_wp2_with fail
  (try rw [hU])
  refine k.mono ?_
  rintro e w2 ⟨rfl, hb2⟩
  clear k hU
  go_wp2_with fail
  go_ret
  exact ⟨rfl, hB2.trans (hb2.mono (by omega))⟩
end
section
open Go.RowKit
theorem sameQ_any {n : Nat} {w : World} {u v : Value} {X Y : Rat} (hu : ArgQ w u X n) (hv : ArgQ w v Y n) (hn : n ≤ 16777000) :
 Calls Tryz.prog 66 #[u, v] w fun e w' => e = .returned (.bool (sgR (X - Y) == 0)) ∧ Below w.heap.size w w' := by
 obtain ⟨m1, xs, ds, a1, a2, c1, c2, rfl⟩ := hu.box
 obtain ⟨m2, zs, es, a3, a4, c3, c4, rfl⟩ := hv.box
 obtain ⟨W, hW⟩ : ∃ W, ((w.alloc (.cells #[.bool m1, .slice a1 xs.length c1, .slice a2 ds.length c2] 54)).alloc (.cells #[.bool m2, .slice a3 zs.length c3, .slice a4 es.length c4] 54)) = W := ⟨_, rfl⟩
 have R0 : Row W (w.heap.size) 54 #[.bool m1, .slice a1 xs.length c1, .slice a2 ds.length c2] := by rw [← hW]; exact ((Row.new _ _ _).alloc _)
 have R1 : Row W (w.heap.size + 1) 54 #[.bool m2, .slice a3 zs.length c3, .slice a4 es.length c4] := by rw [← hW]; have h := (Row.new (w.alloc (.cells #[.bool m1, .slice a1 xs.length c1, .slice a2 ds.length c2] 54)) 54 #[.bool m2, .slice a3 zs.length c3, .slice a4 es.length c4]); simp only [World.size_alloc] at h; exact h
 have hBW : Below w.heap.size w W := by rw [← hW]; exact (((Below.refl _ _).alloc (by (try simp) <;> omega) _).alloc (by (try simp) <;> omega) _)
 have hsW : w.heap.size + 1 + 1 ≤ W.heap.size := by rw [← hW]; simp
 have hc := cmpQ_any (hu.later hBW) (hv.later hBW) hn
 obtain ⟨s, hs⟩ : ∃ s, sgR (X - Y) = s := ⟨_, rfl⟩
 rw [hs] at hc ⊢
 clear hs
 obtain ⟨p0, p1, p2, _, _, _⟩ := R0.three
 obtain ⟨o0, o1, o2, _, _, _⟩ := R1.three
 go_enter Tryz.func66, Tryz.ntmps66
 go_wp2_with fail
 refine hc.mono ?_
 rintro e w1 ⟨rfl, hb1⟩
 clear hc hW p0 p1 p2 o0 o1 o2
 go_wp2_with fail
 go_ret
 exact ⟨rfl, hBW.trans (hb1.mono (by omega))⟩
end
section
open Go.RowKit Go.ChangeShapes Go.WideShapes Go.ChangeAt
theorem Row.only {w w' : World} {g b : Nat} {t : TypeId} {cs : Array Value} (R : Row w g t cs) (h : Only b w w') (hb : g ≠ b) : Row w' g t cs := (h.block g hb).trans R
theorem ArgR.only {w w' : World} {v : Value} {x : Rat} {n g : Nat} {t : TypeId} {p : Bool} {ad bd : Option Addr} {l cap m cbp : Nat} (h : ArgR w v x n) (R : Row w g t #[.bool p, .slice ad l cap, .slice bd m cbp]) (k : Only g w w') : ArgR w' v x n :=
 h.far R (noInts3 _ _ _ _ _ _ _) k.block
theorem ArgQ.only {w w' : World} {v : Value} {x : Rat} {n g : Nat} {t : TypeId} {p : Bool} {ad bd : Option Addr} {l cap m cbp : Nat} (h : ArgQ w v x n) (R : Row w g t #[.bool p, .slice ad l cap, .slice bd m cbp]) (k : Only g w w') : ArgQ w' v x n :=
 h.far R (noInts3 _ _ _ _ _ _ _) k.block
theorem ResQ.only {base : Nat} {w w' : World} {v : Value} {x : Rat} {n g : Nat} {cs : Array Value} (h : ResQ base w v x n) (R : Row w g 54 cs) (k : Only g w w') : ResQ base w' v x n :=
 h.far R (by decide) k.block
end
section
open Go.RowKit
theorem BlkS.only {w w' : World} {g b : Nat} {zs : List Int} (h : BlkS w g zs) (k : Only b w w') (hb : g ≠ b) : BlkS w' g zs := h.same (k.block g hb)
end
section
open Go.RowKit
theorem makeRR_any {n : Nat} {w : World} {m1 : Bool} {xs ds : List Int} {a1 a2 : Option Addr} {c1 c2 : Nat} (A : ArgD w (.slice a1 xs.length c1) xs a1 c1) (B : ArgD w (.slice a2 ds.length c2) ds a2 c2) (hx : xs.length ≤ n) (hd : ds.length ≤ n) (hn : n ≤ 4294967296) :
 Calls Tryz.prog 71 #[.bool m1, .slice a1 xs.length c1, .slice a2 ds.length c2] w fun e w' => ∃ r, e = .returned r ∧ ResR w.heap.size w' r (ratOf m1 (valD xs) (valD ds)) (n + 1) ∧ Below w.heap.size w w' := by
 have h0x := val_nonnegD A.wf
 have h0d := val_nonnegD B.wf
 obtain ⟨W, hW⟩ : ∃ W, (w.alloc (.cells #[.bool false, .slice none 0 0, .slice none 0 0] 58)) = W := ⟨_, rfl⟩
 have R0 : Row W (w.heap.size) 58 #[.bool false, .slice none 0 0, .slice none 0 0] := by rw [← hW]; exact (Row.new _ _ _)
 have hBW : Below w.heap.size w W := by rw [← hW]; exact ((Below.refl _ _).alloc (by (try simp) <;> omega) _)
 have hsW : w.heap.size + 1 ≤ W.heap.size := by rw [← hW]; simp
 by_cases z1 : valD xs = 0
 · have d1 := lenD_zero A.wf A.full z1
   have hX : ratOf m1 (valD xs) (valD ds) = 0 := by rw [z1]; exact ratOf_zero_left _ _
   have HX := Lib.hid hX
   have hb2 : Below W.heap.size W (W.alloc (.cells #[.int .i64 1] 3)) := (Below.refl _ _).alloc (Nat.le_refl _) _
   have L := digit_lit (Row.new W 3 #[.int .i64 1]) (by omega)
   have R0' := R0.later hb2
   obtain ⟨u0, u1, u2, g0, g1, g2⟩ := R0'.three
   obtain ⟨p0, p1, p2, p3, p4, p5⟩ := R0.three
   clear hX
   go_enter Tryz.func71, Tryz.ntmps71
   go_wp2_with fail
   refine bodyPost_ret (v := .agg #[.bool false, .slice none 0 0, .slice (some ⟨W.heap.size, 0, none⟩) 1 1]) (by simp [results, Tryz.results71, go_sem, u0, u1, u2]) rfl ⟨_, rfl, ⟨[], [1], none, some ⟨W.heap.size, 0, none⟩, 0, 1, ?_, ?_, ?_, by simp, by simp⟩, ?_⟩
   · rw [HX.out]; rfl
   · rw [HX.out]; exact ⟨⟨rfl, .inl ⟨rfl, rfl⟩⟩, WfD.nil, rfl, rfl⟩
   · rw [HX.out]; exact (ResD.one W (by omega)).far R0' (by decide) (kept3 _ _ _)
   · exact below_set3 (hBW.trans (hb2.mono (by omega))) (by omega) _ _ _
 by_cases z2 : valD ds = 0
 · have d1 := lenD_pos (show 0 < valD xs by omega)
   have d2 := lenD_zero B.wf B.full z2
   have hX : ratOf m1 (valD xs) (valD ds) = 0 := by rw [z2]; exact ratOf_zero_right _ _
   have HX := Lib.hid hX
   have hb2 : Below W.heap.size W (W.alloc (.cells #[.int .i64 1] 3)) := (Below.refl _ _).alloc (Nat.le_refl _) _
   have L := digit_lit (Row.new W 3 #[.int .i64 1]) (by omega)
   have R0' := R0.later hb2
   obtain ⟨u0, u1, u2, g0, g1, g2⟩ := R0'.three
   obtain ⟨p0, p1, p2, p3, p4, p5⟩ := R0.three
   clear hX
   go_enter Tryz.func71, Tryz.ntmps71
   go_wp2_with fail
   refine bodyPost_ret (v := .agg #[.bool false, .slice none 0 0, .slice (some ⟨W.heap.size, 0, none⟩) 1 1]) (by simp [results, Tryz.results71, go_sem, u0, u1, u2]) rfl ⟨_, rfl, ⟨[], [1], none, some ⟨W.heap.size, 0, none⟩, 0, 1, ?_, ?_, ?_, by simp, by simp⟩, ?_⟩
   · rw [HX.out]; rfl
   · rw [HX.out]; exact ⟨⟨rfl, .inl ⟨rfl, rfl⟩⟩, WfD.nil, rfl, rfl⟩
   · rw [HX.out]; exact (ResD.one W (by omega)).far R0' (by decide) (kept3 _ _ _)
   · exact below_set3 (hBW.trans (hb2.mono (by omega))) (by omega) _ _ _
 have hpx : 0 < valD xs := by omega
 have hpd : 0 < valD ds := by omega
 have d1 := lenD_pos hpx
 have d2 := lenD_pos hpd
 have A' := A.later hBW
 have B' := B.later hBW
 have e1 := ratOf_neg (n := m1) h0x hpd (fun h => absurd h z1)
 have e2 := ratOf_abs (n := m1) h0x hpd
 have e3 := ratOf_den (n := m1) (A := valD xs) hpd
 have hgp : 0 < (Int.gcd (valD xs) (valD ds) : Int) := gcd_pos hpx
 have E1 := Lib.hid e1
 have E2 := Lib.hid e2
 have E3 := Lib.hid e3
 clear e1 e2 e3 z1 z2
 go_enter Tryz.func71, Tryz.ntmps71
 go_wp2_with fail
 refine (gcdD_any A' B' (by omega) (by omega)).mono ?_
 rintro e w1 ⟨r1, rfl, gs, gd, gc, G, hG, lG, hb1⟩
 have hs1 := hb1.size
 have A1 := A'.later hb1
 have B1 := B'.later hb1
 have hgs : 0 < valD gs := by rw [hG]; exact hgp
 have HG := Lib.hid hG
 have eG := G.is
 subst eG
 clear hG hgp hW
 go_wp2_with fail
 refine (divD_any A1 G (by omega) (by omega) hgs).mono ?_
 rintro e w2 ⟨r2, s2, rfl, hb2, ⟨z2, q2, l2⟩, _⟩
 have hs2 := hb2.size
 obtain ⟨ad2, cp2, rfl, q2, A2⟩ := q2.slice
 have B2 := B1.later hb2
 have G2 := G.later hb2
 go_wp2_with fail
 refine (divD_any B2 G2 (by omega) (by omega) hgs).mono ?_
 rintro e w3 ⟨r3, s3, rfl, hb3, ⟨z3, q3, l3⟩, _⟩
 have hs3 := hb3.size
 obtain ⟨ad3, cp3, rfl, q3, A3⟩ := q3.slice
 have A2' := A2.later hb3
 have P3 := ((R0.later hb1).later hb2).later hb3
 have v2 := q2.eq
 have v3 := q3.eq
 rw [HG.out] at v2 v3
 have V2 := Lib.hid v2
 have V3 := Lib.hid v3
 have Q2 := Lib.hid (q2.later hb3)
 have Q3 := Lib.hid q3
 clear v2 v3 q2 q3
 obtain ⟨u0, u1, u2, g0, g1, g2⟩ := P3.three
 go_wp2_with fail
 refine bodyPost_ret (v := .agg #[.bool m1, .slice ad2 z2.length cp2, .slice ad3 z3.length cp3]) (by simp [results, Tryz.results71, go_sem, u0, u1, u2]) rfl ⟨_, rfl, ⟨z2, z3, ad2, ad3, cp2, cp3, by rw [E1.out], ?_, ?_, by omega, by omega⟩, ?_⟩
 · exact ((Q2.out.mono (by omega)).far P3 (by decide) (kept3 _ _ _)).eqTo (by rw [V2.out, E2.out])
 · exact ((Q3.out.mono (by omega)).far P3 (by decide) (kept3 _ _ _)).eqTo (by rw [V3.out, E3.out])
 · exact below_set3 (((hBW.trans (hb1.mono (by omega))).trans (hb2.mono (by omega))).trans (hb3.mono (by omega))) (by omega) _ _ _
theorem ofRR_any {n : Nat} {w : World} {v : Value} {X : Rat} (h : ArgQ w v X n) (hn : n ≤ 134217728) :
 Calls Tryz.prog 29 #[v] w fun e w' => ∃ r, e = .returned r ∧ ResR w.heap.size w' r X (5 * n + 1) ∧ Below w.heap.size w w' := by
 obtain ⟨m1, xs, ds, a1, a2, c1, c2, rfl, A, B, hX, hx, hd⟩ := h
 obtain ⟨W, hW⟩ : ∃ W, ((w.alloc (.cells #[.bool m1, .slice a1 xs.length c1, .slice a2 ds.length c2] 54)).alloc (.cells #[.bool false, .slice none 0 0, .slice none 0 0] 58)) = W := ⟨_, rfl⟩
 have R0 : Row W (w.heap.size) 54 #[.bool m1, .slice a1 xs.length c1, .slice a2 ds.length c2] := by rw [← hW]; exact ((Row.new _ _ _).alloc _)
 have R1 : Row W (w.heap.size + 1) 58 #[.bool false, .slice none 0 0, .slice none 0 0] := by rw [← hW]; have h := (Row.new (w.alloc (.cells #[.bool m1, .slice a1 xs.length c1, .slice a2 ds.length c2] 54)) 58 #[.bool false, .slice none 0 0, .slice none 0 0]); simp only [World.size_alloc] at h; exact h
 have hBW : Below w.heap.size w W := by rw [← hW]; exact (((Below.refl _ _).alloc (by (try simp) <;> omega) _).alloc (by (try simp) <;> omega) _)
 have hsW : w.heap.size + 1 + 1 ≤ W.heap.size := by rw [← hW]; simp
 have HX := Lib.hid hX
 clear hX
 have mkS : ∀ X, Kept (w.heap.size + 1) W X → X.cell? ⟨w.heap.size, 0, none⟩ = some (.bool m1) ∧ X.cell? ⟨w.heap.size, 1, none⟩ = some (.slice a1 xs.length c1) ∧ X.cell? ⟨w.heap.size, 2, none⟩ = some (.slice a2 ds.length c2) ∧ Kept (w.heap.size + 1) W X := fun X h => ⟨(R0.kept h (by omega)).cell 0, (R0.kept h (by omega)).cell 1, (R0.kept h (by omega)).cell 2, h⟩
 go_enter Tryz.func29, Tryz.ntmps29
 go_wp2_with fail
 clear hW
 go_region_held3 (fun X => X.cell? ⟨w.heap.size, 0, none⟩ = some (.bool m1) ∧ X.cell? ⟨w.heap.size, 1, none⟩ = some (.slice a1 xs.length c1) ∧ X.cell? ⟨w.heap.size, 2, none⟩ = some (.slice a2 ds.length c2) ∧ Kept (w.heap.size + 1) W X)
  (((refine mkS _ ?_; (repeat' (first | exact Kept.refl _ _ | refine Kept.drew ?_ | refine Kept.alloc ?_ _ | refine Kept.set ?_ _ _ | refine Kept.below ?_ (by assumption))))))
  ((first
   | (go_at_call 71; refine (makeRR_any (n := 5 * n) (A3.later hb4) A4 (by omega) (by omega) (by omega)).mono ?_; rintro e w5 ⟨r5, rfl, q5, hb5⟩; rw [HV.out] at q5; obtain ⟨fs, gs, f1, f2, j1, j2, e5, _⟩ := id q5; subst e5; have P5 := R1.kept (show Kept (w.heap.size + 1 + 1 + 1) W w5 by (repeat' (first | exact Kept.refl _ _ | refine Kept.drew ?_ | refine Kept.alloc ?_ _ | refine Kept.set ?_ _ _ | refine Kept.below ?_ (by assumption)))) (by omega); obtain ⟨u0, u1, u2, g0, g1, g2⟩ := P5.three)
   | (go_at_call 72; (with_reducible refine (of_any (B.later (Kept.under (show Kept (w.heap.size + 1) W _ by (repeat' (first | exact Kept.refl _ _ | refine Kept.drew ?_ | refine Kept.alloc ?_ _ | refine Kept.set ?_ _ _ | refine Kept.below ?_ (by assumption)))) hBW (by omega) (by omega))) (by omega)).mono ?_); rintro e w4 ⟨r4, rfl, z4, q4, l4, hb4⟩; obtain ⟨ad4, cp4, rfl, q4, A4⟩ := q4.slice; have HV := Lib.hid ((show ratOf m1 (valD z3) (valD z4) = ratOf m1 (val xs) (val ds) by rw [q3.eq, q4.eq]).trans HX.out))
   | (go_at_call 72; (with_reducible refine (of_any (A.later (Kept.under (show Kept (w.heap.size + 1) W _ by (repeat' (first | exact Kept.refl _ _ | refine Kept.drew ?_ | refine Kept.alloc ?_ _ | refine Kept.set ?_ _ _ | refine Kept.below ?_ (by assumption)))) hBW (by omega) (by omega))) (by omega)).mono ?_); rintro e w3 ⟨r3, rfl, z3, q3, l3, hb3⟩; obtain ⟨ad3, cp3, rfl, q3, A3⟩ := q3.slice)))
 have hs5 := hb5.size
 have hk5 := (show Kept (w.heap.size + 1 + 1 + 1) W w5 by (repeat' (first | exact Kept.refl _ _ | refine Kept.drew ?_ | refine Kept.alloc ?_ _ | refine Kept.set ?_ _ _ | refine Kept.below ?_ (by assumption)))).size
 have hk4 := (show Kept (w.heap.size + 1 + 1 + 1) W w4 by (repeat' (first | exact Kept.refl _ _ | refine Kept.drew ?_ | refine Kept.alloc ?_ _ | refine Kept.set ?_ _ _ | refine Kept.below ?_ (by assumption)))).size
 have hK5 := (Kept.under (show Kept (w.heap.size + 1 + 1 + 1) W w5 by (repeat' (first | exact Kept.refl _ _ | refine Kept.drew ?_ | refine Kept.alloc ?_ _ | refine Kept.set ?_ _ _ | refine Kept.below ?_ (by assumption)))) hBW (by omega) (by omega))
 go_wp2_with fail
 refine bodyPost_ret (v := .agg #[.bool (decide (X.num < 0)), .slice f1 fs.length j1, .slice f2 gs.length j2]) (by simp [results, Tryz.results29, go_sem, u0, u1, u2]) rfl ⟨_, rfl, ?_, below_set3 hK5 (by omega) _ _ _⟩
 exact (q5.far P5 (by decide) (kept3 _ _ _)).mono (by omega)
end
section
open Go.RowKit
theorem mayT_shape {s : List Int} {qs : List Q3} (h : mayC s ≠ 0) : mayT s qs = mayC s := by unfold mayT; rw [if_pos h]
theorem mayT_len {s : List Int} {qs : List Q3} (h : mayC s = 0) (h2 : (qs.length : Int) ≠ countS s) : mayT s qs = 13 := by unfold mayT; rw [if_neg (by rw [h]; simp), if_pos h2]
theorem mayT_bad {s : List Int} {qs : List Q3} (h : mayC s = 0) (h2 : (qs.length : Int) = countS s) {q : Q3} (hq : q ∈ qs) (h3 : okQ q = false) : mayT s qs = 6 := by
 unfold mayT
 rw [if_neg (by rw [h]; simp), if_neg (by rw [h2]; simp), if_neg]
 intro e
 rw [List.all_eq_true] at e
 rw [e q hq] at h3
 cases h3
theorem mayT_any {w : World} {v : Value} {s : List Int} {qs : List Q3} {a b : Option Addr} {ca cb : Nat} (T : TensQ w v s qs a ca b cb) (hq : qs.length ≤ 1000000000)
 (hl : ∀ q ∈ qs, q.num.length ≤ 134217728 ∧ q.den.length ≤ 134217728) :
 Calls Tryz.prog 15 #[v] w fun e w' => e = .returned (.int .i64 (mayT s qs)) ∧ Below w.heap.size w w' := by
 have HT := Lib.hid T
 obtain rfl := T.is
 obtain ⟨W, hW⟩ : ∃ W, (w.alloc (.cells #[.slice a s.length ca, .slice b qs.length cb] 26)) = W := ⟨_, rfl⟩
 have R0 : Row W w.heap.size 26 #[.slice a s.length ca, .slice b qs.length cb] := by rw [← hW]; exact Row.new _ _ _
 have hBW : Below w.heap.size w W := by rw [← hW]; exact (Below.refl _ _).alloc (by simp) _
 obtain ⟨c, hc⟩ : ∃ c, mayT s qs = c := ⟨_, rfl⟩
 have HC := Lib.hid hc
 obtain ⟨m, hm⟩ : ∃ m, mayC s = m := ⟨_, rfl⟩
 have HM := Lib.hid hm
 obtain ⟨t, ht⟩ : ∃ t, countS s = t := ⟨_, rfl⟩
 have HTT := Lib.hid ht
 have q1 := mayR6_any (HT.out.sh.later hBW)
 have q2 := fun X (hX : Below W.heap.size W X) => countR6_any ((HT.out.sh.later hBW).later hX)
 rw [hm] at q1
 rw [ht] at q2
 rw [hc]
 obtain ⟨p0, p1, _, _⟩ := R0.two
 clear T hc hm ht
 have mkS : ∀ X, Below W.heap.size W X → X.cell? ⟨w.heap.size, 0, none⟩ = some (.slice a s.length ca) ∧ X.cell? ⟨w.heap.size, 1, none⟩ = some (.slice b qs.length cb) ∧ Below W.heap.size W X := fun X h => ⟨(R0.later h).cell 0, (R0.later h).cell 1, h⟩
 by_cases h0 : m = 0
 · subst h0
   by_cases hlen : (qs.length : Int) = t
   · have hne : ((qs.length : Int) != t) = false := by simpa using hlen
     have HLN := Lib.hid hlen
     clear hlen
     go_enter Tryz.func15, Tryz.ntmps15
     go_wp2_with (go_at_call 46; refine q1.mono ?_; rintro e w1 ⟨rfl, rfl⟩)
     go_region_held3 (fun X => X.cell? ⟨w.heap.size, 0, none⟩ = some (.slice a s.length ca) ∧ X.cell? ⟨w.heap.size, 1, none⟩ = some (.slice b qs.length cb) ∧ Below W.heap.size W X)
      (((refine mkS _ ?_; (repeat' (first | exact Below.refl _ _ | refine Below.drew ?_)))))
      ((go_at_call 47; (with_reducible refine (q2 _ (show Below W.heap.size W _ by (repeat' (first | exact Below.refl _ _ | refine Below.drew ?_)))).mono ?_); rintro e w' ⟨rfl, rfl⟩))
     clear hne q1 hW
     go_wp2
     go_loopw [4] (fun i wr => ∃ k : Nat, i = .int .i64 (k : Int) ∧ k ≤ qs.length ∧ (∀ q ∈ qs.take k, okQ q = true) ∧ Below W.heap.size W wr) (fun i _ => qs.length - (intOf i).toNat)
     case atStart => exact ⟨0, rfl, Nat.zero_le _, fun q h => by simp at h, by first | exact Below.refl _ _ | exact (Below.refl _ _).drew⟩
     case round =>
      obtain ⟨k, rfl, hk, hall, hb⟩ := hrel
      have r0 := R0.later hb
      obtain ⟨c00, c01, _, _⟩ := r0.two
      have HALL := Lib.hid hall
      clear hall
      by_cases hlt : k < qs.length
      · have hbw := hBW.trans (hb.mono hBW.size)
        obtain ⟨bb, o, x0, x1, x2, q, hbo, hqk, e0, e1, e2, hraw⟩ := (HT.out.el.later hbw (fun v x _ k => k.later hbw)).at hlt
        have hmem := List.mem_of_getElem? hqk
        subst hbo
        obtain ⟨u1, u2, k1, k2, hx, A1, B1, _, _⟩ := hraw
        simp only [Value.agg.injEq, Array.mk.injEq, List.cons.injEq, and_true] at hx
        obtain ⟨rfl, rfl, rfl⟩ := hx
        have hcall := mayR_any (m1 := q.neg) A1 B1 (hl q hmem).1 (hl q hmem).2 (Nat.le_refl _)
        have hltI : (k : Int) < (qs.length : Int) := by omega
        have HQK := Lib.hid hqk
        clear hqk
        have hokd : okQ q = validB q.neg q.num q.den (ratOf q.neg (val q.num) (val q.den)) := rfl
        by_cases hok : okQ q = true
        · rw [← hokd, if_pos hok] at hcall
          have HOK := Lib.hid hok
          clear hok hokd
          go_wp2_with (go_at_call 48; refine hcall.mono ?_; rintro e w2 ⟨rfl, hb2⟩)
          go_roundw
          case rel =>
           refine ⟨k + 1, by go_num, by omega, fun y hy => ?_, hb.trans (hb2.mono hb.size)⟩
           rw [take_nextL HQK.out] at hy
           rcases List.mem_append.1 hy with h | h
           · exact HALL.out y h
           · rw [List.mem_singleton.1 h]; exact HOK.out
          case measure => simp [intOf]; omega
        · have hok2 : okQ q = false := by simpa using hok
          rw [← hokd, if_neg hok] at hcall
          have hcc := mayT_bad HM.out (by rw [HTT.out]; exact HLN.out) hmem hok2
          obtain rfl : c = 6 := by rw [← HC.out]; exact hcc
          clear hok hok2 hokd hcc
          go_wp2_with (go_at_call 48; refine hcall.mono ?_; rintro e w2 ⟨rfl, hb2⟩)
          go_ret
          exact ⟨rfl, hBW.trans ((hb.trans (hb2.mono hb.size)).mono hBW.size)⟩
      · obtain rfl : k = qs.length := by omega
        have hltI : ¬ (qs.length : Int) < (qs.length : Int) := by omega
        have hcc := mayT_ok HM.out (by rw [HTT.out]; exact HLN.out) (by have h := HALL.out; rwa [List.take_length] at h)
        obtain rfl : c = 0 := by rw [← HC.out]; exact hcc
        clear hcc
        go_wp2
        go_ret
        exact ⟨rfl, hBW.trans (hb.mono hBW.size)⟩
   · have hne : ((qs.length : Int) != t) = true := by simpa using hlen
     have hcc := mayT_len HM.out (by rw [HTT.out]; exact hlen)
     obtain rfl : c = 13 := by rw [← HC.out]; exact hcc
     clear hlen hcc
     go_enter Tryz.func15, Tryz.ntmps15
     go_wp2_with (go_at_call 46; refine q1.mono ?_; rintro e w1 ⟨rfl, rfl⟩)
     go_region_held3 (fun X => X.cell? ⟨w.heap.size, 0, none⟩ = some (.slice a s.length ca) ∧ X.cell? ⟨w.heap.size, 1, none⟩ = some (.slice b qs.length cb) ∧ Below W.heap.size W X)
      (((refine mkS _ ?_; (repeat' (first | exact Below.refl _ _ | refine Below.drew ?_)))))
      ((go_at_call 47; (with_reducible refine (q2 _ (show Below W.heap.size W _ by (repeat' (first | exact Below.refl _ _ | refine Below.drew ?_)))).mono ?_); rintro e w' ⟨rfl, rfl⟩))
     go_wp2
     go_ret
     exact ⟨rfl, by first | exact hBW | exact hBW.drew⟩
 · have hcc := mayT_shape (s := s) (qs := qs) (by rw [HM.out]; exact h0)
   obtain rfl : c = m := by rw [← HC.out, hcc]; exact HM.out
   have hne : (c != 0) = true := by simpa using h0
   clear hcc q2
   go_enter Tryz.func15, Tryz.ntmps15
   go_wp2_with (go_at_call 46; refine q1.mono ?_; rintro e w1 ⟨rfl, rfl⟩)
   go_ret
   exact ⟨rfl, hBW⟩
end
section
open Go.RowKit
theorem RefQ.only {w w' : World} {X : Rat} {n : Nat} {zs ys : List Int} {f g : Option Addr} {j k : Nat} (h : RefQ w X n zs ys f g j k) {b : Nat} {t : TypeId} {p : Bool} {ad bd : Option Addr} {l cap m cbp : Nat} (R : Row w b t #[.bool p, .slice ad l cap, .slice bd m cbp]) (o : Only b w w') : RefQ w' X n zs ys f g j k :=
 ⟨h.1.far R (noInts3 _ _ _ _ _ _ _) o.block, h.2.1.far R (noInts3 _ _ _ _ _ _ _) o.block, h.2.2⟩
end
section
open Go.RowKit Go.Shelf
attribute [local go_sem] Oper.semAt_some
theorem sgR_same (x y : Rat) : (sgR (x - y) == 0) = decide (x = y) := by
 by_cases h : x = y
 · subst h
   rw [decide_eq_true rfl, show x - x = 0 by grind]
   rfl
 · rw [decide_eq_false h]
   have : sgR (x - y) ≠ 0 := fun e => h (by have := (sgR_zero _).1 e; grind)
   simpa using this
theorem sameX_any {n : Nat} {w : World} {u v : Value} {p q : Q3} (hu : RawQ w u p) (hv : RawQ w v q) (h1 : p.num.length ≤ n ∧ p.den.length ≤ n) (h2 : q.num.length ≤ n ∧ q.den.length ≤ n) (hn : n ≤ 16777000) :
 Calls Tryz.prog 66 #[u, v] w fun e w' => e = .returned (.bool (decide (p.rat = q.rat))) ∧ Below w.heap.size w w' := by
 have h := sameQ_any (hu.arg h1.1 h1.2) (hv.arg h2.1 h2.2) hn
 rw [sgR_same] at h
 exact h
theorem sameT7_any {n : Nat} {w : World} {u v : Value} {s1 s2 : List Int} {q1 q2 : List Q3} {a1 b1 a2 b2 : Option Addr} {ca1 cb1 ca2 cb2 : Nat} (T1 : TensQ w u s1 q1 a1 ca1 b1 cb1) (T2 : TensQ w v s2 q2 a2 ca2 b2 cb2) (hs1 : s1.length ≤ 1048576) (hs2 : s2.length ≤ 1048576) (hq1 : q1.length ≤ 1048576) (hq2 : q2.length ≤ 1048576) (hl1 : lensQ q1 n) (hl2 : lensQ q2 n) (hn : n ≤ 4000000) :
 Calls Tryz.prog 26 #[u, v] w fun e w' => e = .returned (.bool (allBC (fun (p q : Q3) => decide (p.rat = q.rat)) s1 s2 q1 q2)) ∧ Below w.heap.size w w' := by
 obtain rfl := T1.is
 obtain rfl := T2.is
 obtain ⟨B, hB⟩ : ∃ B, w.heap.size = B := ⟨_, rfl⟩
 obtain ⟨W1, hW1⟩ : ∃ W1, w.alloc (.cells #[.slice a1 s1.length ca1, .slice b1 q1.length cb1] 26) = W1 := ⟨_, rfl⟩
 obtain ⟨W2, hW2⟩ : ∃ W2, W1.alloc (.cells #[.slice a2 s2.length ca2, .slice b2 q2.length cb2] 26) = W2 := ⟨_, rfl⟩
 obtain ⟨W3, hW3⟩ : ∃ W3, W2.alloc (.cells #[.bool false] 4) = W3 := ⟨_, rfl⟩
 have s1' : W1.heap.size = B + 1 := by rw [← hW1, ← hB]; simp
 have s2' : W2.heap.size = B + 1 + 1 := by rw [← hW2, World.size_alloc, s1']
 have s3' : W3.heap.size = B + 1 + 1 + 1 := by rw [← hW3, World.size_alloc, s2']
 have R0 : Row W3 B 26 #[.slice a1 s1.length ca1, .slice b1 q1.length cb1] := by rw [← hW3, ← hW2, ← hW1, ← hB]; exact ((Row.new _ _ _).alloc _).alloc _
 have R1 : Row W3 (B + 1) 26 #[.slice a2 s2.length ca2, .slice b2 q2.length cb2] := by rw [← hW3, ← hW2, ← s1']; exact (Row.new _ _ _).alloc _
 have R2 : Row W3 (B + 1 + 1) 4 #[.bool false] := by rw [← hW3, ← s2']; exact Row.new _ _ _
 have hb2 : Below B w W3 := by rw [← hW3, ← hW2, ← hW1]; exact (((Below.refl _ w).alloc (by omega) _).alloc (by simp; omega) _).alloc (by simp; omega) _
 have U1 := T1.later (by rw [hB]; exact hb2)
 have U2 := T2.later (by rw [hB]; exact hb2)
 have hsame := sameS_any U1.sh U2.sh T1.nila T2.nila (by omega) (by omega)
 obtain ⟨t, ht⟩ : ∃ t, decide (s1 = s2) = t := ⟨_, rfl⟩
 rw [ht] at hsame
 obtain ⟨dd, hdd⟩ : ∃ d, allBC (fun (p q : Q3) => decide (p.rat = q.rat)) s1 s2 q1 q2 = d := ⟨_, rfl⟩
 rw [hdd]
 have HD := Lib.hid hdd
 have HT1 := Lib.hid T1
 have HT2 := Lib.hid T2
 have HL1 := Lib.hid hl1
 have HL2 := Lib.hid hl2
 obtain ⟨c0, c1, _, _⟩ := R0.two
 obtain ⟨c2, c3, _, _⟩ := R1.two
 clear T1 T2 U1 U2 hl1 hl2 hdd
 by_cases hgo : s1 = s2 ∧ q1.length = q2.length
 · obtain ⟨hs, hlen⟩ := hgo
   have htt : t = true := by rw [← ht]; exact decide_eq_true hs
   subst htt
   obtain ⟨es, hlim1, hall1⟩ := HT1.out.el.limE
   obtain ⟨fs, hlim2, hall2⟩ := HT2.out.el.limE
   have hsh1 : ShE es := shE_of hall1 (fun v x h => h.form)
   have hsh2 : ShE fs := shE_of hall2 (fun v x h => h.form)
   have hel1 : es.length = q1.length := hall1.1
   have hel2 : fs.length = es.length := by rw [hall2.1, ← hlen, hall1.1]
   have HA1 := Lib.hid hall1
   have HA2 := Lib.hid hall2
   have HS := Lib.hid hs
   have HLEN := Lib.hid hlen
   have HEL1 := Lib.hid hel1
   have HEL2 := Lib.hid hel2
   rw [hB] at hlim1 hlim2
   rw [← hlen, ← hel1] at R1 c3 hW2
   rw [← hel1] at R0 c1 hW1 hq1
   have hW2' := Lib.hid hW2
   rw [← hlen, ← hel1]
   clear hall1 hall2 hs hlen hel1 hel2 ht
   obtain ⟨n', hn'⟩ : ∃ n' : Nat, Hid (3 ≤ n') := ⟨3, Nat.le_refl 3⟩
   refine (callsIn_wide (n := n')).1 ?_
   refine callsIn_of_wp_marks Tryz.func26 rfl trivial ?_ rfl
   simp only [Tryz.ntmps26, List.size_toArray, List.length_cons, List.length_nil, Nat.reduceAdd, Nat.reduceSub, Array.replicate_succ, Array.replicate_zero, List.push_toArray, List.append_toArray, List.nil_append, List.cons_append]
   gi_wp2_with fail
   refine wideCall (hsame.mono ?_)
   rintro e w4 ⟨rfl, b4⟩
   have b0 : Below W3.heap.size W3 w4.drew := b4.drew
   have s4 := b4.size
   obtain ⟨k0, k1, _, _⟩ := (R0.later b4).two
   obtain ⟨k2, k3, _, _⟩ := (R1.later b4).two
   gi_wp2_with fail
   have mkS : ∀ Y, Below W3.heap.size W3 Y → Y.cell? ⟨B, 0, none⟩ = some (.slice a1 s1.length ca1) ∧ Y.cell? ⟨B, 1, none⟩ = some (.slice b1 es.length cb1) ∧ Y.cell? ⟨B + 1, 0, none⟩ = some (.slice a2 s2.length ca2) ∧ Y.cell? ⟨B + 1, 1, none⟩ = some (.slice b2 es.length cb2) := fun Y hb => by
    obtain ⟨x0, x1, _⟩ := (R0.later hb).two
    obtain ⟨x2, x3, _⟩ := (R1.later hb).two
    exact ⟨x0, x1, x2, x3⟩
   refine region_wide (fun Y => Y.cell? ⟨B, 0, none⟩ = some (.slice a1 s1.length ca1) ∧ Y.cell? ⟨B, 1, none⟩ = some (.slice b1 es.length cb1) ∧ Y.cell? ⟨B + 1, 0, none⟩ = some (.slice a2 s2.length ca2) ∧ Y.cell? ⟨B + 1, 1, none⟩ = some (.slice b2 es.length cb2)) (by kernel_rfl) (by kernel_rfl) (mkS _ b0) (fun hHeld => ?_)
   refine todo [0, 2] ?_
   iterate 2
    refine todoH (v := ?_) rfl (by kernel_rfl) (fun _ _ _ h => h) (by assumption) (Or.inl ⟨by rfl, ?_⟩) ?_
    rotate_left
    · intro w hSw; (try dsimp only at hSw); go_simp; (try with_reducible rfl)
    try simp only [Act.put, nA, nB, nC, nD, nE, nF]
   refine todone ?_
   refine wpAnyH_ready (rs := [1]) (by kernel_rfl) (by simp) ?_
   refine AllReadyH.cons rfl (fun K hK => ?sc1) AllReadyH.nil
   go_simp
   refine (elements_any _ _ _ _ _ _ _).mono ?_
   rintro e w5 ⟨rfl, b5⟩
   go_simp
   have b05 : Below W3.heap.size W3 w5 := b0.trans (b5.mono (by show W3.heap.size ≤ w4.heap.size; omega))
   have s5 := b05.size
   refine hK.out _ _ ?kc1 (fun hHeld => ?mc1)
   case kc1 =>
    try dsimp only
    exact mkS _ b05
   clear hK K
   try simp only [Act.put, nD, nE, nF]
   refine wpAnyH_ready (rs := [3]) (by kernel_rfl) (by simp) ?_
   refine AllReadyH.cons rfl (fun K hK => ?sc3) AllReadyH.nil
   go_simp
   refine (elements_any _ _ _ _ _ _ _).mono ?_
   rintro e w6 ⟨rfl, b6⟩
   go_simp
   have b06 : Below W3.heap.size W3 w6 := b05.trans (b6.mono (by omega))
   have s6 := b06.size
   refine hK.out _ _ ?kc3 (fun hHeld => ?mc3)
   case kc3 =>
    try dsimp only
    exact mkS _ b06
   clear hK K
   try simp only [Act.put, nD, nE, nF]
   refine wpAnyH_ready (rs := [4]) (by kernel_rfl) (by simp) ?_
   refine AllReadyH.cons rfl (fun K hK => ?sc4) AllReadyH.nil
   go_simp
   refine (besideQ_any _ _ _ _ _ _ _).mono ?_
   rintro e w7 ⟨rfl, rfl⟩
   go_simp
   have b07 : Below W3.heap.size W3 ((w6.alloc (.cells #[.slice b1 es.length cb1] 96)).alloc (.cells #[.slice b2 es.length cb2] 96)) := (b06.alloc (by omega) _).alloc (by simp; omega) _
   refine hK.out _ _ ?kc4 (fun hHeld => ?mc4)
   case kc4 =>
    try dsimp only
    exact mkS _ b07
   clear hK K
   try simp only [Act.put, nD, nE, nF]
   refine wpAnyH_done (by kernel_rfl) ?_ _
   dsimp only [Straight]
   gi_wp2_with fail
   obtain ⟨I, hI⟩ : ∃ I, w6.heap.size = I := ⟨_, rfl⟩
   obtain ⟨V1, hV1⟩ : ∃ V1, w6.alloc (.cells #[.slice b1 es.length cb1] 96) = V1 := ⟨_, rfl⟩
   obtain ⟨V, hV⟩ : ∃ V, V1.alloc (.cells #[.slice b2 es.length cb2] 96) = V := ⟨_, rfl⟩
   rw [hV1, hV] at b07
   have sV1 : V1.heap.size = I + 1 := by rw [← hV1, World.size_alloc, hI]
   have sV : V.heap.size = I + 1 + 1 := by rw [← hV, World.size_alloc, sV1]
   have d5 : Boxed V I 96 (.slice b1 es.length cb1) := by rw [← hV, ← hV1, ← hI]; exact (Boxed.new _ _ _).alloc _
   have d6 : Boxed V (I + 1) 96 (.slice b2 fs.length cb2) := by
    have h := Boxed.new V1 96 (.slice b2 es.length cb2)
    rw [sV1, hV] at h
    rw [HEL2.out]; exact h
   have e2 := R2.later b07
   have hbV : Below B w V := hb2.trans (b07.mono (by omega))
   simp only [hI, hV1, hV]
   have h3 : 3 ≤ n' := hn'
   have hI3 : B + 1 + 1 + 1 ≤ I := by have : W3.heap.size ≤ w6.heap.size := b06.size; omega
   clear hV hV1
   refine wpIn_rangeFunc_ownH (F := Fence.wide) (n := n') rfl (by omega) (gf := 105) (lb := #[.pointer (some ⟨I, 0, none⟩), .pointer (some ⟨I + 1, 0, none⟩)]) rfl trivial (enters_of Tryz.func105 (by kernel_rfl) rfl)
    (besideQ_stops (n' - 1) I B b1 b2 es fs cb1 cb2 (by omega) HEL2.out V (by omega) (by omega) d5.cell d6.cell (hlim1.below hbV) (hlim2.below hbV) hsh1 hsh2) KpS.trans (KpS.b (by omega) (by omega)) (Below.refl _ _) (fun _ => rfl)
    (fun (pre : List (Fin es.length)) X => Row X (B + 1 + 1) 4 #[.bool false] ∧ (∀ x ∈ pre, (q1[x.val]?.getD ⟨false, [], []⟩).rat = (q2[x.val]?.getD ⟨false, [], []⟩).rat) ∧ Below B w X ∧ I + 1 + 1 ≤ X.heap.size)
    (fun c pre X => c = .ret ∧ Row X (B + 1 + 1) 4 #[.bool false] ∧ (∃ x ∈ pre, (q1[x.val]?.getD ⟨false, [], []⟩).rat ≠ (q2[x.val]?.getD ⟨false, [], []⟩).rat) ∧ Below B w X)
    (fun pre X Y row ⟨h1, h2, h3, h4⟩ hg hr => ⟨h1.keepC (KeepC.grown hg (fun r e => (hr r e).2)), h2, h3.grown hg (by have := h3.size; omega) (fun k e => by have := (hr k e).1; omega), Nat.le_trans h4 hg.size⟩)
    (fun c pre X Y row ⟨h0, h1, h2, h3⟩ hg hr => ⟨h0, h1.keepC (KeepC.grown hg (fun r e => (hr r e).2)), h2, h3.grown hg (by have := h3.size; omega) (fun k e => by have := (hr k e).1; omega)⟩)
    ⟨e2, (fun x h => by cases h), hbV, by omega⟩
    (fun (x : Fin es.length) a' X => ∃ p1 p2, I + 1 + 1 ≤ p1 ∧ I + 1 + 1 ≤ p2 ∧ Row X p1 54 #[(es[x.val]?.getD dfE).a, (es[x.val]?.getD dfE).b, (es[x.val]?.getD dfE).c] ∧ Row X p2 54 #[(fs[x.val]?.getD dfE).a, (fs[x.val]?.getD dfE).b, (fs[x.val]?.getD dfE).c] ∧
     a' = { tmps := #[.agg #[.slice a1 s1.length ca1, .slice b1 es.length cb1], .agg #[.slice a2 s2.length ca2, .slice b2 es.length cb2], .pointer (some ⟨B, 0, none⟩), .pointer (some ⟨B + 1, 0, none⟩), .pointer (some ⟨B + 1 + 1, 0, none⟩), .pointer (some ⟨p1, 0, none⟩), .pointer (some ⟨p2, 0, none⟩),
      .pointer (some ⟨B, 0, none⟩), .slice a1 s1.length ca1, .pointer (some ⟨B + 1, 0, none⟩), .slice a2 s2.length ca2, .bool true, .bool false, .bool false, .pointer (some ⟨B, 1, none⟩), .slice b1 es.length cb1, .int .i64 es.length, .pointer (some ⟨B + 1, 1, none⟩), .slice b2 es.length cb2, .int .i64 es.length, .bool false, .bool false,
      .agg #[.slice a1 s1.length ca1, .slice b1 es.length cb1], .slice b1 es.length cb1, .agg #[.slice a2 s2.length ca2, .slice b2 es.length cb2], .slice b2 es.length cb2,
      .func (.func 105) #[] #[.pointer (some ⟨I, 0, none⟩), .pointer (some ⟨I + 1, 0, none⟩)], .agg #[(es[x.val]?.getD dfE).a, (es[x.val]?.getD dfE).b, (es[x.val]?.getD dfE).c], .agg #[(fs[x.val]?.getD dfE).a, (fs[x.val]?.getD dfE).b, (fs[x.val]?.getD dfE).c], undef, undef, undef, undef], defers := [] })
    (fun x a' _ X Y row ⟨p1, p2, g1, g2, h1, h2, h3⟩ hg hr => ⟨p1, p2, g1, g2, h1.keepC (KeepC.grown hg (fun r e => (hr r e).2)), h2.keepC (KeepC.grown hg (fun r e => (hr r e).2)), h3⟩)
    ?assign ?body ?done ?stop
   case assign =>
    rintro l pre ⟨k, hk⟩ X K ⟨h1, h2, h3, h4⟩ hK
    obtain ⟨z1, z2, z3, z4, z5, z6, z7, he⟩ := hsh1 k hk
    obtain ⟨y1, y2, y3, y4, y5, y6, y7, hf⟩ := hsh2 k (by rw [HEL2.out]; exact hk)
    have hs3 := h3.size
    have hbX1 : Below X.heap.size X (X.alloc (.cells #[.bool z1, .slice z2 z3 z4, .slice z5 z6 z7] 54)) := (Below.refl _ _).alloc (Nat.le_refl _) _
    have hbX : Below X.heap.size X ((X.alloc (.cells #[.bool z1, .slice z2 z3 z4, .slice z5 z6 z7] 54)).alloc (.cells #[.bool y1, .slice y2 y3 y4, .slice y5 y6 y7] 54)) := hbX1.alloc (by simp) _
    have kk := KeepC.below hbX
    have HK := Lib.hid hK
    simp only [ratsAt]
    rw [he, hf]
    simp only
    clear hK
    gi_wp2
    refine HK.out _ _ (keepsFrom_below hbX) ⟨hbX.mono (by omega), hbX.block (I + 1) (by omega)⟩ ⟨h1.keepC kk, h2, h3.trans (hbX.mono (by omega)), by simp; omega⟩ ⟨X.heap.size, X.heap.size + 1, h4, by omega, ?_, ?_, ?_⟩
    · simp only [he]; exact (Row.new _ _ _).alloc _
    · simp only [hf]
      have h := Row.new (X.alloc (.cells #[.bool z1, .slice z2 z3 z4, .slice z5 z6 z7] 54)) 54 #[.bool y1, .slice y2 y3 y4, .slice y5 y6 y7]
      simp only [World.size_alloc] at h
      exact h
    · simp only [he, hf]
   case body =>
    rintro l pre ⟨k, hk⟩ a' X hl hrec ⟨h1, h2, h3, h4⟩ ⟨p1, p2, hp1, hp2, hR, hR', rfl⟩ hlt
    have hkf : k < fs.length := by rw [HEL2.out]; exact hk
    obtain ⟨z1, z2, z3, z4, z5, z6, z7, he⟩ := hsh1 k hk
    obtain ⟨y1, y2, y3, y4, y5, y6, y7, hf⟩ := hsh2 k hkf
    simp only at hR hR' ⊢
    rw [he] at hR ⊢
    rw [hf] at hR' ⊢
    simp only at hR hR' ⊢
    have hkq : k < q1.length := by rw [← HEL1.out]; exact hk
    have hkq2 : k < q2.length := by rw [← HLEN.out]; exact hkq
    have hqk : q1[k]? = some q1[k] := List.getElem?_eq_getElem hkq
    have hqk2 : q2[k]? = some q2[k] := List.getElem?_eq_getElem hkq2
    obtain ⟨p, hpe⟩ : ∃ q, q1[k] = q := ⟨_, rfl⟩
    obtain ⟨q, hqe⟩ : ∃ q, q2[k] = q := ⟨_, rfl⟩
    rw [hpe] at hqk
    rw [hqe] at hqk2
    have hek : es[k]? = some es[k] := List.getElem?_eq_getElem hk
    have hfk : fs[k]? = some fs[k] := List.getElem?_eq_getElem hkf
    have hraw := HA1.out.2 k _ _ hek hqk
    have hraw2 := HA2.out.2 k _ _ hfk hqk2
    have e2 : es[k] = ⟨.bool z1, .slice z2 z3 z4, .slice z5 z6 z7⟩ := by rw [hek] at he; exact he
    have f2 : fs[k] = ⟨.bool y1, .slice y2 y3 y4, .slice y5 y6 y7⟩ := by rw [hfk] at hf; exact hf
    rw [e2] at hraw
    rw [f2] at hraw2
    have hlq := HL1.out p (List.mem_of_getElem? hqk)
    have hlq2 := HL2.out q (List.mem_of_getElem? hqk2)
    have hgd : q1[k]?.getD ⟨false, [], []⟩ = p := by rw [hqk]; rfl
    have hgd2 : q2[k]?.getD ⟨false, [], []⟩ = q := by rw [hqk2]; rfl
    obtain ⟨g0, g1, g2, _, _, _⟩ := hR.three
    obtain ⟨j0, j1, j2, _, _, _⟩ := hR'.three
    have hs3 := h3.size
    have hrX := hraw.later (hB.symm ▸ h3 : Below w.heap.size w X)
    have hrX2 := hraw2.later (hB.symm ▸ h3 : Below w.heap.size w X)
    gi_wp2_with fail
    refine roundCall ((sameX_any hrX hrX2 hlq hlq2 (by omega)).mono ?_)
    rintro e w8 ⟨rfl, b8⟩
    have s8 := b8.size
    have R8 := h1.later b8
    have f8 := R8.free 0
    have d8 := R8.cell 0
    by_cases hok : p.rat = q.rat
    · rw [decide_eq_true hok]
      gi_wp2
      refine ⟨keepsFrom_below b8, ⟨b8.mono (by omega), b8.block (I + 1) (by omega)⟩, R8, fun x hx => ?_, h3.trans (b8.mono (by omega)), by omega⟩
      rcases List.mem_append.1 hx with hx | hx
      · exact h2 x hx
      · simp at hx
        subst hx
        simp only
        rw [hgd, hgd2]
        exact hok
    · rw [decide_eq_false hok]
      have R9 : Row (w8.setCell ⟨B + 1 + 1, 0, none⟩ (.bool false)) (B + 1 + 1) 4 #[.bool false] := R8.set 0 _
      gi_wp2
      refine ⟨keepsFrom_set (keepsFrom_below b8) _ _, rfl, R9, ⟨_, List.mem_append_right _ (List.mem_singleton.2 rfl), ?_⟩, (h3.trans (b8.mono (by omega))).setCell (by show B ≤ B + 1 + 1; omega) _⟩
      show (q1[k]?.getD ⟨false, [], []⟩).rat ≠ (q2[k]?.getD ⟨false, [], []⟩).rat
      rw [hgd, hgd2]
      exact hok
   case done =>
    rintro D ys X hD hup ⟨h1, h2, h3, h4⟩ hK
    have hd : dd = true := by
     rw [← HD.out]
     refine allBC_yes HS.out HLEN.out fun k x y hx hy => ?_
     have hk1 : k < q1.length := by
      rcases Nat.lt_or_ge k q1.length with g | g
      · exact g
      · rw [List.getElem?_eq_none g] at hx; cases hx
     have hk2 : k < es.length := by rw [HEL1.out]; exact hk1
     have hm : (⟨k, hk2⟩ : Fin es.length) ∈ ys := by
      have h5 : k ∈ ys.map Fin.val := by rw [show ys.map Fin.val = List.range es.length from hup]; exact List.mem_range.2 hk2
      obtain ⟨z, hz, hv⟩ := List.mem_map.1 h5
      have : z = ⟨k, hk2⟩ := Fin.ext hv
      rw [← this]
      exact hz
     have h5 := h2 _ hm
     simp only at h5
     rw [hx, hy] at h5
     exact decide_eq_true h5
    subst hd
    have c5 := h1.cell 0
    have f5 := h1.free 0
    gi_wp2
    have hK' := (KeepsOthers.setCell X ⟨B + 1 + 1, 0, none⟩ (.bool true)).same D _ hK rfl
    refine ⟨by simp, .inl ⟨_, _, rfl, run_takeDeferred hK', ?_⟩⟩
    have hc5 := cell_kept ((h1.set 0 (.bool true)).cell 0) (grownBy_putObj' _ D (.deferred none)) (fun r e => by cases e; exact ⟨_, hK', rfl⟩)
    simp at hc5
    refine ⟨.bool true, by simp [results, Tryz.f26, go_sem, hc5], rfl, ?_⟩
    rw [hB]
    exact (h3.setCell (p := ⟨B + 1 + 1, 0, none⟩) (by show B ≤ B + 1 + 1; omega) _).trans (belowK_b (n₀ := B) (w := w) (by omega) _ D _ _ (by omega) hK' rfl rfl)
   case stop =>
    rintro D c pre X hD ⟨k, hk, hup⟩ ⟨rfl, h1, ⟨x, hx, hbad⟩, h3⟩ hK
    have hd : dd = false := by
     rw [← HD.out]
     refine allBC_no fun ⟨_, _, h⟩ => hbad ?_
     have hk1 : x.val < q1.length := by rw [← HEL1.out]; exact x.isLt
     have hk2 : x.val < q2.length := by rw [← HLEN.out]; exact hk1
     rw [List.getElem?_eq_getElem hk1, List.getElem?_eq_getElem hk2]
     exact of_decide_eq_true (h x.val _ _ (List.getElem?_eq_getElem hk1) (List.getElem?_eq_getElem hk2))
    subst hd
    gi_wp2
    refine ⟨by simp, .inl ⟨_, _, rfl, run_takeDeferred hK, ?_⟩⟩
    have hc5 := cell_kept (h1.cell 0) (grownBy_putObj' _ D (.deferred none)) (fun r e => by cases e; exact ⟨_, hK, rfl⟩)
    simp at hc5
    refine ⟨.bool false, by simp [results, Tryz.f26, go_sem, hc5], rfl, ?_⟩
    rw [hB]
    exact h3.trans (belowK_b (n₀ := B) (w := w) (by omega) _ D _ _ (by omega) hK rfl rfl)
 · have hd : dd = false := by
    rw [← HD.out]
    exact allBC_no fun ⟨h1, h2, _⟩ => hgo ⟨h1, h2⟩
   subst hd
   by_cases hs : s1 = s2
   · have htt : t = true := by rw [← ht]; exact decide_eq_true hs
     have hne : q1.length ≠ q2.length := fun e => hgo ⟨hs, e⟩
     have hn1 : ((q1.length : Int) != (q2.length : Int)) = true := by simp; omega
     subst htt
     clear hs ht hgo
     go_enter Tryz.func26, Tryz.ntmps26
     go_wp2_with fail
     refine hsame.mono ?_
     rintro e w4 ⟨rfl, b4⟩
     obtain ⟨k0, k1, _, _⟩ := (R0.later b4).two
     obtain ⟨k2, k3, _, _⟩ := (R1.later b4).two
     have R4 := R2.later b4
     have f4 := R4.free 0
     have x4 := R4.cell 0
     have R5 : Row (w4.setCell ⟨B + 1 + 1, 0, none⟩ (.bool false)) (B + 1 + 1) 4 #[.bool false] := R4.set 0 _
     have y4 := R5.cell 0
     simp at y4
     clear R5
     go_wp2_with fail
     refine bodyPost_ret (v := .bool false) (by simp [results, Tryz.results26, go_sem, y4]) rfl ⟨rfl, ?_⟩
     rw [hB]
     exact (hb2.trans (b4.mono (by omega))).setCell (p := ⟨B + 1 + 1, 0, none⟩) (by show B ≤ B + 1 + 1; omega) _
   · have htt : t = false := by rw [← ht]; exact decide_eq_false hs
     subst htt
     go_enter Tryz.func26, Tryz.ntmps26
     go_wp2_with fail
     refine hsame.mono ?_
     rintro e w4 ⟨rfl, b4⟩
     have R4 := R2.later b4
     have f4 := R4.free 0
     have x4 := R4.cell 0
     have R5 : Row (w4.setCell ⟨B + 1 + 1, 0, none⟩ (.bool false)) (B + 1 + 1) 4 #[.bool false] := R4.set 0 _
     have y4 := R5.cell 0
     simp at y4
     clear R5
     go_wp2_with fail
     refine bodyPost_ret (v := .bool false) (by simp [results, Tryz.results26, go_sem, y4]) rfl ⟨rfl, ?_⟩
     rw [hB]
     exact (hb2.trans (b4.mono (by omega))).setCell (p := ⟨B + 1 + 1, 0, none⟩) (by show B ≤ B + 1 + 1; omega) _
end
section
open Go.RowKit Go.ChangeShapes Go.WideShapes Go.ChangeAt Go.Joins Go.Deep
theorem DotQ.only {base n g : Nat} {w w' : World} {r : Value} {x : Rat} {c : Int} {cs : Array Value} (h : DotQ base w r x n c) (R : Row w g 54 cs) (k : Only g w w') : DotQ base w' r x n c := ⟨fun e => (h.1 e).only R k, h.2⟩
theorem TenC.only {base n g : Nat} {w w' : World} {r : Value} {s : List Int} {L : List Rat} {c : Int} {cs : Array Value} (h : TenC base w r s L n c) (R : Row w g 26 cs) (k : Only g w w') : TenC base w' r s L n c := ⟨fun e => (h.1 e).far R (by decide) (by decide) (by decide) k.block, h.2⟩
end
section
open Go.RowKit
theorem addRR_any {n : Nat} {w : World} {u v : Value} {X Y : Rat} (hu : ArgR w u X n) (hv : ArgR w v Y n) (hn : n ≤ 1000000000) :
 Calls Tryz.prog 32 #[u, v] w fun e w' => ∃ r, e = .returned r ∧ ResR w.heap.size w' r (X + Y) (3 * n + 6) ∧ Below w.heap.size w w' := by
 obtain ⟨xs, ds, a1, a2, c1, c2, rfl, A, B, hX1, hX2, hx, hd⟩ := hu
 obtain ⟨zs, es, a3, a4, c3, c4, rfl, C, D, hY1, hY2, hz, he⟩ := hv
 obtain ⟨m1, hm1⟩ : ∃ m, decide (X.num < 0) = m := ⟨_, rfl⟩
 obtain ⟨m2, hm2⟩ : ∃ m, decide (Y.num < 0) = m := ⟨_, rfl⟩
 have hsame : m1 = m2 → ratOf m1 (valD xs * valD es + valD zs * valD ds) (valD ds * valD es) = X + Y := by
  intro h; rw [hX1, hX2, hY1, hY2, ← hm1]; exact rat_add_same X Y (by rw [hm1, hm2, h])
 have hleft : m1 ≠ m2 → ratOf m1 (valD xs * valD es - valD zs * valD ds) (valD ds * valD es) = X + Y := by
  intro h; rw [hX1, hX2, hY1, hY2, ← hm1]; exact rat_add_left X Y (by rw [hm1, hm2]; exact h)
 have hright : m1 ≠ m2 → ratOf m2 (valD zs * valD ds - valD xs * valD es) (valD ds * valD es) = X + Y := by
  intro h; rw [hX1, hX2, hY1, hY2, ← hm2]; exact rat_add_right X Y (by rw [hm1, hm2]; exact h)
 rw [hm1, hm2]
 have HS := Lib.hid hsame
 have HL := Lib.hid hleft
 have HR := Lib.hid hright
 clear hsame hleft hright hX1 hX2 hY1 hY2 hm1 hm2
 obtain ⟨W, hW⟩ : ∃ W, (((w.alloc (.cells #[.bool m1, .slice a1 xs.length c1, .slice a2 ds.length c2] 58)).alloc (.cells #[.bool m2, .slice a3 zs.length c3, .slice a4 es.length c4] 58)).alloc (.cells #[.bool false, .slice none 0 0, .slice none 0 0] 58)) = W := ⟨_, rfl⟩
 have R0 : Row W (w.heap.size) 58 #[.bool m1, .slice a1 xs.length c1, .slice a2 ds.length c2] := by rw [← hW]; exact (((Row.new _ _ _).alloc _).alloc _)
 have R1 : Row W (w.heap.size + 1) 58 #[.bool m2, .slice a3 zs.length c3, .slice a4 es.length c4] := by rw [← hW]; have h := (Row.new (w.alloc (.cells #[.bool m1, .slice a1 xs.length c1, .slice a2 ds.length c2] 58)) 58 #[.bool m2, .slice a3 zs.length c3, .slice a4 es.length c4]); simp only [World.size_alloc] at h; exact (h.alloc _)
 have R2 : Row W (w.heap.size + 1 + 1) 58 #[.bool false, .slice none 0 0, .slice none 0 0] := by rw [← hW]; have h := (Row.new ((w.alloc (.cells #[.bool m1, .slice a1 xs.length c1, .slice a2 ds.length c2] 58)).alloc (.cells #[.bool m2, .slice a3 zs.length c3, .slice a4 es.length c4] 58)) 58 #[.bool false, .slice none 0 0, .slice none 0 0]); simp only [World.size_alloc] at h; exact h
 have hBW : Below w.heap.size w W := by rw [← hW]; exact ((((Below.refl _ _).alloc (by (try simp) <;> omega) _).alloc (by (try simp) <;> omega) _).alloc (by (try simp) <;> omega) _)
 have hsW : w.heap.size + 1 + 1 + 1 ≤ W.heap.size := by rw [← hW]; simp
 have mkS : ∀ X, Kept (w.heap.size + 1 + 1 + 1) W X → X.cell? ⟨w.heap.size, 0, none⟩ = some (.bool m1) ∧ X.cell? ⟨w.heap.size, 1, none⟩ = some (.slice a1 xs.length c1) ∧ X.cell? ⟨w.heap.size, 2, none⟩ = some (.slice a2 ds.length c2) ∧ X.cell? ⟨w.heap.size + 1, 0, none⟩ = some (.bool m2) ∧ X.cell? ⟨w.heap.size + 1, 1, none⟩ = some (.slice a3 zs.length c3) ∧ X.cell? ⟨w.heap.size + 1, 2, none⟩ = some (.slice a4 es.length c4) ∧ Kept (w.heap.size + 1 + 1 + 1) W X := fun X h => ⟨(R0.kept h (by omega)).cell 0, (R0.kept h (by omega)).cell 1, (R0.kept h (by omega)).cell 2, (R1.kept h (by omega)).cell 0, (R1.kept h (by omega)).cell 1, (R1.kept h (by omega)).cell 2, h⟩
 go_enter Tryz.func32, Tryz.ntmps32
 go_wp2_with fail
 clear hW
 go_region_held3 (fun X => X.cell? ⟨w.heap.size, 0, none⟩ = some (.bool m1) ∧ X.cell? ⟨w.heap.size, 1, none⟩ = some (.slice a1 xs.length c1) ∧ X.cell? ⟨w.heap.size, 2, none⟩ = some (.slice a2 ds.length c2) ∧ X.cell? ⟨w.heap.size + 1, 0, none⟩ = some (.bool m2) ∧ X.cell? ⟨w.heap.size + 1, 1, none⟩ = some (.slice a3 zs.length c3) ∧ X.cell? ⟨w.heap.size + 1, 2, none⟩ = some (.slice a4 es.length c4) ∧ Kept (w.heap.size + 1 + 1 + 1) W X)
  (((refine mkS _ ?_; (repeat' (first | exact Kept.refl _ _ | refine Kept.drew ?_ | refine Kept.alloc ?_ _ | refine Kept.set ?_ _ _ | refine Kept.below ?_ (by assumption))))))
  ((first
   | (go_at_call 77; (with_reducible refine (mulD_any (C.later (Kept.under (show Kept (w.heap.size + 1 + 1 + 1) W _ by (repeat' (first | exact Kept.refl _ _ | refine Kept.drew ?_ | refine Kept.alloc ?_ _ | refine Kept.set ?_ _ _ | refine Kept.below ?_ (by assumption)))) hBW (by omega) (by omega))) (B.later (Kept.under (show Kept (w.heap.size + 1 + 1 + 1) W _ by (repeat' (first | exact Kept.refl _ _ | refine Kept.drew ?_ | refine Kept.alloc ?_ _ | refine Kept.set ?_ _ _ | refine Kept.below ?_ (by assumption)))) hBW (by omega) (by omega))) (by omega) (by omega)).mono ?_); rintro e w2 ⟨r2, rfl, z2, q2, l2, hb2⟩; obtain ⟨ad2, cp2, rfl, q2, A2⟩ := q2.slice)
   | (go_at_call 77; (with_reducible refine (mulD_any (A.later (Kept.under (show Kept (w.heap.size + 1 + 1 + 1) W _ by (repeat' (first | exact Kept.refl _ _ | refine Kept.drew ?_ | refine Kept.alloc ?_ _ | refine Kept.set ?_ _ _ | refine Kept.below ?_ (by assumption)))) hBW (by omega) (by omega))) (D.later (Kept.under (show Kept (w.heap.size + 1 + 1 + 1) W _ by (repeat' (first | exact Kept.refl _ _ | refine Kept.drew ?_ | refine Kept.alloc ?_ _ | refine Kept.set ?_ _ _ | refine Kept.below ?_ (by assumption)))) hBW (by omega) (by omega))) (by omega) (by omega)).mono ?_); rintro e w1 ⟨r1, rfl, z1, q1, l1, hb1⟩; obtain ⟨ad1, cp1, rfl, q1, A1⟩ := q1.slice)))
 have hK2 : Below W.heap.size W w2 := Kept.under (g := W.heap.size) (show Kept (W.heap.size) W w2 by (repeat' (first | exact Kept.refl _ _ | refine Kept.drew ?_ | refine Kept.alloc ?_ _ | refine Kept.set ?_ _ _ | refine Kept.below ?_ (by assumption)))) (Below.refl _ _) (by omega) (by omega)
 have hB2 : Below w.heap.size w w2 := hBW.trans (hK2.mono (by omega))
 have hs2 := hK2.size
 have A1' := A1.later hb2
 have e1 := q1.eq
 have e2 := q2.eq
 have E1 := Lib.hid e1
 have E2 := Lib.hid e2
 have B2 := B.later hB2
 have D2 := D.later hB2
 replace R0 := R0.later hK2
 replace R1 := R1.later hK2
 replace R2 := R2.later hK2
 obtain ⟨p0, p1, p2, _, _, _⟩ := R0.three
 obtain ⟨o0, o1, o2, _, _, _⟩ := R1.three
 clear mkS e1 e2 q1 q2 hb1 hK2 A B C D A1
 go_wp2_with fail
 refine (mulD_any B2 D2 (by omega) (by omega)).mono ?_
 rintro e w3 ⟨r3, rfl, z3, q3, l3, hb3⟩
 obtain ⟨ad3, cp3, rfl, q3, A3⟩ := q3.slice
 have hs3 := hb3.size
 have e3 := q3.eq
 have E3 := Lib.hid e3
 have Q0 := R0.later hb3
 have Q1 := R1.later hb3
 have Q2 := R2.later hb3
 have A1' := A1'.later hb3
 have A2' := A2.later hb3
 have hB3 : Below w.heap.size w w3 := hB2.trans (hb3.mono (by omega))
 clear p0 p1 p2 o0 o1 o2 e3 q3
 obtain ⟨p0, p1, p2, _, _, _⟩ := Q0.three
 obtain ⟨o0, o1, o2, _, _, _⟩ := Q1.three
 by_cases hm : m1 = m2
 · subst hm
   have HS2 := Lib.hid (HS.out rfl)
   clear HS HL HR
   have hbb : (m1 == m1) = true := by simp
   have mkS : ∀ X, Kept (w.heap.size + 1 + 1) w3 X → X.cell? ⟨w.heap.size, 0, none⟩ = some (.bool m1) ∧ X.cell? ⟨w.heap.size, 1, none⟩ = some (.slice a1 xs.length c1) ∧ X.cell? ⟨w.heap.size, 2, none⟩ = some (.slice a2 ds.length c2) ∧ X.cell? ⟨w.heap.size + 1, 0, none⟩ = some (.bool m1) ∧ X.cell? ⟨w.heap.size + 1, 1, none⟩ = some (.slice a3 zs.length c3) ∧ X.cell? ⟨w.heap.size + 1, 2, none⟩ = some (.slice a4 es.length c4) ∧ Kept (w.heap.size + 1 + 1) w3 X := fun X h => ⟨(Q0.kept h (by omega)).cell 0, (Q0.kept h (by omega)).cell 1, (Q0.kept h (by omega)).cell 2, (Q1.kept h (by omega)).cell 0, (Q1.kept h (by omega)).cell 1, (Q1.kept h (by omega)).cell 2, h⟩
   go_wp2_with fail
   clear p0 p1 p2 o0 o1 o2
   go_region_held3 (fun X => X.cell? ⟨w.heap.size, 0, none⟩ = some (.bool m1) ∧ X.cell? ⟨w.heap.size, 1, none⟩ = some (.slice a1 xs.length c1) ∧ X.cell? ⟨w.heap.size, 2, none⟩ = some (.slice a2 ds.length c2) ∧ X.cell? ⟨w.heap.size + 1, 0, none⟩ = some (.bool m1) ∧ X.cell? ⟨w.heap.size + 1, 1, none⟩ = some (.slice a3 zs.length c3) ∧ X.cell? ⟨w.heap.size + 1, 2, none⟩ = some (.slice a4 es.length c4) ∧ Kept (w.heap.size + 1 + 1) w3 X)
    (((refine mkS _ ?_; (repeat' (first | exact Kept.refl _ _ | refine Kept.drew ?_ | refine Kept.alloc ?_ _ | refine Kept.set ?_ _ _ | refine Kept.below ?_ (by assumption))))))
    ((first
     | (go_at_call 71; refine (makeRR_any (n := 3 * n + 4) A4 (A3.later hb4d) (by omega) (by omega) (by omega)).mono ?_; rintro e w5 ⟨r5, rfl, q5, hb5⟩; rw [HV.out] at q5; obtain ⟨fs, gs, f1, f2, j1, j2, e5, _⟩ := id q5; subst e5; have P5 := (Q2.later hb4d).later hb5; obtain ⟨u0, u1, u2, g0, g1, g2⟩ := P5.three)
     | (go_at_call 78; refine (addD_any (A1'.later (Below.refl _ w3).drew) (A2'.later (Below.refl _ w3).drew) (by omega) (by omega)).mono ?_; rintro e w4 ⟨r4, rfl, z4, q4, l4, hb4⟩; have hb4d : Below w3.heap.size w3 w4 := ⟨hb4.os, hb4.tape, hb4.output, hb4.size, hb4.block⟩; obtain ⟨ad4, cp4, rfl, q4, A4⟩ := q4.slice; have HV := Lib.hid ((show ratOf m1 (valD z4) (valD z3) = ratOf m1 (valD xs * valD es + valD zs * valD ds) (valD ds * valD es) by rw [q4.eq, E1.out, E2.out, E3.out]).trans HS2.out))))
   have hs4 := hb4d.size
   go_wp2_with fail
   refine bodyPost_ret (v := .agg #[.bool (decide ((X + Y).num < 0)), .slice f1 fs.length j1, .slice f2 gs.length j2]) (by simp [results, Tryz.results32, go_sem, u0, u1, u2]) rfl ⟨_, rfl, ((q5.far P5 (by decide) (kept3 _ _ _)).mono (by omega)).more (by omega), below_set3 ((hB3.trans (hb4d.mono (by omega))).trans (hb5.mono (by omega))) (by omega) _ _ _⟩
 · have hbb : (m1 == m2) = false := by simpa using hm
   by_cases hlt : valD z1 < valD z2
   · have hcmp := cmpD_any A1' A2' (by omega) (by omega)
     rw [sign_lt hlt] at hcmp
     go_wp2_with fail
     refine hcmp.mono ?_
     rintro e w4 ⟨rfl, hb4⟩
     have hs4 := hb4.size
     have A1b := A1'.later hb4
     have A2b := A2'.later hb4
     have A3b := A3.later hb4
     have Q1b := Q1.later hb4
     have Q2b := Q2.later hb4
     clear hcmp p0 p1 p2 o0 o1 o2
     go_wp2_with fail
     refine (subD_any A2b A1b (by omega) (by omega)).mono ?_
     rintro e w5 ⟨r5, f5, rfl, hb5, _, h5⟩
     obtain ⟨rfl, z5, q5, l5⟩ := h5 (by omega)
     have hs5 := hb5.size
     obtain ⟨ad5, cp5, rfl, q5, A5⟩ := q5.slice
     have A3c := A3b.later hb5
     have Q1c := Q1b.later hb5
     have Q2c := Q2b.later hb5
     obtain ⟨o0, o1, o2, _, _, _⟩ := Q1c.three
     have HV := Lib.hid ((show ratOf m2 (valD z5) (valD z3) = ratOf m2 (valD zs * valD ds - valD xs * valD es) (valD ds * valD es) by rw [q5.eq, E1.out, E2.out, E3.out]).trans (HR.out hm))
     clear h5
     go_wp2_with fail
     refine (makeRR_any (n := 3 * n + 4) A5 A3c (by omega) (by omega) (by omega)).mono ?_
     rintro e w6 ⟨r6, rfl, q6, hb6⟩
     rw [HV.out] at q6
     obtain ⟨fs, gs, f1, f2, j1, j2, e6, _⟩ := id q6
     subst e6
     have P6 := Q2c.later hb6
     clear o0 o1 o2
     obtain ⟨u0, u1, u2, g0, g1, g2⟩ := P6.three
     go_wp2_with fail
     refine bodyPost_ret (v := .agg #[.bool (decide ((X + Y).num < 0)), .slice f1 fs.length j1, .slice f2 gs.length j2]) (by simp [results, Tryz.results32, go_sem, u0, u1, u2]) rfl ⟨_, rfl, ((q6.far P6 (by decide) (kept3 _ _ _)).mono (by omega)).more (by omega), below_set3 (((hB3.trans (hb4.mono (by omega))).trans (hb5.mono (by omega))).trans (hb6.mono (by omega))) (by omega) _ _ _⟩
   · have hge : decide ((0 : Int) ≤ sign (valD z1) (valD z2)) = true := decide_eq_true (by unfold sign; rw [if_neg hlt]; split <;> omega)
     have hcmp := cmpD_any A1' A2' (by omega) (by omega)
     obtain ⟨sg, hsg⟩ : ∃ s, sign (valD z1) (valD z2) = s := ⟨_, rfl⟩
     rw [hsg] at hge hcmp
     clear hsg
     go_wp2_with fail
     refine hcmp.mono ?_
     rintro e w4 ⟨rfl, hb4⟩
     have hs4 := hb4.size
     have A1b := A1'.later hb4
     have A2b := A2'.later hb4
     have A3b := A3.later hb4
     have Q0b := Q0.later hb4
     have Q2b := Q2.later hb4
     clear hcmp p0 p1 p2 o0 o1 o2
     go_wp2_with fail
     refine (subD_any A1b A2b (by omega) (by omega)).mono ?_
     rintro e w5 ⟨r5, f5, rfl, hb5, _, h5⟩
     obtain ⟨rfl, z5, q5, l5⟩ := h5 (by omega)
     have hs5 := hb5.size
     obtain ⟨ad5, cp5, rfl, q5, A5⟩ := q5.slice
     have A3c := A3b.later hb5
     have Q0c := Q0b.later hb5
     have Q2c := Q2b.later hb5
     obtain ⟨o0, o1, o2, _, _, _⟩ := Q0c.three
     have HV := Lib.hid ((show ratOf m1 (valD z5) (valD z3) = ratOf m1 (valD xs * valD es - valD zs * valD ds) (valD ds * valD es) by rw [q5.eq, E1.out, E2.out, E3.out]).trans (HL.out hm))
     clear h5
     go_wp2_with fail
     refine (makeRR_any (n := 3 * n + 4) A5 A3c (by omega) (by omega) (by omega)).mono ?_
     rintro e w6 ⟨r6, rfl, q6, hb6⟩
     rw [HV.out] at q6
     obtain ⟨fs, gs, f1, f2, j1, j2, e6, _⟩ := id q6
     subst e6
     have P6 := Q2c.later hb6
     clear o0 o1 o2
     obtain ⟨u0, u1, u2, g0, g1, g2⟩ := P6.three
     go_wp2_with fail
     refine bodyPost_ret (v := .agg #[.bool (decide ((X + Y).num < 0)), .slice f1 fs.length j1, .slice f2 gs.length j2]) (by simp [results, Tryz.results32, go_sem, u0, u1, u2]) rfl ⟨_, rfl, ((q6.far P6 (by decide) (kept3 _ _ _)).mono (by omega)).more (by omega), below_set3 (((hB3.trans (hb4.mono (by omega))).trans (hb5.mono (by omega))).trans (hb6.mono (by omega))) (by omega) _ _ _⟩
end
section
open Go.RowKit
theorem orL_three (x y z : Int) : orL [x, y, z] = if x ≠ 0 then x else if y ≠ 0 then y else z := by
 unfold orL
 by_cases h : x = 0
 · rw [if_pos h, if_neg (by simp [h]), orL_two]
 · rw [if_neg h, if_pos h]
def twoC (c : Int) (ok : Bool) : Int := if c ≠ 0 then c else if ok = true then 0 else 17
theorem dotC_parts {s1 s2 : List Int} {q1 q2 : List Q3} (h : dotC s1 s2 q1 q2 = 0) : mayT s1 q1 = 0 ∧ mayT s2 q2 = 0 ∧ s1 = s2 := by
 unfold dotC at h
 split at h
 · rename_i h1; exact absurd h h1
 · rename_i h1
   split at h
   · rename_i h2; exact absurd h h2
   · rename_i h2
     split at h
     · cases h
     · rename_i h3
       exact ⟨by simpa using h1, by simpa using h2, by simpa using h3⟩
theorem ofTwo_any {F : Nat} {cap : Array Value} {ok : Rat → Rat → Bool} {f : Rat → Rat → Rat} {n N : Nat} {w : World} {u v : Value} {s1 s2 : List Int} {q1 q2 : List Q3} {a1 b1 a2 b2 : Option Addr} {ca1 cb1 ca2 cb2 : Nat} (T1 : TensQ w u s1 q1 a1 ca1 b1 cb1) (T2 : TensQ w v s2 q2 a2 ca2 b2 cb2) (hs1 : s1.length ≤ 17592186044416) (hs2 : s2.length ≤ 17592186044416) (hq1 : q1.length ≤ 1000000) (hq2 : q2.length ≤ 1000000) (hl1 : lensQ q1 n) (hl2 : lensQ q2 n) (hn : n ≤ 1000000)
 (heF : ∀ args w, (callFunc F args).run Tryz.prog w = .ok (.enter F args) w)
 (hdo : ∀ (W : World) (x y : Value) (p q : Q3), p ∈ q1 → q ∈ q2 → Below w.heap.size w W → RawQ W x p → RawQ W y q → Calls Tryz.prog F (#[x, y] ++ cap) W fun e w' => Op2 W.heap.size w' e (ok p.rat q.rat) (f p.rat q.rat) N ∧ Below W.heap.size W w') :
 Calls Tryz.prog 73 #[u, v, .func (.func F) #[] cap] w fun e w' => One w.heap.size w' e (twoC (dotC s1 s2 q1 q2) (zipOk ok q1 q2)) s1 (zipQ f q1 q2) N ∧ Below w.heap.size w w' := by
 have HT1 := Lib.hid T1
 have HT2 := Lib.hid T2
 have HL1 := Lib.hid hl1
 have HL2 := Lib.hid hl2
 have HDO := Lib.hid hdo
 obtain rfl := T1.is
 obtain rfl := T2.is
 obtain ⟨W, hW⟩ : ∃ W, (((w.alloc (.cells #[.slice a1 s1.length ca1, .slice b1 q1.length cb1] 26)).alloc (.cells #[.slice a2 s2.length ca2, .slice b2 q2.length cb2] 26)).alloc (.cells #[.slice none 0 0, .slice none 0 0] 26)) = W := ⟨_, rfl⟩
 have R0 : Row W (w.heap.size) 26 #[.slice a1 s1.length ca1, .slice b1 q1.length cb1] := by rw [← hW]; have h := Row.new w 26 #[.slice a1 s1.length ca1, .slice b1 q1.length cb1]; (try simp only [World.size_alloc] at h); exact ((h.alloc _).alloc _)
 have R1 : Row W (w.heap.size + 1) 26 #[.slice a2 s2.length ca2, .slice b2 q2.length cb2] := by rw [← hW]; have h := Row.new (w.alloc (.cells #[.slice a1 s1.length ca1, .slice b1 q1.length cb1] 26)) 26 #[.slice a2 s2.length ca2, .slice b2 q2.length cb2]; (try simp only [World.size_alloc] at h); exact (h.alloc _)
 have R2 : Row W (w.heap.size + 1 + 1) 26 #[.slice none 0 0, .slice none 0 0] := by rw [← hW]; have h := Row.new ((w.alloc (.cells #[.slice a1 s1.length ca1, .slice b1 q1.length cb1] 26)).alloc (.cells #[.slice a2 s2.length ca2, .slice b2 q2.length cb2] 26)) 26 #[.slice none 0 0, .slice none 0 0]; (try simp only [World.size_alloc] at h); exact h
 have hBW : Below w.heap.size w W := by rw [← hW]; exact ((((Below.refl _ _).alloc (by (try simp) <;> omega) _).alloc (by (try simp) <;> omega) _).alloc (by (try simp) <;> omega) _)
 have hsW : W.heap.size = w.heap.size + 1 + 1 + 1 := by rw [← hW]; simp
 have hm1 := fun (X : World) (hX : Below W.heap.size W X) => mayT7_big (HT1.out.later (hBW.trans (hX.mono (by omega)))) (by omega) HL1.out (by omega)
 have hm2 := fun (X : World) (hX : Below W.heap.size W X) => mayT7_big (HT2.out.later (hBW.trans (hX.mono (by omega)))) (by omega) HL2.out (by omega)
 have hmp := fun (X : World) (hX : Below W.heap.size W X) => mayPair_any (HT1.out.later (hBW.trans (hX.mono (by omega)))) (HT2.out.later (hBW.trans (hX.mono (by omega)))) hs1 hs2
 obtain ⟨m1, hm1e⟩ : ∃ m, mayT s1 q1 = m := ⟨_, rfl⟩
 obtain ⟨m2, hm2e⟩ : ∃ m, mayT s2 q2 = m := ⟨_, rfl⟩
 obtain ⟨m3, hm3e⟩ : ∃ m : Int, (if s1 = s2 then 0 else 13) = m := ⟨_, rfl⟩
 rw [hm1e] at hm1
 rw [hm2e] at hm2
 rw [hm3e] at hmp
 have hcode : dotC s1 s2 q1 q2 = orL [m1, m2, m3] := by
  rw [orL_three]
  unfold dotC
  rw [hm1e, hm2e, ← hm3e]
  by_cases h : s1 = s2
  · simp [h]
  · simp [h]
 have mkS : ∀ X, Below W.heap.size W X → X.cell? ⟨w.heap.size, 0, none⟩ = some (.slice a1 s1.length ca1) ∧ X.cell? ⟨w.heap.size, 1, none⟩ = some (.slice b1 q1.length cb1) ∧ X.cell? ⟨w.heap.size + 1, 0, none⟩ = some (.slice a2 s2.length ca2) ∧ X.cell? ⟨w.heap.size + 1, 1, none⟩ = some (.slice b2 q2.length cb2) := fun X h => by
  obtain ⟨x0, x1, _⟩ := (R0.later h).two
  obtain ⟨x2, x3, _⟩ := (R1.later h).two
  exact ⟨x0, x1, x2, x3⟩
 have B0 : Below W.heap.size W W.drew := (Below.refl _ W).drew
 obtain ⟨c, hc⟩ : ∃ c, orL [m1, m2, m3] = c := ⟨_, rfl⟩
 have HC := Lib.hid (hcode.trans hc)
 have HC2 := Lib.hid hc
 rw [hcode, hc]
 obtain ⟨L, hL⟩ : ∃ L, zipQ f q1 q2 = L := ⟨_, rfl⟩
 obtain ⟨t, ht⟩ : ∃ t, zipOk ok q1 q2 = t := ⟨_, rfl⟩
 obtain ⟨d, hd⟩ : ∃ d, twoC c t = d := ⟨_, rfl⟩
 rw [hL, ht, hd]
 have HLE := Lib.hid hL
 have HTE := Lib.hid ht
 have HDE := Lib.hid hd
 clear hL ht hd
 clear T1 T2 hm1e hm2e hm3e hcode hc hl1 hl2 hdo
 go_enter Tryz.func73, Tryz.ntmps73
 go_wp2_with fail
 (try rw [hW])
 clear hW
 refine wp_region_held (S := fun X => X.cell? ⟨w.heap.size, 0, none⟩ = some (.slice a1 s1.length ca1) ∧ X.cell? ⟨w.heap.size, 1, none⟩ = some (.slice b1 q1.length cb1) ∧ X.cell? ⟨w.heap.size + 1, 0, none⟩ = some (.slice a2 s2.length ca2) ∧ X.cell? ⟨w.heap.size + 1, 1, none⟩ = some (.slice b2 q2.length cb2)) (by kernel_rfl) ?_
 have hHeld := mkS _ B0
 refine todo [0, 2, 4, 5] ?_
 iterate 4
  refine todoH (v := ?_) rfl (by kernel_rfl) (fun _ _ _ h => h) (by assumption) (Or.inl ⟨by rfl, ?_⟩) ?_
  rotate_left
  · intro w hSw; (try dsimp only at hSw); go_simp; (try with_reducible rfl)
  try simp only [Act.put, nA, nB, nC, nD, nE, nF]
 refine todone ?_
 refine wpAnyH_ready (rs := [1]) (by kernel_rfl) (by simp) ?_
 refine AllReadyH.cons rfl (fun K hK => ?sq1c1) AllReadyH.nil
 go_simp
 refine (hm1 _ B0).mono ?_
 rintro e y1 ⟨rfl, hy⟩
 have B1 : Below W.heap.size W y1 := B0.trans (hy.mono B0.size)
 have D1 := hy
 clear hy
 go_simp
 refine hK.out _ _ ?kq1c1 (fun hHeld => ?mq1c1)
 case kq1c1 =>
  try dsimp only
  exact mkS _ B1
 clear hK K
 try simp only [Act.put, nD, nE, nF]
 refine wpAnyH_ready (rs := [3]) (by kernel_rfl) (by simp) ?_
 refine AllReadyH.cons rfl (fun K hK => ?sq2c3) AllReadyH.nil
 go_simp
 refine (hm2 _ B1).mono ?_
 rintro e y2 ⟨rfl, hy⟩
 have B2 : Below W.heap.size W y2 := B1.trans (hy.mono B1.size)
 have D2 := hy
 clear hy
 go_simp
 refine hK.out _ _ ?kq2c3 (fun hHeld => ?mq2c3)
 case kq2c3 =>
  try dsimp only
  exact mkS _ B2
 clear hK K
 try simp only [Act.put, nD, nE, nF]
 refine wpAnyH_ready (rs := [6]) (by kernel_rfl) (by simp) ?_
 refine AllReadyH.cons rfl (fun K hK => ?sq3c6) AllReadyH.nil
 go_simp
 refine (hmp _ B2).mono ?_
 rintro e y3 ⟨rfl, hy⟩
 have B3 : Below W.heap.size W y3 := B2.trans (hy.mono B2.size)
 have D3 := hy
 clear hy
 go_simp
 refine hK.out _ _ ?kq3c6 (fun hHeld => ?mq3c6)
 case kq3c6 =>
  try dsimp only
  exact mkS _ B3
 clear hK K
 try simp only [Act.put, nD, nE, nF]
 have z3 := B3.size
 have A3 : Below W.heap.size W (y3.alloc (.cells #[.int .i64 m1, .int .i64 m2, .int .i64 m3] 29)) := B3.alloc (by omega) _
 refine wpAnyH_ready (rs := [7]) (by kernel_rfl) (by simp) ?_
 refine AllReadyH.cons rfl (fun K hK => ?sal3) AllReadyH.nil
 go_simp
 refine hK.out _ _ ?kal3 (fun hHeld => ?mal3)
 case kal3 =>
  try dsimp only
  exact mkS _ A3
 clear hK K
 try simp only [Act.put, nD, nE, nF]
 refine wpAnyH_ready (rs := [8]) (by kernel_rfl) (by simp) ?_
 refine AllReadyH.cons rfl (fun K hK => ?sor3) AllReadyH.nil
 go_simp
 refine (or_any (xs := [m1, m2, m3]) (b := y3.heap.size) (fun k hk => by
  have R := Row.new y3 29 #[.int .i64 m1, .int .i64 m2, .int .i64 m3]
  simp only [List.length_cons, List.length_nil] at hk
  by_cases h0 : k = 0
  · subst h0; exact R.cell 0
  by_cases h1 : k = 1
  · subst h1; exact R.cell 1
  by_cases h2 : k = 2
  · subst h2; exact R.cell 2
  · omega) (by simp)).mono ?_
 rintro e y4 ⟨rfl, rfl⟩
 have B4 := A3
 go_simp
 refine hK.out _ _ ?kor3 (fun hHeld => ?mor3)
 case kor3 =>
  try dsimp only
  exact mkS _ A3
 clear hK K
 try simp only [Act.put, nD, nE, nF]
 rw [HC2.out]
 refine wpAnyH_ready (rs := [9]) (by kernel_rfl) (by simp) ?_
 refine AllReadyH.cons rfl (fun K hK => ?sas) AllReadyH.nil
 go_simp
 refine hK.out _ _ ?kas (fun hHeld => ?mas)
 case kas =>
  try dsimp only
  exact mkS _ A3
 clear hK K
 try simp only [Act.put, nD, nE, nF]
 refine wpAnyH_done (by kernel_rfl) ?_ _
 (try dsimp only [Straight])
 obtain ⟨y4, hy4⟩ : ∃ y4, y3.alloc (.cells #[.int .i64 m1, .int .i64 m2, .int .i64 m3] 29) = y4 := ⟨_, rfl⟩
 rw [hy4] at A3 ⊢
 obtain ⟨x0, x1, x2, x3⟩ := mkS _ A3
 have P1 := R2.later A3
 have Q0 := R0.later A3
 have s4 := A3.size
 have hB4 : Below w.heap.size w y4 := hBW.trans (A3.mono (by omega))
 have H1 := Lib.hid hm1
 clear hy4 hm1 hm2 hmp D1 D2 D3 B1 B2 B3 z3
 by_cases h0 : c = 0
 · subst h0
   obtain ⟨hv1, hv2, hs⟩ := dotC_parts HC.out
   have hlen : q2.length = q1.length := by
    have g1 := (mayT_valid hv1).1
    have g2 := (mayT_valid hv2).1
    rw [← hs] at g2
    omega
   have hj := joined_any (ok := ok) (f := f) (N := N) (HT1.out.later hB4).el (HT2.out.later hB4).el hlen hq1 heF (fun X x y p q hp hq hX hx hy => HDO.out X x y p q hp hq (hB4.trans (hX.mono (by omega))) hx hy)
   rw [HLE.out, HTE.out] at hj
   have HJ := Lib.hid hj
   clear hj hv1 hv2 hs hlen mkS
   go_wp2_with fail
   refine HJ.out.mono ?_
   rintro e y5 ⟨⟨ht, r, rfl, RO⟩ | ⟨ht, rfl⟩, hb5⟩
   · have hd0 : d = 0 := by rw [← HDE.out, ht]; rfl
     obtain ⟨b', cb', rfl⟩ := rowO_slice RO
     have s5 := hb5.size
     obtain ⟨k0, k1, _, _⟩ := (Q0.later hb5).two
     have P5 := P1.later hb5
     have HO := Lib.hid RO
     have hsh := shaped_any (b := b') (n := L.length) (cb := cb') ((HT1.out.later hB4).later hb5).sh HT1.out.nila hs1
     have HSH := Lib.hid hsh
     obtain ⟨l, hl⟩ : ∃ l, L.length = l := ⟨_, rfl⟩
     rw [hl] at hsh ⊢
     have HLL := Lib.hid hl
     have hSH := Lib.hid hsh
     clear hsh hl RO HSH
     go_wp2_with fail
     refine hSH.out.mono ?_
     rintro e y6 ⟨a', ca', rfl, RS, hb6⟩
     have s6 := hb6.size
     have P6 := P5.later hb6
     obtain ⟨u0, u1, g0, g1⟩ := P6.two
     have HR := Lib.hid RS
     clear RS
     go_wp2_with fail
     have P7 := P6.set2 (.slice a' s1.length ca') (.slice b' l cb')
     obtain ⟨z0, z1, _, _⟩ := P7.two
     have hR : ResT w.heap.size y6 (.agg #[.slice a' s1.length ca', .slice b' l cb']) s1 L N := ⟨a', b', ca', cb', by rw [HLL.out], HR.out.mono (by omega), (HO.out.later hb6 (fun v x h => h.later hb6)).mono (by omega) (fun v x h => h.mono (by omega))⟩
     refine bodyPost_ret (v := .tuple #[.agg #[.slice a' s1.length ca', .slice b' l cb'], .int .i64 0]) (by simp [results, Tryz.results73, go_sem, z0, z1]) rfl ⟨.inl ⟨hd0, _, rfl, hR.far P6 (by decide) (by decide) (by decide) (kept2 _ _)⟩, below_set2 ((hB4.trans (hb5.mono (by omega))).trans (hb6.mono (by omega))) (by omega) _ _⟩
   · have hd0 : d = 17 := by rw [← HDE.out, ht]; rfl
     have s5 := hb5.size
     have P5 := P1.later hb5
     obtain ⟨u0, u1, g0, g1⟩ := P5.two
     go_wp2_with fail
     have P7 := P5.set2 (.slice none 0 0) (.slice none 0 0)
     obtain ⟨z0, z1, _, _⟩ := P7.two
     refine bodyPost_ret (v := .tuple #[noTensor, .int .i64 17]) (by simp [results, Tryz.results73, go_sem, z0, z1, noTensor]) rfl ⟨.inr ⟨by rw [hd0]; decide, by rw [hd0]⟩, below_set2 (hB4.trans (hb5.mono (by omega))) (by omega) _ _⟩
 · have hne : (c != 0) = true := by simp [h0]
   have H0 := Lib.hid h0
   have htw : d = c := by rw [← HDE.out]; unfold twoC; rw [if_pos h0]
   subst htw
   obtain ⟨u0, u1, g0, g1⟩ := P1.two
   clear h0 mkS
   go_wp2_with fail
   have P3 := P1.set2 (.slice none 0 0) (.slice none 0 0)
   obtain ⟨z0, z1, _, _⟩ := P3.two
   refine bodyPost_ret (v := .tuple #[noTensor, .int .i64 d]) (by simp [results, Tryz.results73, go_sem, z0, z1, noTensor]) rfl ⟨.inr ⟨H0.out, rfl⟩, below_set2 hB4 (by omega) _ _⟩
end
section
open Go.RowKit
theorem addP_any {n : Nat} {w : World} {u v : Value} {s1 s2 : List Int} {q1 q2 : List Q3} {a1 b1 a2 b2 : Option Addr} {ca1 cb1 ca2 cb2 : Nat} (T1 : TensQ w u s1 q1 a1 ca1 b1 cb1) (T2 : TensQ w v s2 q2 a2 ca2 b2 cb2) (hs1 : s1.length ≤ 17592186044416) (hs2 : s2.length ≤ 17592186044416) (hq1 : q1.length ≤ 1000000) (hq2 : q2.length ≤ 1000000) (hl1 : lensQ q1 n) (hl2 : lensQ q2 n) (hn : n ≤ 1000000) :
 Calls Tryz.prog 30 #[u, v] w fun e w' => One w.heap.size w' e (twoC (dotC s1 s2 q1 q2) (zipOk (fun _ _ => true) q1 q2)) s1 (zipQ (fun x y => x + y) q1 q2) (2 * n + 10) ∧ Below w.heap.size w w' := by
 have HT1 := Lib.hid T1
 have HT2 := Lib.hid T2
 have HL1 := Lib.hid hl1
 have HL2 := Lib.hid hl2
 obtain rfl := T1.is
 obtain rfl := T2.is
 obtain ⟨W, hW⟩ : ∃ W, (((w.alloc (.cells #[.slice a1 s1.length ca1, .slice b1 q1.length cb1] 26)).alloc (.cells #[.slice a2 s2.length ca2, .slice b2 q2.length cb2] 26)).alloc (.cells #[.slice none 0 0, .slice none 0 0] 26)) = W := ⟨_, rfl⟩
 have R0 : Row W (w.heap.size) 26 #[.slice a1 s1.length ca1, .slice b1 q1.length cb1] := by rw [← hW]; have h := Row.new w 26 #[.slice a1 s1.length ca1, .slice b1 q1.length cb1]; (try simp only [World.size_alloc] at h); exact ((h.alloc _).alloc _)
 have R1 : Row W (w.heap.size + 1) 26 #[.slice a2 s2.length ca2, .slice b2 q2.length cb2] := by rw [← hW]; have h := Row.new (w.alloc (.cells #[.slice a1 s1.length ca1, .slice b1 q1.length cb1] 26)) 26 #[.slice a2 s2.length ca2, .slice b2 q2.length cb2]; (try simp only [World.size_alloc] at h); exact (h.alloc _)
 have R2 : Row W (w.heap.size + 1 + 1) 26 #[.slice none 0 0, .slice none 0 0] := by rw [← hW]; have h := Row.new ((w.alloc (.cells #[.slice a1 s1.length ca1, .slice b1 q1.length cb1] 26)).alloc (.cells #[.slice a2 s2.length ca2, .slice b2 q2.length cb2] 26)) 26 #[.slice none 0 0, .slice none 0 0]; (try simp only [World.size_alloc] at h); exact h
 have hBW : Below w.heap.size w W := by rw [← hW]; exact ((((Below.refl _ _).alloc (by (try simp) <;> omega) _).alloc (by (try simp) <;> omega) _).alloc (by (try simp) <;> omega) _)
 have hsW : W.heap.size = w.heap.size + 1 + 1 + 1 := by rw [← hW]; simp
 have hcall := fun (y : World) (hy : Below W.heap.size W y) (g : Nat) (hg : y.cell? ⟨g, 0, none⟩ = some (.func (.func 75) #[] #[])) =>
  ofTwo_any (F := 117) (cap := #[.pointer (some ⟨g, 0, none⟩)]) (ok := fun _ _ => true) (f := fun x y => x + y) (N := (2 * n + 10)) (HT1.out.later (hBW.trans (hy.mono (by omega)))) (HT2.out.later (hBW.trans (hy.mono (by omega)))) hs1 hs2 hq1 hq2 HL1.out HL2.out hn (enters_of Tryz.func117 (by kernel_rfl) rfl)
   (fun X x y' p q hp hq hX hx hy' => (total1_any (n := 0) (F := 75) hx hy' ((hX.cell (World.block_lt_of_cell? _ _ hg)).trans hg) (enters_of Tryz.func75 (by kernel_rfl) rfl) (fun Y x' y'' hY hx2 hy2 => addQ_any (hx2.arg (HL1.out p hp).1 (HL1.out p hp).2) (hy2.arg (HL2.out q hq).1 (HL2.out q hq).2) (by omega))).mono fun e w' ⟨r, e1, e2, e3⟩ => ⟨.inl ⟨rfl, r, e1, e2⟩, e3⟩)
 obtain ⟨L, hL⟩ : ∃ L, zipQ (fun x y => x + y) q1 q2 = L := ⟨_, rfl⟩
 obtain ⟨c, hc⟩ : ∃ c, twoC (dotC s1 s2 q1 q2) (zipOk (fun _ _ => true) q1 q2) = c := ⟨_, rfl⟩
 simp only [hL, hc] at hcall
 rw [hL, hc]
 have HC := Lib.hid hcall
 have mkS : ∀ X, Below W.heap.size W X → X.cell? ⟨w.heap.size, 0, none⟩ = some (.slice a1 s1.length ca1) ∧ X.cell? ⟨w.heap.size, 1, none⟩ = some (.slice b1 q1.length cb1) ∧ X.cell? ⟨w.heap.size + 1, 0, none⟩ = some (.slice a2 s2.length ca2) ∧ X.cell? ⟨w.heap.size + 1, 1, none⟩ = some (.slice b2 q2.length cb2) := fun X h => by
  obtain ⟨x0, x1, _⟩ := (R0.later h).two
  obtain ⟨x2, x3, _⟩ := (R1.later h).two
  exact ⟨x0, x1, x2, x3⟩
 have B0 : Below W.heap.size W W.drew := (Below.refl _ W).drew
 clear T1 T2 hl1 hl2 hL hc hcall
 go_enter Tryz.func30, Tryz.ntmps30
 go_wp2_with fail
 (try rw [hW])
 clear hW
 refine wp_region_held (S := fun X => X.cell? ⟨w.heap.size, 0, none⟩ = some (.slice a1 s1.length ca1) ∧ X.cell? ⟨w.heap.size, 1, none⟩ = some (.slice b1 q1.length cb1) ∧ X.cell? ⟨w.heap.size + 1, 0, none⟩ = some (.slice a2 s2.length ca2) ∧ X.cell? ⟨w.heap.size + 1, 1, none⟩ = some (.slice b2 q2.length cb2)) (by kernel_rfl) ?_
 have hHeld := mkS _ B0
 refine todo [0, 1] ?_
 iterate 2
  refine todoH (v := ?_) rfl (by kernel_rfl) (fun _ _ _ h => h) (by assumption) (Or.inl ⟨by rfl, ?_⟩) ?_
  rotate_left
  · intro w hSw; (try dsimp only at hSw); go_simp; (try with_reducible rfl)
  try simp only [Act.put, nA, nB, nC, nD, nE, nF]
 refine todone ?_
 refine wpAnyH_ready (rs := [2]) (by kernel_rfl) (by simp) ?_
 refine AllReadyH.cons rfl (fun K hK => ?stot) AllReadyH.nil
 go_simp
 refine (total_any 75 _).mono ?_
 rintro e yy ⟨rfl, rfl⟩
 obtain ⟨y1, hy1⟩ : ∃ y1, W.drew = y1 := ⟨_, rfl⟩
 rw [hy1] at B0 ⊢
 have A1 : Below W.heap.size W (y1.alloc (.cells #[.func (.func 75) #[] #[]] 112)) := B0.alloc (by have := B0.size; omega) _
 go_simp
 refine hK.out _ _ ?ktot (fun hHeld => ?mtot)
 case ktot =>
  try dsimp only
  exact mkS _ A1
 clear hK K
 try simp only [Act.put, nD, nE, nF]
 refine wpAnyH_ready (rs := [3]) (by kernel_rfl) (by simp) ?_
 refine AllReadyH.cons rfl (fun K hK => ?stwo) AllReadyH.nil
 go_simp
 refine (HC.out _ A1 y1.heap.size (by simp)).mono ?_
 rintro e w2 ⟨h, hb2⟩
 have A2 : Below W.heap.size W w2 := A1.trans (hb2.mono A1.size)
 have A1s := A1.size
 have P2 := R2.later A2
 obtain ⟨g1, g2, l1, l2, g3, g4, rfl, hr⟩ := h.shape
 go_simp
 refine hK.out _ _ ?ktwo (fun hHeld => ?mtwo)
 case ktwo =>
  try dsimp only
  exact mkS _ A2
 clear hK K
 try simp only [Act.put, nD, nE, nF]
 refine todo [4, 5] ?_
 iterate 2
  refine todoH (v := ?_) rfl (by kernel_rfl) (fun _ _ _ h => h) (by assumption) (Or.inl ⟨by rfl, ?_⟩) ?_
  rotate_left
  · intro w hSw; (try dsimp only at hSw); go_simp; (try with_reducible rfl)
  try simp only [Act.put, nA, nB, nC, nD, nE, nF]
 refine todone ?_
 obtain ⟨k0, k1, k2, k3⟩ := P2.two
 refine wpAnyH_ready (rs := [6]) (by kernel_rfl) (by simp) ?_
 refine AllReadyH.cons rfl (fun K hK => ?sst6) AllReadyH.nil
 go_simp
 refine afterSet2 P2 (fun X6 o6 zs6 => ?_)
 skip
 refine hK.out _ _ ?kst6 (fun hHeld => ?mst6)
 case kst6 =>
  try dsimp only
  exact ⟨((R0.later A2).only o6 (by omega)).cell 0, ((R0.later A2).only o6 (by omega)).cell 1, ((R1.later A2).only o6 (by omega)).cell 0, ((R1.later A2).only o6 (by omega)).cell 1⟩
 clear hK K
 try simp only [Act.put, nD, nE, nF]
 refine wpAnyH_ready (rs := [7]) (by kernel_rfl) (by simp) ?_
 refine AllReadyH.cons rfl (fun K hK => ?sas7) AllReadyH.nil
 go_simp
 refine hK.out _ _ ?kas7 (fun hHeld => ?mas7)
 case kas7 =>
  try dsimp only
  exact ⟨((R0.later A2).only o6 (by omega)).cell 0, ((R0.later A2).only o6 (by omega)).cell 1, ((R1.later A2).only o6 (by omega)).cell 0, ((R1.later A2).only o6 (by omega)).cell 1⟩
 clear hK K
 try simp only [Act.put, nD, nE, nF]
 refine wpAnyH_done (by kernel_rfl) ?_ _
 (try dsimp only [Straight])
 obtain ⟨z0, z1, _, _⟩ := zs6.two
 have s2 := A2.size
 have hB6 : Below w.heap.size w X6 := (hBW.trans (A2.mono (by omega))).trans (o6.below (by omega))
 have HRR := Lib.hid hr
 clear hr
 go_wp2_with fail
 refine bodyPost_ret (v := .tuple #[.agg #[.slice g1 l1 g3, .slice g2 l2 g4], .int .i64 c]) (by simp [results, Tryz.results30, go_sem, z0, z1]) rfl ⟨One.of ?_, hB6⟩
 rcases HRR.out with ⟨h0, h⟩ | ⟨h0, h⟩
 · exact .inl ⟨h0, (h.mono (by omega)).far P2 (by decide) (by decide) (by decide) (fun k hk => o6.block k hk)⟩
 · exact .inr ⟨h0, h⟩
end
section
open Go.RowKit
theorem zipQ_eq {f : Rat → Rat → Rat} {q1 q2 : List Q3} {L1 L2 : List Rat} (h1 : q1.map Q3.rat = L1) (h2 : q2.map Q3.rat = L2) : zipQ f q1 q2 = List.zipWith f L1 L2 := by
 subst h1
 subst h2
 unfold zipQ
 rw [List.zipWith_map]
theorem zipOk_true {q1 q2 : List Q3} : zipOk (fun _ _ => true) q1 q2 = true := by
 unfold zipOk
 rw [List.all_eq_true]
 intro x hx
 obtain ⟨i, hi, rfl⟩ := List.mem_iff_getElem.1 hx
 simp
theorem two_zero {s : List Int} {q1 q2 : List Q3} {ok : Bool} (h1 : mayT s q1 = 0) (h2 : mayT s q2 = 0) (h : ok = true) : twoC (dotC s s q1 q2) ok = 0 := by
 unfold twoC dotC
 simp [h1, h2, h]
end
section
open Go.RowKit
theorem axesB_at {l : List Int} {rank : Int} (h : axesB l rank = true) : ∀ i, i < l.length → (0 ≤ l.getD i 0 ∧ l.getD i 0 < rank) ∧ (0 < i → l.getD (i - 1) 0 < l.getD i 0) := of_decide_eq_true h
theorem axC_zero10 {l : List Int} {rank : Int} (h : axesB l rank = true) (hr : 0 ≤ rank) : axC l rank = 0 := by
 have ha := axesB_at h
 rw [axC_good (fun i hi => by
  obtain ⟨⟨h1, h2⟩, h3⟩ := ha i hi
  cases i with
  | zero => show ¬ _ ≤ (-1 : Int); omega
  | succ j =>
   have := h3 (by omega)
   show ¬ _ ≤ l.getD j 0
   simp only [Nat.add_sub_cancel] at this
   omega)]
 refine if_neg ?_
 cases hl : l.length with
 | zero => show ¬ rank ≤ (-1 : Int); omega
 | succ j =>
  have := (ha j (by omega)).1
  show ¬ rank ≤ l.getD j 0
  omega
theorem axesB_rise {l : List Int} {rank : Int} (h : axesB l rank = true) : ∀ j i, i < j → j < l.length → l.getD i 0 < l.getD j 0 := by
 intro j
 induction j with
 | zero => intro i hi; omega
 | succ j ih =>
  intro i hi hj
  have h1 := (axesB_at h (j + 1) hj).2 (by omega)
  simp only [Nat.add_sub_cancel] at h1
  by_cases e : i = j
  · subst e; exact h1
  · have := ih i (by omega) (by omega); omega
theorem Ok10.sum {s : List Int} {L : List Rat} (h : Ok10 s L) (ys : List Int) : Ok10 (dropS s ys) (sumF s ys L) := ⟨drop_ok ys h.ok, sumF_len s ys L⟩
theorem sumT10 {n : Nat} {w : World} {v : Value} {s ys : List Int} {qs : List Q3} {a b d : Option Addr} {ca cb cd : Nat} (T : TensQ w v s qs a ca b cb) (h0 : mayT s qs = 0) (hl : lensQ qs n) (h64 : qs.length ≤ 64) (D : ArgS w (.slice d ys.length cd) ys d cd) (nd : d = none → cd = 0) (hy : ys.length ≤ 1000000) (hn : n ≤ 240000) (hp : axC ys (s.length : Int) = 0) :
 Calls Tryz.prog 13 #[v, .slice d ys.length cd] w fun e w' => Go10 w.heap.size w' e (dropS s ys) (sumF s ys (qs.map Q3.rat)) ((n + 10) * 2 ^ 6) ∧ Below w.heap.size w w' := by
 have hr := (mayC_zero.1 (mayT_rank h0)).rank
 have h := sumF_any 6 (n := n) T (by omega) hl D nd hy (by omega) (by omega) (by omega) (by omega)
 rw [h0, hp] at h
 exact h.mono fun e w' ⟨h, hb⟩ => ⟨h.go10 (c := 0) rfl, hb⟩
theorem sumR10 {b1 n : Nat} {w : World} {u : Value} {s ys : List Int} {L : List Rat} {d : Option Addr} {cd : Nat} (h1 : ResT b1 w u s L n) (D : ArgS w (.slice d ys.length cd) ys d cd) (nd : d = none → cd = 0) (hy : ys.length ≤ 1000000) (hs : Ok10 s L) (h64 : L.length ≤ 64) (hn : n ≤ 240000) (hp : axC ys (s.length : Int) = 0) :
 Calls Tryz.prog 13 #[u, .slice d ys.length cd] w fun e w' => Go10 w.heap.size w' e (dropS s ys) (sumF s ys L) ((n + 10) * 2 ^ 6) ∧ Below w.heap.size w w' := by
 obtain ⟨qs, a, b, ca, cb, T, hq, hl, hok⟩ := h1.tens
 have hql : qs.length = L.length := by rw [← hq]; simp
 have h := sumT10 (n := n) T (hs.may hq hok) hl (by omega) D nd hy hn hp
 rw [hq] at h
 exact h
theorem sameL10 {s : List Int} {p q : List Q3} (h : p.map Q3.rat = q.map Q3.rat) : allBC (fun (p q : Q3) => decide (p.rat = q.rat)) s s p q = true :=
 allBC_yes rfl (by have := congrArg List.length h; simpa using this) fun i x y hx hy => by
  have h1 := congrArg (fun l => l[i]?) h
  simp only [List.getElem?_map, hx, hy, Option.map_some, Option.some.injEq] at h1
  exact decide_eq_true h1
theorem lensQ.more10 {qs : List Q3} {n m : Nat} (h : lensQ qs n) (hm : n ≤ m) : lensQ qs m := fun q hq => ⟨Nat.le_trans (h q hq).1 hm, Nat.le_trans (h q hq).2 hm⟩
theorem sameA10 {b1 b2 n m : Nat} {w : World} {u v : Value} {s t : List Int} {L M : List Rat} (h1 : ResT b1 w u s L n) (h2 : ResT b2 w v t M m) (hs : Ok10 s L) (est : s = t) (eLM : L = M) (hn : n ≤ 4000000) (hm : m ≤ 4000000) :
 Calls Tryz.prog 26 #[u, v] w fun e w' => e = .returned (.bool true) ∧ Below w.heap.size w w' := by
 subst est; subst eLM
 obtain ⟨f1, f2⟩ := hs.few
 obtain ⟨q1, a1, c1, ca1, cc1, T1, e1, l1, k1⟩ := h1.tens
 obtain ⟨q2, a2, c2, ca2, cc2, T2, e2, l2, k2⟩ := h2.tens
 have g1 : q1.length = L.length := by rw [← e1]; simp
 have g2 : q2.length = L.length := by rw [← e2]; simp
 have h := sameT7_any (n := max n m) T1 T2 (by omega) (by omega) (by omega) (by omega) (l1.more10 (by omega)) (l2.more10 (by omega)) (by omega)
 rwa [sameL10 (e1.trans e2.symm)] at h
end
section
open Go.RowKit
theorem ResQ.more10 {base n m : Nat} {w : World} {v : Value} {x : Rat} (h : ResQ base w v x n) (hm : n ≤ m) : ResQ base w v x m := by
 obtain ⟨zs, ys, ad, bd, ca, cb, hv, A, B, h1, h2⟩ := h
 exact ⟨zs, ys, ad, bd, ca, cb, hv, A, B, by omega, by omega⟩
theorem ResT.more10 {base n m : Nat} {w : World} {v : Value} {s : List Int} {L : List Rat} (h : ResT base w v s L n) (hm : n ≤ m) : ResT base w v s L m := by
 obtain ⟨a, b, ca, cb, hv, h1, es, h2, h3⟩ := h
 exact ⟨a, b, ca, cb, hv, h1, es, h2, h3.imp fun v x _ h => h.more10 hm⟩
theorem addR10 {b1 b2 n : Nat} {w : World} {u v : Value} {s : List Int} {L M : List Rat} (h1 : ResT b1 w u s L n) (h2 : ResT b2 w v s M n) (hs : Ok10 s L) (hl : M.length = L.length) (hn : n ≤ 900000) :
 Calls Tryz.prog 30 #[u, v] w fun e w' => Go10 w.heap.size w' e s (List.zipWith (fun x y => x + y) L M) (2 * n + 10) ∧ Below w.heap.size w w' := by
 obtain ⟨q1, a1, c1, ca1, cb1, T1, e1, l1, k1⟩ := h1.tens
 obtain ⟨q2, a2, c2, ca2, cb2, T2, e2, l2, k2⟩ := h2.tens
 obtain ⟨r1, r2⟩ := hs.few
 have g1 : q1.length = L.length := by rw [← e1]; simp
 have g2 : q2.length = M.length := by rw [← e2]; simp
 have h := addP_any (n := n) T1 T2 (by omega) (by omega) (by omega) (by omega) l1 l2 (by omega)
 have hm : Ok10 s M := ⟨hs.ok, hl.trans hs.len⟩
 rw [two_zero (hs.may e1 k1) (hm.may e2 k2) zipOk_true, zipQ_eq e1 e2] at h
 exact h.mono fun e w' ⟨h, hb⟩ => ⟨h.go10 (c := 0) rfl, hb⟩
end
section
open Go.RowKit
theorem mixT10 {base m : Nat} {w : World} {a b : Option Addr} {ca cb : Nat} {s : List Int} {L : List Rat} (A : ArgS w (.slice a s.length ca) s a ca) (na : a = none → ca = 0) (h2 : RowO base 54 (fun W v x => ResQ base W v x m) w (.slice b L.length cb) L) :
 ∃ qs : List Q3, TensQ w (.agg #[.slice a s.length ca, .slice b L.length cb]) s qs a ca b cb ∧ qs.map Q3.rat = L ∧ lensQ qs m ∧ ∀ q ∈ qs, okQ q = true := by
 obtain ⟨qs, a', b', ca', cb', T, h1, h3, h4⟩ := ResT.tens (⟨none, b, 0, cb, rfl, ⟨World.ownsRow_nil _ _ _ _, Wid.nil⟩, h2⟩ : ResT base w (.agg #[.slice none 0 0, .slice b L.length cb]) [] L m)
 have hl : qs.length = L.length := by rw [← h1]; simp
 have he := T.is
 simp only [Value.agg.injEq, Array.mk.injEq, List.cons.injEq, and_true, Value.slice.injEq] at he
 obtain ⟨_, rfl, _, rfl⟩ := he
 exact ⟨qs, ⟨by rw [hl], A, na, T.el, T.nilb⟩, h1, h3, h4⟩
theorem TensQ.wfs10 {w : World} {v : Value} {s : List Int} {qs : List Q3} {a b : Option Addr} {ca cb : Nat} (T : TensQ w v s qs a ca b cb) : ∀ q ∈ qs, Wf q.num ∧ Wf q.den := fun q hq => by
 obtain ⟨i, hi, rfl⟩ := List.mem_iff_getElem.1 hq
 obtain ⟨_, _, _, _, _, q', _, hq', _, _, _, hr⟩ := T.el.at hi
 rw [List.getElem?_eq_getElem hi] at hq'
 cases hq'
 obtain ⟨_, _, _, _, _, A, B, _⟩ := hr
 exact ⟨A.wf, B.wf⟩
theorem ResR.refit10 {base n b : Nat} {w : World} {v : Value} {X : Rat} (h : ResR base w v X n) (hf : FitQ X b) : ResR base w v X (b / 13 + 1) := by
 obtain ⟨zs, ys, ad, bd, ca, cb, rfl, A, B, _, _⟩ := h
 exact ⟨zs, ys, ad, bd, ca, cb, rfl, A, B, lenD_le A.wf A.full (by rw [A.eq]; have := hf.1; omega), lenD_le B.wf B.full (by rw [B.eq]; have := hf.2; omega)⟩
theorem ArgR.more10 {w : World} {v : Value} {X : Rat} {n m : Nat} (h : ArgR w v X n) (hm : n ≤ m) : ArgR w v X m := by
 obtain ⟨xs, ds, a1, a2, c1, c2, hv, A, B, hX1, hX2, hx, hd⟩ := h
 exact ⟨xs, ds, a1, a2, c1, c2, hv, A, B, hX1, hX2, by omega, by omega⟩
theorem totL_next {L : List Rat} {k : Nat} {x : Rat} (h : L[k]? = some x) : totL (L.take (k + 1)) = totL (L.take k) + x := by
 rw [List.take_add_one, h, totL_append]
 show _ + totL [x] = _
 rw [totL_one]
theorem totFit10 {L : List Rat} {B : Nat} (h : ∀ x ∈ L, FitQ x B) : ∀ k, k ≤ L.length → FitQ (totL (L.take k)) ((B + 1) * k)
 | 0, _ => by simp only [List.take_zero, totL]; exact FitQ.zero _
 | k + 1, hk => by
  have hx := List.getElem?_eq_getElem (l := L) (i := k) (by omega)
  rw [totL_next hx]
  have h1 := totFit10 h k (by omega)
  have h2 := h _ (List.getElem_mem (l := L) (n := k) (by omega))
  have h3 := h1.add h2
  have e : (B + 1) * (k + 1) = (B + 1) * k + B + 1 := by rw [Nat.mul_add, Nat.mul_one]; omega
  rw [e]
  exact h3
def rangeI (n : Nat) : List Int := (List.range n).map Int.ofNat
theorem rangeI_len (n : Nat) : (rangeI n).length = n := by unfold rangeI; simp
theorem rangeI_next (n : Nat) : rangeI (n + 1) = rangeI n ++ [(n : Int)] := by unfold rangeI; rw [List.range_succ, List.map_append]; rfl
theorem rangeI_at {n i : Nat} (h : i < n) : (rangeI n).getD i 0 = (i : Int) := by
 unfold rangeI
 rw [List.getD_eq_getElem?_getD, List.getElem?_map, List.getElem?_range h]
 rfl
theorem rangeI_axes (n : Nat) : axesB (rangeI n) (n : Int) = true := decide_eq_true fun i hi => by
 rw [rangeI_len] at hi
 rw [rangeI_at hi]
 refine ⟨by omega, fun h => ?_⟩
 rw [rangeI_at (by omega)]
 omega
theorem rangeI_mem {n i : Nat} (h : i < n) : (i : Int) ∈ rangeI n := by
 unfold rangeI
 exact List.mem_map.2 ⟨i, List.mem_range.2 h, rfl⟩
theorem one_tensR10 {w : World} {g : Nat} {t : TypeId} {v0 v1 v2 : Value} {x : Rat} {n : Nat} (R : Row w g t #[v0, v1, v2]) (h : ArgR w (.agg #[v0, v1, v2]) x n) : TensR w (.agg #[.slice none 0 0, .slice (some ⟨g, 0, none⟩) 1 1]) [] [x] n none 0 (some ⟨g, 0, none⟩) 1 := by
 obtain ⟨c0, c1, c2, _⟩ := R.three
 refine ⟨rfl, ⟨rfl, .inl rfl, Nat.le_refl _, Wid.nil⟩, fun _ => rfl, ⟨rfl, Nat.le_refl _, .inr ⟨g, 0, [⟨v0, v1, v2⟩], rfl, fun i e he => ?_, rfl, fun i e y h1 h2 => ?_⟩⟩, fun h => by cases h⟩
 · cases i with
   | zero => simp only [List.getElem?_cons_zero, Option.some.injEq] at he; subst he; exact ⟨c0, c1, c2⟩
   | succ i => simp at he
 · cases i with
   | zero =>
    simp only [List.getElem?_cons_zero, Option.some.injEq] at h1 h2
    subst h1
    subst h2
    exact h
   | succ i => simp at h1
theorem ResR.shape10 {base n : Nat} {w : World} {v : Value} {X : Rat} (h : ResR base w v X n) : ∃ (m : Bool) (a : Option Addr) (b c : Nat) (d : Option Addr) (e f : Nat), v = .agg #[.bool m, .slice a b c, .slice d e f] := by
 obtain ⟨zs, ys, ad, bd, ca, cb, rfl, _⟩ := h
 exact ⟨_, _, _, _, _, _, _, rfl⟩
theorem addX10 {n : Nat} {w : World} {u v : Value} {s : List Int} {q1 q2 : List Q3} {a1 b1 a2 b2 : Option Addr} {ca1 cb1 ca2 cb2 : Nat} (T1 : TensQ w u s q1 a1 ca1 b1 cb1) (T2 : TensQ w v s q2 a2 ca2 b2 cb2) (m1 : mayT s q1 = 0) (m2 : mayT s q2 = 0) (hl1 : lensQ q1 n) (hl2 : lensQ q2 n) (hn : n ≤ 900000) :
 Calls Tryz.prog 30 #[u, v] w fun e w' => Go10 w.heap.size w' e s (List.zipWith (fun x y => x + y) (q1.map Q3.rat) (q2.map Q3.rat)) (2 * n + 10) ∧ Below w.heap.size w w' := by
 have k1 := (Ok10.of m1).few
 have k2 := (Ok10.of m2).few
 rw [List.length_map] at k1 k2
 have h := addP_any (n := n) T1 T2 (by omega) (by omega) (by omega) (by omega) hl1 hl2 (by omega)
 rw [two_zero m1 m2 zipOk_true, zipQ_eq rfl rfl] at h
 exact h.mono fun e w' ⟨h, hb⟩ => ⟨h.go10 (c := 0) rfl, hb⟩
end
end Go.Proofs.YtengpgodmbfmkaaGreat
