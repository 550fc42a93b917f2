/-
  Contracts of the reference of layer 2: DivMod.
-/
import Derived.Test.YtdcdaielfkikhaaQRef
import Derived.Test.YtdcdaielfkikhaaB3
import Derived.Laws.AppendOwnNone
namespace Go.Proofs.Ytdcdaielfkikhaa
open Go.RowKit
set_option linter.unusedVariables false
set_option linter.unusedSimpArgs false

theorem ArgD.lenLe {w w' : World} {u v : Value} {xs ys : List Int} {a b : Option Addr} {capa capb : Nat} (h1 : ArgD w u xs a capa) (h2 : ArgD w' v ys b capb) (h : valD xs ≤ valD ys) : xs.length ≤ ys.length := by
  rcases Nat.lt_or_ge ys.length xs.length with k | k
  · have := len_ltD h2.wf h1.wf h1.full k; omega
  · exact k

theorem NumI.only {base b : Nat} {w w' : World} {v : Value} {xs : List Int} (h : NumI base w v xs) (k : Only b w w') (hb : b < base) : NumI base w' v xs := by
  obtain ⟨h1, h2⟩ := h
  refine ⟨h1, ?_⟩
  rcases h2 with h2 | ⟨g, cap, cur, rfl, hg0, hg, hc, hm, hs, ht⟩
  · exact .inl h2
  · exact .inr ⟨g, cap, cur, rfl, hg0, (k.block g (by omega)).trans hg, hc, hm, hs, ht⟩
theorem ResD.only {base b : Nat} {w w' : World} {u : Value} {zs : List Int} {n : Int} (h : ResD base w u zs n) (k : Only b w w') (hb : b < base) : ResD base w' u zs n := ⟨h.num.only k hb, h.wf, h.full, h.eq⟩
theorem ResD.mono {base base' : Nat} {w : World} {u : Value} {zs : List Int} {n : Int} (h : ResD base w u zs n) (hb : base' ≤ base) : ResD base' w u zs n := ⟨h.num.mono hb, h.wf, h.full, h.eq⟩
theorem NumI.nilCap {base : Nat} {w : World} {n cap : Nat} {xs : List Int} (h : NumI base w (.slice none n cap) xs) : xs = [] ∧ n = 0 ∧ cap = 0 := by
  obtain ⟨_, h2⟩ := h
  rcases h2 with ⟨e, hn⟩ | ⟨g, cap', cur, e, _⟩
  · simp only [Value.slice.injEq] at e
    exact ⟨List.eq_nil_of_length_eq_zero hn, e.2.1, e.2.2⟩
  · simp at e

set_option maxHeartbeats 4000000 in
theorem divD_any {u v : Value} {xs ys : List Int} {a b : Option Addr} {capa capb : Nat} {w : World} (h1 : ArgD w u xs a capa) (h2 : ArgD w v ys b capb) (hx : xs.length ≤ 8589934592) (hy : ys.length ≤ 8589934592) (hpos : 0 < valD ys) :
    Calls Try.prog 17 #[u, v] w fun e w' => ∃ r s, e = .returned (.tuple #[r, s]) ∧ Below w.heap.size w w' ∧ (∃ zs, ResD w.heap.size w' r zs (valD xs / valD ys) ∧ zs.length ≤ xs.length) ∧
      (∃ zs, ResD w.heap.size w' s zs (valD xs % valD ys) ∧ zs.length ≤ ys.length) := by
  obtain ⟨rfl, lx, _, wx, _⟩ := h1
  obtain ⟨i0, hi, hz0, hz1, hz2⟩ := info_parts infoInt
  obtain ⟨n, hn⟩ : ∃ n, xs.length = n := ⟨_, rfl⟩
  have hmk := makeI_runN n n (Nat.le_refl _) (by omega)
  rw [hn]
  have HN := Lib.hid hn
  rw [hn] at hx
  clear hn
  go_enter Try.func17, Try.ntmps17
  go_wp2
  go_loopw [7, 8, 9, 10, 11] (fun s i _ _ _ wr => ∃ (k : Nat) (q : Value) (rs qs : List Int), k ≤ n ∧ q = s ∧ i = .int .i64 ((n : Int) - 1 - k) ∧ BlkI wr w.heap.size (List.replicate (n - k) 0 ++ qs) ∧ qs.length = k ∧ WfD qs ∧
      ResD (w.heap.size + 1) wr q rs (valD rs) ∧ valD (xs.drop (n - k)) = valD ys * valD qs + valD rs ∧ valD rs < valD ys ∧ Below w.heap.size w wr) (fun _ i _ _ _ _ => (intOf i + 1).toNat)
  case atStart =>
    have e : xs.drop (n - 0) = [] := by rw [Nat.sub_zero, ← HN.out, List.drop_length]
    refine ⟨0, _, [], [], Nat.zero_le _, rfl, by simp, ?_, rfl, WfD.nil, ⟨World.ownsRow_nil _ _ _ _, WfD.nil, rfl, rfl⟩, by rw [e]; simp [valD], by simpa [valD] using hpos, ((Below.refl _ w).alloc (Nat.le_refl _) _)⟩
    simpa using BlkI.made w n
  case round =>
    obtain ⟨k, q, rs, qs, hk, rfl, rfl, hblk, hql, hqw, hres, hval, hlt, hb⟩ := hrel
    have hsz := hb.size
    by_cases hgo : k < n
    · rcases lx with rfl | ⟨bx, off, rfl, hc⟩
      · have := HN.out; simp at this; omega
      obtain ⟨j, hj⟩ : ∃ j, j + k + 1 = n := ⟨n - k - 1, by omega⟩
      have hji : ((n : Int) - 1 - k) = (j : Int) := by omega
      obtain ⟨x, hxk⟩ : ∃ x, xs.getD j 0 = x := ⟨_, rfl⟩
      obtain ⟨bx0, bx1⟩ : 0 ≤ x ∧ x < 10000 := hxk ▸ wx.getD j
      have hjl : j < xs.length := by have := HN.out; omega
      have hcj := hc j hjl
      rw [hxk] at hcj
      have hc0 : wr.cell? ⟨bx, off + j, none⟩ = some (.int .i64 x) := (hb.cell (p := ⟨bx, off + j, none⟩) (World.block_lt_of_cell? w _ hcj)).trans hcj
      have hge : (0 : Int) ≤ (j : Int) := by omega
      have hjn : (j : Int) < (n : Int) := by omega
      have hstep : valD (xs.drop (n - (k + 1))) = x + 10000 * valD (xs.drop (n - k)) := by
        rw [show n - (k + 1) = j from by omega, valD_drop xs j hjl, hxk, show n - k = j + 1 from by omega]
      rw [show n - k = j + 1 from by omega] at hblk
      rw [hji]
      have hrl : rs.length ≤ ys.length := by
        obtain ⟨ad, cap, A⟩ := hres.arg
        exact A.lenLe h2 (by omega)
      have hgb : w.heap.size < wr.heap.size := hblk.lt
      have HST := Lib.hid hstep
      have HV := Lib.hid hval
      have HJ := Lib.hid hj
      have HL := Lib.hid hlt
      have HB := Lib.hid hblk
      have HQ := Lib.hid hql
      clear hstep hval hj hji hxk hc hlt hblk hql
      have hs1 : w.heap.size + 1 ≤ wr.heap.size := hgb
      have hlit := NumI.lit (base := w.heap.size + 1) (w := wr) hs1 [x] (by unfold maxLen; simp)
      have hrow : (wr.alloc (.cells #[.int .i64 x] 3)).ownsRow (w.heap.size + 1) 3 1 (.slice (some ⟨wr.heap.size, 0, none⟩) 1 1) 1 [.int .i64 x] := hlit
      have hal : Below w.heap.size w (wr.alloc (.cells #[.int .i64 x] 3)) := hb.alloc hsz _
      have hba := HB.out.alloc (.cells #[.int .i64 x] 3)
      obtain ⟨ad, cap, h1q, h2q, h3q, h4q, h5q⟩ := hres.num.read
      clear h5q
      have wrs := hres.wf
      have hnumq := hres.num
      subst h1q
      clear hres
      have HN2 := Lib.hid hnumq
      clear hnumq
      cases ad
      case' none =>
        obtain ⟨hrs, hr0, hcap⟩ := HN2.out.nilCap
        subst hcap
        rw [hr0]
        have HRS := Lib.hid hrs
        clear hrs hr0
        have hrun := run_append_owned_none (P := Try.prog) (wr.alloc (.cells #[.int .i64 x] 3)) (w.heap.size + 1) 29 29 3 i0 1 Try.underlying29 hi (.slice (some ⟨wr.heap.size, 0, none⟩) 1 1) 1 [.int .i64 x] hrow
        go_wp2_with fail
        have hup : NumI (w.heap.size + 1) (wr.alloc (.cells #[.int .i64 x] 3)) (.slice (some ⟨wr.heap.size, 0, none⟩) 1 1) (x :: rs) := by rw [HRS.out]; exact hlit
        have hB1 := hal
        have hb1 := hba
        clear hrun hlit hrow hal hba h2q hc0
        generalize wr.alloc (.cells #[.int .i64 x] 3) = w1 at *
        generalize Value.slice (some ⟨wr.heap.size, 0, none⟩) 1 1 = v' at *
      case' some ad =>
        have hnews := (h2q.later ((Below.refl wr.heap.size wr).alloc (Nat.le_refl _) (.cells #[.int .i64 x] 3))).news
        go_wp2_with (at_builtin; refine wpList_append_own _ rfl _ _ 29 rfl (w.heap.size + 1) 3 i0 (.int .i64 0) 1 8 Try.underlying29 hi hz0 hz1 hz2 rfl (by decide) _ 1 [.int .i64 x] rfl hrow ad rs.length cap (rs.map (Value.int .i64)) rfl (by simp) hnews (ints_oneCell _ _) (by unfold maxLen; omega) (by omega) (by simp; omega) ?_; intro v' w1 hown' hgrow _)
        have hB1 : Below w.heap.size w w1 := hal.grown hgrow (by simp; omega) (fun k hk => by cases hk; exact hsz)
        have hb1 := hba.grown hgrow (fun e => by have h : w.heap.size = wr.heap.size := Option.some.inj e; omega)
        have hup : NumI (w.heap.size + 1) w1 v' (x :: rs) := by
          unfold NumI
          rw [List.length_cons, List.map_cons, Nat.add_comm rs.length 1]
          exact hown'
        clear hown' hgrow hnews hlit hrow hal hba h2q hc0
      all_goals
        have hs2 := hb1.lt
        have hR1 : ResD (w.heap.size + 1) w1 v' (x :: rs) 0 → True := fun _ => trivial
        clear hR1
        go_wp2_with fail
        refine (trimQ_num hup (by simp only [List.length_cons]; omega)).mono ?_
        rintro e w' ⟨q1, rfl, hq1, rfl⟩
        have R1 : ResD (w.heap.size + 1) w1 q1 (trim (x :: rs)) (x + 10000 * valD rs) := ⟨hq1, (WfD.cons ⟨bx0, bx1⟩ wrs).trim, trim_full _, by rw [val_trimD]; rfl⟩
        have hl1 : (trim (x :: rs)).length ≤ rs.length + 1 := Nat.le_trans (Nat.le_of_eq (trim_length _)) (trim_le (x :: rs))
        generalize trim (x :: rs) = rs1 at *
        clear hup hq1
        obtain ⟨ad1, cap1, A1⟩ := R1.arg
        have A2 := h2.later hB1
        have hV := HL.out
        go_wp2_with fail
        refine (digitQ_any A1 A2 (by omega) (by omega) (by rw [R1.eq]; omega)).mono ?_
        rintro e w2 ⟨d, rfl, d0, d1, dlo, dhi, hb2⟩
        rw [R1.eq] at dlo dhi
        have hB2 := hB1.trans (hb2.mono (by omega))
        have R2 := R1.later hb2
        have hblk2 := hb1.below hb2 (by omega)
        have hlz : (List.replicate (j + 1) 0 ++ qs).length = n := by rw [List.length_append, List.length_replicate, HQ.out]; have := HJ.out; omega
        have hcell := hblk2.cell j (by omega)
        have hfree := hblk2.free j
        have hset := hblk2.set j d
        rw [set_front] at hset
        have hO : Only w.heap.size w2 (w2.setCell ⟨w.heap.size, j, none⟩ (.int .i64 d)) := Only.set _ _ _ _
        have R3 := R2.only hO (Nat.lt_succ_self _)
        have hB3 : Below w.heap.size w (w2.setCell ⟨w.heap.size, j, none⟩ (.int .i64 d)) := hB2.setCell (p := ⟨w.heap.size, j, none⟩) (Nat.le_refl _) _
        have hs3 : w.heap.size + 1 ≤ w2.heap.size := hblk2.lt
        have hs3' : w2.heap.size = (w2.setCell ⟨w.heap.size, j, none⟩ (.int .i64 d)).heap.size := hO.size.symm
        have DLO := Lib.hid dlo
        have DHI := Lib.hid dhi
        clear A1 A2 hB1 hb1 hb2 hB2 R1 R2 hblk2 dlo dhi hO hs2 hlz
        go_wp2_with fail
        generalize w2.setCell ⟨w.heap.size, j, none⟩ (.int .i64 d) = w3 at *
        clear hcell hfree
        have A3 := h2.later hB3
        refine (times_any d A3 (by omega) (by omega)).mono ?_
        rintro e w4 ⟨r4, rfl, z4, q4, n4, hb4⟩
        have hB4 := hB3.trans (hb4.mono (by omega))
        have R4 := R3.later hb4
        have hset4 := hset.below hb4 (by omega)
        have hs4 := hb4.size
        obtain ⟨ad4, cap4, A4⟩ := R4.arg
        obtain ⟨ad5, cap5, A5⟩ := q4.arg
        clear hB3 hb4 R3 A3 hset
        go_wp2_with fail
        refine (subD_any A4 A5 (by omega) (by omega)).mono ?_
        rintro e w5 ⟨r5, f5, rfl, hb5, _, hsub⟩
        obtain ⟨rfl, z5, q5, n5⟩ := hsub (by rw [R4.eq, q4.eq]; exact DLO.out)
        have hB5 := hB4.trans (hb5.mono (by omega))
        have hset5 := hset4.below hb5 (by omega)
        have hs5 := hb5.size
        have hv5 : valD z5 = x + 10000 * valD rs - valD ys * d := by rw [q5.eq, R4.eq, q4.eq]
        have fin : ∃ (k' : Nat) (q' : Value) (rs' qs' : List Int), k' ≤ n ∧ q' = r5 ∧ Value.int .i64 ((j : Int) - 1) = .int .i64 ((n : Int) - 1 - k') ∧ BlkI w5 w.heap.size (List.replicate (n - k') 0 ++ qs') ∧ qs'.length = k' ∧ WfD qs' ∧
            ResD (w.heap.size + 1) w5 q' rs' (valD rs') ∧ valD (xs.drop (n - k')) = valD ys * valD qs' + valD rs' ∧ valD rs' < valD ys ∧ Below w.heap.size w w5 := by
          have hj := HJ.out
          refine ⟨k + 1, r5, z5, d :: qs, by omega, rfl, by congr 1; omega, ?_, by rw [List.length_cons, HQ.out], WfD.cons ⟨d0, d1⟩ hqw, ⟨q5.num.mono (by omega), q5.wf, q5.full, rfl⟩, ?_, ?_, hB5⟩
          · rw [show n - (k + 1) = j from by omega]; exact hset5
          · rw [HST.out, HV.out, hv5]
            have e : valD (d :: qs) = d + 10000 * valD qs := rfl
            have e2 : valD ys * (d + 10000 * valD qs) = valD ys * d + 10000 * (valD ys * valD qs) := by rw [Int.mul_add, Int.mul_left_comm]
            rw [e, e2]
            omega
          · rw [hv5]
            have h := DHI.out
            rw [Int.mul_add, Int.mul_one] at h
            omega
        have FIN := Lib.hid fin
        clear fin hset5 hset4 hB5 hB4 hb5 A4 A5 R4 q4 q5 hv5
        go_wp2
        go_roundw
        case rel => exact FIN.out
        case measure => simp [intOf]
    · obtain rfl : k = n := by omega
      have hji : ((k : Int) - 1 - k) = -1 := by omega
      rw [hji]
      clear hji
      rw [Nat.sub_self] at hblk hval
      rw [List.drop_zero] at hval
      rw [List.replicate_zero, List.nil_append] at hblk
      have hnum := NumI.ofBlk hblk (Nat.le_refl _) k (by omega) (by rw [hql]; unfold maxLen; omega)
      rw [hql, List.take_of_length_le (by omega)] at hnum
      have hr0 := val_nonnegD hres.wf
      obtain ⟨e1, e2⟩ := quo_eq (V := valD qs) (d := valD ys) (r := valD rs) (N := valD xs) hpos (by rw [hval, Int.mul_comm]) ⟨hr0, hlt⟩
      have hrl : rs.length ≤ ys.length := by
        obtain ⟨ad, cap, A⟩ := hres.arg
        exact A.lenLe h2 (by omega)
      have hlen : (trim qs).length ≤ k := by have h := Nat.le_trans (Nat.le_of_eq (trim_length _)) (trim_le qs); omega
      have E1 := Lib.hid e1
      have E2 := Lib.hid e2
      clear hblk e1 e2 hval hlt
      go_wp2_with fail
      refine (trimQ_num hnum (by omega)).mono ?_
      rintro e w' ⟨p, rfl, hp, rfl⟩
      go_wp2_with fail
      go_ret2
      exact ⟨p, q, rfl, hb, ⟨trim qs, ⟨hp, hqw.trim, trim_full _, by rw [val_trimD, E1.out]⟩, hlen⟩, ⟨rs, ⟨hres.num.mono (Nat.le_succ _), hres.wf, hres.full, E2.out⟩, hrl⟩⟩
end Go.Proofs.Ytdcdaielfkikhaa
