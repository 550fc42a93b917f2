/-
  Contracts of package rat: whole numbers with a sign: plus, minus, sign.
-/
import Derived.Test.YtnhfjacifajdlaaGreatB4
namespace Go.Proofs.YtnhfjacifajdlaaGreat
set_option maxRecDepth 100000
section
open Go.RowKit
set_option linter.unusedVariables false
set_option linter.unusedSimpArgs false
/-- the divisor, shifted till the highest bit of its last limb is 1 -/
theorem norm_ok {ys bs : List Int} {s : Nat} (hy : Wf ys) (hb : Wf bs) (fb : trimN bs bs.length = bs.length) (h2 : 2 ≤ trimN ys ys.length) (hs : s + bitsN ys = trimN ys ys.length * 32) (hv : val bs = val ys * 2 ^ s) :
    ∃ n, bs.length = n + 2 ∧ n + 2 = trimN ys ys.length ∧ 2147483648 ≤ bs.getD (n + 1) 0 := by
  obtain ⟨n, hn⟩ : ∃ n, trimN ys ys.length = n + 2 := ⟨trimN ys ys.length - 2, by omega⟩
  rcases bitsN_is hy with ⟨h0, _⟩ | ⟨j, hj, h3, h4⟩
  · exfalso; have := (bitsN_count hy).2.1; omega
  have e1 : s + j + 1 = (n + 2) * 32 := by omega
  have l1 : (2 : Int) ^ (s + j) ≤ val bs := by
    rw [hv, Nat.add_comm, Int.pow_add]
    exact mul_le_r (Int.le_of_lt (two_pos s)) h3
  have l2 : val bs < 2 ^ (s + j + 1) := by
    rw [hv, Nat.add_assoc, Nat.add_comm s, Int.pow_add]
    exact Int.mul_lt_mul_of_pos_right h4 (two_pos s)
  rw [e1, ← pow_limb] at l2
  have e2 : (2 : Int) ^ (s + j) = 4294967296 ^ (n + 1) * 2147483648 := by
    rw [pow_limb, show s + j = (n + 1) * 32 + 31 by omega, Int.pow_add]
    rfl
  rw [e2] at l1
  have hlen : bs.length = n + 2 := by
    rcases Nat.lt_trichotomy bs.length (n + 2) with h | h | h
    · exfalso
      have k1 := val_lt hb
      have k2 : (4294967296 : Int) ^ bs.length ≤ 4294967296 ^ (n + 1) := by rw [pow_limb, pow_limb]; exact two_mono (by omega)
      have k3 := pow_pos' (n + 1)
      omega
    · exact h
    · exfalso
      have k1 := full_ge hb fb (bs.length - 1) (by omega)
      have k2 : (4294967296 : Int) ^ (n + 2) ≤ 4294967296 ^ (bs.length - 1) := by rw [pow_limb, pow_limb]; exact two_mono (by omega)
      omega
  refine ⟨n, hlen, hn.symm, ?_⟩
  have k1 := val_take_succ bs (n + 1)
  rw [List.take_of_length_le (by omega)] at k1
  have k2 := val_lt (hb.take (n + 1))
  rw [List.length_take, Nat.min_eq_left (by omega)] at k2
  rcases Int.lt_or_le (bs.getD (n + 1) 0) 2147483648 with h | h
  · exfalso
    have k3 := mul_le_l (a := bs.getD (n + 1) 0) (b := 2147483647) (c := 4294967296 ^ (n + 1)) (Int.le_of_lt (pow_pos' _)) (by omega)
    omega
  · exact h
/-- a limb of the quotient -/
theorem long_step {zs ls : List Int} {i t : Nat} {q V : Int} (hz : Wf zs) (hl : Wf ls) (hll : ls.length = t + 1) (hi : i + t < zs.length) (hV0 : 0 ≤ V) (hV : V < 4294967296 ^ t) (hlt : val zs < 4294967296 ^ (i + 1) * V) :
    val (sub zs i (t + 1)) < 4294967296 * V ∧ (val ls = val (sub zs i (t + 1)) - q * V → val ls < V → val (putAt zs i ls) = val zs - 4294967296 ^ i * (q * V) ∧ val (putAt zs i ls) < 4294967296 ^ i * V) := by
  have hp := pow_pos' i
  have hd0 : val (zs.drop (i + 1 + t)) = 0 := by
    refine val_drop0 hz _ ?_
    rw [Int.pow_add]
    have h1 := mul_le_l (a := V) (b := 4294967296 ^ t) (c := 4294967296 ^ (i + 1)) (Int.le_of_lt (pow_pos' _)) (Int.le_of_lt hV)
    omega
  have h1 := val_split (xs := zs) i (by omega)
  have h2 := val_split (xs := zs.drop i) (t + 1) (by rw [List.length_drop]; omega)
  rw [List.drop_drop, show i + (t + 1) = i + 1 + t by omega, hd0, Int.mul_zero, Int.add_zero] at h2
  have h3 := val_nonneg (hz.take i)
  have h4 := val_lt (hz.take i)
  rw [List.length_take, Nat.min_eq_left (by omega)] at h4
  have hput : val (putAt zs i ls) = val (zs.take i) + 4294967296 ^ i * val ls := by
    unfold putAt
    rw [val_cat3, hll, show i + (t + 1) = i + 1 + t by omega, hd0, List.length_take, Nat.min_eq_left (by omega), Int.mul_zero, Int.add_zero]
  have hU : val (zs.drop i) = val (sub zs i (t + 1)) := h2
  rw [hU] at h1
  generalize val (sub zs i (t + 1)) = U at *
  rw [Int.pow_succ] at hlt
  generalize (4294967296 : Int) ^ i = P at *
  refine ⟨?_, fun e1 e2 => ⟨?_, ?_⟩⟩
  · rcases Int.lt_or_le U (4294967296 * V) with h | h
    · exact h
    · exfalso
      have h5 := mul_le_l (c := P) (by omega) h
      rw [← Int.mul_assoc] at h5
      omega
  · rw [hput, h1, e1, Int.mul_sub]; omega
  · rw [hput]
    have h5 := mul_le_l (a := val ls) (b := V - 1) (c := P) (by omega) (by omega)
    rw [Int.mul_sub, Int.mul_one] at h5
    omega
theorem long_alg (Z P V q Q : Int) : Z + V * (P * 4294967296 * Q) = Z - P * (q * V) + V * (P * (q + 4294967296 * Q)) := by grind
/-- what is left, shifted back -/
theorem long_end {A B Q R s : Int} (hs : 0 < s) (h : A * s = R + B * s * Q) (h0 : 0 ≤ R) (h1 : R < B * s) : Q = A / B ∧ R / s = A % B := by
  have hB : 0 < B := by
    rcases Int.lt_or_le 0 B with k | k
    · exact k
    · exfalso
      have := mul_le_r (a := B) (b := 0) (c := s) (by omega) k
      omega
  have e : R = (A - B * Q) * s := by rw [Int.sub_mul]; have : B * Q * s = B * s * Q := by rw [Int.mul_assoc, Int.mul_comm Q, ← Int.mul_assoc]; 
                                     omega
  have hr : R / s = A - B * Q := by rw [e]; exact Int.mul_ediv_cancel _ (by omega)
  have r0 : 0 ≤ A - B * Q := by rw [← hr]; exact Int.ediv_nonneg h0 (by omega)
  have r1 : A - B * Q < B := by
    rw [← hr]
    exact Int.ediv_lt_of_lt_mul hs h1
  obtain ⟨q1, q2⟩ := quo_eq (V := Q) (d := B) (r := A - B * Q) (N := A) hB (by rw [Int.mul_comm]; omega) ⟨r0, r1⟩
  exact ⟨q1, by rw [hr]; exact q2⟩
theorem Lim.grown {w w' : World} {ad : Option Addr} {xs : List Int} {row : Option Nat} (h : Lim w ad xs) (k : w.grownBy w' row) (hne : ∀ a, ad = some a → some a.block ≠ row) : Lim w' ad xs := by
  rcases h with rfl | ⟨b, off, rfl, hc⟩
  · exact .inl rfl
  · exact .inr ⟨b, off, rfl, fun i hi => k.cell (hc i hi) (show some b ≠ row from hne ⟨b, off, none⟩ rfl)⟩
set_option maxRecDepth 100000 in
set_option maxHeartbeats 4000000 in
theorem long_any {u v : Value} {xs ys : List Int} {a b : Option Addr} {capa capb : Nat} {w : World} (h1 : Arg w u xs a capa) (h2 : Arg w v ys b capb) (hx : xs.length ≤ 134217728) (hy : ys.length ≤ 134217728) (h2y : 2 ≤ trimN ys ys.length) (hle : val ys ≤ val xs) :
    Calls Tryz.prog 124 #[u, v] w fun e w' => ∃ r t, e = .returned (.tuple #[r, t]) ∧ Below w.heap.size w w' ∧ (∃ zs, Res w.heap.size w' r zs (val xs / val ys) ∧ zs.length ≤ xs.length + 2) ∧ (∃ zs, Res w.heap.size w' t zs (val xs % val ys) ∧ zs.length ≤ xs.length + 2) := by
  obtain ⟨c1, c2, c3⟩ := bitsN_count h2.wf
  have hty := trim_le ys
  have hcount := count_any h2 (by omega)
  have hbits := bits_res h2 (by omega) (bitsN_is h2.wf)
  obtain ⟨s, hs⟩ : ∃ s, s + bitsN ys = trimN ys ys.length * 32 := ⟨trimN ys ys.length * 32 - bitsN ys, by omega⟩
  obtain ⟨t, ht⟩ : ∃ t, trimN ys ys.length = t := ⟨_, rfl⟩
  obtain ⟨kb, hkb⟩ : ∃ kb, bitsN ys = kb := ⟨_, rfl⟩
  have hnorm := fun (bs : List Int) hb fb hv => norm_ok (ys := ys) (bs := bs) (s := s) h2.wf hb fb h2y hs hv
  rw [hkb] at hbits c2 c3 hs
  rw [ht] at hcount hs c2 c3 hnorm hty h2y
  have hsub : ((t : Int) * 32 - (kb : Int)) = (s : Int) := by omega
  have hs32 : s ≤ 31 := by omega
  have hxw := h1.wf
  have hyw := h2.wf
  have HS := Lib.hid hs
  have HNORM := Lib.hid hnorm
  clear c1 c2 c3 hs hnorm ht hkb
  obtain ⟨i0, hi, hz0, hz1, hz2⟩ := info_parts infoLimb
  go_enter Tryz.func124, Tryz.ntmps124
  go_wp2_with fail
  refine hcount.mono ?_
  rintro e w' ⟨rfl, rfl⟩
  go_wp2_with fail
  refine hbits.mono ?_
  rintro e w' ⟨rfl, rfl⟩
  clear hcount hbits
  go_wp2_with fail
  refine (shl_any s h2 (by omega) (by omega) (by omega)).mono ?_
  rintro e w1 ⟨r1, bs, rfl, q1, n1, hb1⟩
  have A1 := h1.later hb1
  rw [Int.toNat_natCast] at q1 n1
  go_wp2_with fail
  refine (shl_any s A1 (by omega) (by omega) (by omega)).mono ?_
  rintro e w2 ⟨r2, cs, rfl, q2, n2, hb2⟩
  rw [Int.toNat_natCast] at q2 n2
  obtain ⟨n, ebl, _, etop⟩ := HNORM.out bs q1.wf q1.full q1.eq
  have hs1 := hb1.size
  have hs2 := hb2.size
  have hB2 : Below w.heap.size w w2 := hb1.trans (hb2.mono hs1)
  have hcl : bs.length ≤ cs.length := by
    rcases Nat.lt_or_ge cs.length bs.length with k | k
    · exfalso
      have := len_lt q2.wf q1.wf q1.full k
      rw [q1.eq, q2.eq] at this
      have := mul_le_r (Int.le_of_lt (two_pos s)) hle
      omega
    · exact k
  have hV0 : 0 < val bs := by
    have h1 := full_ge q1.wf q1.full (n + 1) (by omega)
    have h2 := pow_pos' (n + 1)
    omega
  have hV1 := val_lt q1.wf
  -- b lies below what comes
  obtain ⟨bg, bo, capb1, hbv, hbcell, hbg⟩ : ∃ bg bo cp, r1 = .slice (some ⟨bg, bo, none⟩) bs.length cp ∧ (∀ j, j < bs.length → w2.cell? ⟨bg, bo + j, none⟩ = some (.int .u32 (bs.getD j 0))) ∧ bg < w1.heap.size := by
    obtain ⟨ad, cp, e1, e2, _, _, e5⟩ := q1.num.read
    have e2' := e2.later hb2
    rcases e2' with e | ⟨bg, bo, rfl, hc⟩
    · rw [e] at ebl; simp at ebl
    · exact ⟨bg, bo, cp, e1, hc, (e5 _ rfl).2⟩
  subst hbv
  have hwb := q1.wf
  have HFB := Lib.hid q1.full
  have q1eq := q1.eq
  have hrow := q2.num
  unfold Num at hrow
  have hcsw := q2.wf
  have hcse := q2.eq
  have hxl : cs.length ≤ 134217730 := by omega
  have hcx : cs.length ≤ xs.length + 1 := by omega
  have hN := Lib.hid q2.num
  have HEB := Lib.hid ebl
  have HTOP := Lib.hid etop
  have HC := Lib.hid hbcell
  have HQ1 := Lib.hid q1eq
  have HQ2 := Lib.hid hcse
  have hn1 : bs.length ≤ 134217730 := by omega
  obtain ⟨M, hM⟩ : ∃ M, M + bs.length = cs.length + 1 := ⟨cs.length + 1 - bs.length, by omega⟩
  have hMi : ((cs.length : Int) + 1 - (bs.length : Int)) = (M : Int) := by omega
  have hmk := make_runN M M (Nat.le_refl _) (by omega)
  have HM := Lib.hid hM
  clear hM
  clear q1 q2 hb1 A1 h1 h2 n1 n2 HNORM ebl etop hbcell q1eq hcse hle
  go_wp2_with (at_builtin; refine wpList_append_own _ rfl _ _ 42 rfl w1.heap.size 112 i0 (.int .u32 0) 1 4 Tryz.underlying42 hi hz0 hz1 hz2 rfl (by decide) _ _ _ rfl (hrow.alloc _) ⟨w2.heap.size, 0, none⟩ 1 1 [.int .u32 0] rfl rfl (cell_one_new _ _ _) (by simp [Value.oneCell']) (by unfold maxLen; omega) (by omega) (by simp; omega) ?_; intro v' w3 hown' hgrow _; have hnum : Num w1.heap.size w3 v' (cs ++ [0]) := (by unfold Num; rw [List.length_append, List.map_append]; exact hown'); obtain ⟨g, cap, rfl, hg, hcapm, hpart⟩ : ∃ g cap, v' = .slice (some ⟨g, 0, none⟩) (cs ++ [0]).length cap ∧ w1.heap.size ≤ g ∧ cap ≤ maxLen ∧ Part w3 g cap (cs ++ [0]) := hnum.parts.resolve_left (fun h => by have := h.2; simp at this))
  have hw3 : Below w.heap.size w w3 := (hB2.alloc (by omega) _).grown hgrow (by simp; omega) (fun k hk => Nat.le_trans hs1 (hN.out.lt k hk).1)
  have hs3 : w2.heap.size ≤ w3.heap.size := by have := hgrow.size; simp at this; omega
  have hlimb : Lim w3 (some ⟨bg, bo, none⟩) bs := by
    have h1 : Lim w2 (some ⟨bg, bo, none⟩) bs := .inr ⟨bg, bo, rfl, HC.out⟩
    refine Lim.grown (h1.later ((Below.refl w2.heap.size w2).alloc (Nat.le_refl _) _)) hgrow (fun a e => ?_)
    cases e
    intro e2
    have := (hN.out.lt bg e2.symm).1
    omega
  have hglt := hpart.lt
  obtain ⟨L, hL⟩ : ∃ L, (cs ++ [0]).length = L := ⟨_, rfl⟩
  have hLc : L = cs.length + 1 := by rw [← hL]; simp
  have hV := HQ1.out
  have hwz0 : Wf (cs ++ [0]) := hcsw.append (wf1 (by omega))
  have hv0 : val (cs ++ [0]) = val cs := by rw [val_append]; simp [val]
  have HL := Lib.hid hL
  have HLC := Lib.hid hLc
  have HV := Lib.hid hV
  have hpart0 := hpart.alloc (.cells (madeCells #[.int .u32 0] M) 112)
  have hblk0 := Blk.made w3 M
  have hlim0 := hlimb.later ((Below.refl w3.heap.size w3).alloc (Nat.le_refl _) (.cells (madeCells #[.int .u32 0] M) 112))
  have hw4 : Below w.heap.size w (w3.alloc (.cells (madeCells #[.int .u32 0] M) 112)) := hw3.alloc (by omega) _
  have hvstart : val (cs ++ [0]) < 4294967296 ^ M * val bs := by
    rw [hv0]
    have h1 := val_lt hcsw
    have hbl := HEB.out
    have h3 := full_ge (us := bs) hwb HFB.out (n + 1) (by omega)
    have h2 := mul_le_l (a := 4294967296 ^ (n + 1)) (b := val bs) (c := 4294967296 ^ M) (Int.le_of_lt (pow_pos' _)) h3
    rw [← Int.pow_add, show M + (n + 1) = cs.length by have := HM.out; omega] at h2
    omega
  have HBG := Lib.hid (show bg < g by omega)
  clear hpart hown' hgrow hnum hlimb hL hLc hV hrow hbg
  go_loopw [9] (fun i wr => ∃ (k : Nat) (zs qs : List Int), k ≤ M ∧ i = .int .i64 ((k : Int) - 1) ∧ zs.length = L ∧ Wf zs ∧ Part wr g cap zs ∧ Blk wr w3.heap.size (List.replicate k 0 ++ qs) ∧ qs.length + k = M ∧ Wf qs ∧
      val zs < 4294967296 ^ k * val bs ∧ val cs = val zs + val bs * (4294967296 ^ k * val qs) ∧ Lim wr (some ⟨bg, bo, none⟩) bs ∧ Below w.heap.size w wr) (fun i _ => (intOf i + 1).toNat)
  case atStart =>
    refine ⟨M, cs ++ [0], [], Nat.le_refl _, by simp, HL.out, hwz0, hpart0, by simpa using hblk0, by simp, Wf.nil, hvstart, by rw [hv0]; simp [val], hlim0, hw4⟩
  case round =>
    obtain ⟨k, zs, qs, hk, rfl, hzl, hzw, hpart, hblk, hql, hqw, hlt, hval, hlim, hb⟩ := hrel
    have hsz := hb.size
    have hM := HM.out
    have hLc := HLC.out
    clear hpart0 hblk0 hlim0 hw4 hvstart hwz0 hv0 hw3 hB2
    by_cases hgo : 0 < k
    · obtain ⟨j, rfl⟩ : ∃ j, k = j + 1 := ⟨k - 1, by omega⟩
      have hji : (((j + 1 : Nat) : Int) - 1) = (j : Int) := by omega
      rw [hji]
      have hcapL := hpart.le
      have hVn : 0 ≤ val bs := by omega
      obtain ⟨hU, _⟩ := long_step (zs := zs) (ls := List.replicate (bs.length + 1) 0) (i := j) (t := bs.length) (q := 0) (V := val bs) hzw (Wf.zeros _) (by simp) (by omega) hVn hV1 hlt
      have hcy : ∀ i, i < bs.length → wr.cell? ⟨bg, bo + i, none⟩ = some (.int .u32 (bs.getD i 0)) := by
        rcases hlim with e | ⟨b', o', e, hc⟩
        · rw [e]; intro i h; simp at h
        · cases e; exact hc
      have hbgg : bg ≠ g := by
        have := HBG.out
        omega
      have hdiv := divide_any (g := g) (cap := cap) (capp := cap - j) (i := j) (bg := bg) (bo := bo) (capb := capb1) (zs := zs) (ys := bs) (w := wr) n hpart hzw hwb HEB.out (by omega) (by omega) hcy hbgg HTOP.out hU
      have s1 : (0 : Int) ≤ (j : Int) := by omega
      have s2 : (j : Int) + (bs.length : Int) + 1 ≤ (cap : Int) := by omega
      have s3 : (j : Int) < (M : Int) := by omega
      have HK := Lib.hid hk
      have HZL := Lib.hid hzl
      have HQL := Lib.hid hql
      have HLT := Lib.hid hlt
      have HVAL := Lib.hid hval
      clear hk hzl hql hlt hval hLc hM hcy hgo
      go_wp2_with fail
      rw [show j + bs.length + 1 - j = bs.length + 1 from by omega]
      refine hdiv.mono ?_
      rintro e w5 ⟨q, ls, rfl, q0, q1, hll, hlw, hp5, hvl, hvlt, hg5⟩
      have hne : w3.heap.size ≠ g := by omega
      have hblk5 := hblk.grown hg5 (fun e => hne (Option.some.inj e))
      have hlim5 := Lim.grown hlim hg5 (fun a e => by cases e; intro e2; exact hbgg (Option.some.inj e2))
      have hb5 : Below w.heap.size w w5 := hb.grown hg5 hsz (fun k hk => by cases hk; omega)
      have hlz : (List.replicate (j + 1) 0 ++ qs).length = M := by rw [List.length_append, List.length_replicate]; have := HQL.out; omega
      have hcell := hblk5.cell j (by omega)
      have hfree := hblk5.free j
      have hset := hblk5.set j q
      rw [set_front] at hset
      have hzl := HZL.out
      obtain ⟨_, hst⟩ := long_step (zs := zs) (ls := ls) (i := j) (t := bs.length) (q := q) (V := val bs) hzw hlw hll (by have := HLC.out; have := HM.out; have := HK.out; omega) hVn hV1 HLT.out
      obtain ⟨st1, st2⟩ := hst hvl hvlt
      have hpl := putAt_length zs ls j (by rw [hll, hzl]; have := HLC.out; have := HM.out; have := HK.out; omega)
      have fin : ∃ (k' : Nat) (zs' qs' : List Int), k' ≤ M ∧ Value.int .i64 ((j : Int) - 1) = .int .i64 ((k' : Int) - 1) ∧ zs'.length = L ∧ Wf zs' ∧ Part (w5.setCell ⟨w3.heap.size, j, none⟩ (.int .u32 q)) g cap zs' ∧ Blk (w5.setCell ⟨w3.heap.size, j, none⟩ (.int .u32 q)) w3.heap.size (List.replicate k' 0 ++ qs') ∧ qs'.length + k' = M ∧ Wf qs' ∧
          val zs' < 4294967296 ^ k' * val bs ∧ val cs = val zs' + val bs * (4294967296 ^ k' * val qs') ∧ Lim (w5.setCell ⟨w3.heap.size, j, none⟩ (.int .u32 q)) (some ⟨bg, bo, none⟩) bs ∧ Below w.heap.size w (w5.setCell ⟨w3.heap.size, j, none⟩ (.int .u32 q)) := by
        have hO : Only w3.heap.size w5 (w5.setCell ⟨w3.heap.size, j, none⟩ (.int .u32 q)) := Only.set _ _ _ _
        refine ⟨j, putAt zs j ls, q :: qs, by have := HK.out; omega, rfl, hpl.trans hzl, putAt_wf _ hzw hlw, hp5.far (p := ⟨w3.heap.size, j, none⟩) (Ne.symm hne) _, hset, by rw [List.length_cons]; have := HQL.out; omega, Wf.cons ⟨q0, q1⟩ hqw, st2, ?_, Lim.grown hlim5 hO.grown (fun a e => by cases e; intro e2; have e3 : bg = w3.heap.size := Option.some.inj e2; have := HBG.out; omega), hb5.setCell (p := ⟨w3.heap.size, j, none⟩) (by simp; omega) _⟩
        rw [HVAL.out, st1]
        simp only [val]
        rw [Int.pow_succ]
        exact long_alg _ _ _ _ _
      have FIN := Lib.hid fin
      clear fin hset hp5 hblk5 hlim5 hb5 hg5 hvl hvlt st1 st2 hst hpl hlz hdiv hU
      go_wp2
      go_roundw
      case rel => exact FIN.out
      case measure => simp [intOf]
    · obtain rfl : k = 0 := by omega
      have hji : (((0 : Nat) : Int) - 1) = -1 := by omega
      rw [hji]
      rw [List.replicate_zero, List.nil_append] at hblk
      rw [Int.pow_zero, Int.one_mul] at hlt hval
      rw [HQ2.out, HV.out] at hval
      rw [HV.out] at hlt
      have hz0 := val_nonneg hzw
      obtain ⟨e1, e2⟩ := long_end (A := val xs) (B := val ys) (Q := val qs) (R := val zs) (s := 2 ^ s) (two_pos s) hval hz0 hlt
      have hql' : qs.length = M := by omega
      have Aq : Arg wr (.slice (some ⟨w3.heap.size, 0, none⟩) M M) qs (some ⟨w3.heap.size, 0, none⟩) M := ⟨by rw [hql'], hblk.lim, by omega, hqw⟩
      have Az : Arg wr (.slice (some ⟨g, 0, none⟩) (cs.length + 1) cap) zs (some ⟨g, 0, none⟩) cap := ⟨by rw [hzl, hLc], hpart.lim, hpart.le, hzw⟩
      have E1 := Lib.hid e1
      have E2 := Lib.hid e2
      have hzl2 : zs.length ≤ xs.length + 2 := by omega
      have HX := Lib.hid (show M ≤ xs.length + 2 by omega)
      clear hpart hblk hlt hval hlim e1 e2 hz0 hV0
      go_wp2_with fail
      refine (trim_res Aq (by omega)).mono ?_
      rintro e w6 ⟨r6, l6, rfl, q6, n6, hb6⟩
      have Az6 := Az.later hb6
      have hs6 := hb6.size
      go_wp2_with fail
      refine (shr_any s Az6 (by omega) (by omega) (by omega)).mono ?_
      rintro e w7 ⟨r7, l7, rfl, q7, n7, hb7⟩
      have q6' := q6.later hb7
      rw [Int.toNat_natCast] at q7
      have hB7 : Below w.heap.size w w7 := (hb.trans (hb6.mono hsz)).trans (hb7.mono (by omega))
      have hX := HX.out
      go_wp2_with fail
      go_ret2
      exact ⟨r6, r7, rfl, hB7, ⟨l6, ⟨q6'.num.mono hsz, q6'.wf, q6'.full, q6'.eq.trans E1.out⟩, by omega⟩, ⟨l7, ⟨q7.num.mono (by omega), q7.wf, q7.full, q7.eq.trans E2.out⟩, by omega⟩⟩
end
section
open Go.RowKit
set_option linter.unusedVariables false
set_option linter.unusedSimpArgs false
theorem full_len {zs : List Int} {m : Nat} (hw : Wf zs) (hf : trimN zs zs.length = zs.length) (h : val zs < 4294967296 ^ m) : zs.length ≤ m := by
  rcases Nat.lt_or_ge m zs.length with k | k
  · exfalso
    have h1 := full_ge hw hf (zs.length - 1) (by omega)
    have h2 : (4294967296 : Int) ^ m ≤ 4294967296 ^ (zs.length - 1) := by rw [pow_limb, pow_limb]; exact two_mono (by omega)
    omega
  · exact k
theorem Res.lenLe {base : Nat} {w : World} {u : Value} {zs xs : List Int} {n : Int} (h : Res base w u zs n) (hx : Wf xs) (hle : n ≤ val xs) : zs.length ≤ xs.length := by
  have := val_lt hx
  exact full_len h.wf h.full (by rw [h.eq]; omega)
theorem Res.nil (base : Nat) (w : World) : Res base w (.slice none 0 0) [] 0 := ⟨⟨rfl, .inl ⟨rfl, rfl⟩⟩, Wf.nil, rfl, rfl⟩
theorem ediv_le {a b : Int} (ha : 0 ≤ a) (hb : 0 < b) : a / b ≤ a := Int.ediv_le_self b ha
theorem emod_le {a b : Int} (ha : 0 ≤ a) (hb : 0 < b) : a % b ≤ a := by
  have h1 := Int.emod_add_mul_ediv a b
  have h2 := Int.mul_nonneg (show 0 ≤ b by omega) (Int.ediv_nonneg ha (show 0 ≤ b by omega))
  omega
theorem val_zero {xs : List Int} (h : Wf xs) : val xs = 0 ↔ trimN xs xs.length = 0 := by
  constructor
  · intro h0
    rcases Nat.eq_zero_or_pos (trimN xs xs.length) with k | k
    · exact k
    · exfalso
      have h1 := full_ge h.trim (trim_full xs) (trimN xs xs.length - 1) (by rw [trim_length]; omega)
      rw [val_trim] at h1
      have := pow_pos' (trimN xs xs.length - 1)
      omega
  · intro h0
    rw [← val_trim xs]
    unfold trim
    rw [h0]
    rfl
set_option maxRecDepth 100000 in
set_option maxHeartbeats 1000000 in
theorem div_zero {u v : Value} {xs ys : List Int} {a b : Option Addr} {capa capb : Nat} {w : World} (h1 : Arg w u xs a capa) (h2 : Arg w v ys b capb) (hy : ys.length ≤ 134217728) (h0 : val ys = 0) :
    Calls Tryz.prog 92 #[u, v] w fun e w' => e = .returned (.tuple #[.slice none 0 0, .slice none 0 0, .int .i64 17]) ∧ Below w.heap.size w w' := by
  have hc := count_any h2 (by omega)
  rw [(val_zero h2.wf).1 h0] at hc
  have hd : (((0 : Nat) : Int) == 0) = true := by simp
  go_enter Tryz.func92, Tryz.ntmps92
  go_wp2_with fail
  refine hc.mono ?_
  rintro e w' ⟨rfl, rfl⟩
  go_wp2_with fail
  go_ret3
  exact ⟨rfl, Below.refl _ _⟩
set_option maxRecDepth 100000 in
set_option maxHeartbeats 1000000 in
theorem div_any {u v : Value} {xs ys : List Int} {a b : Option Addr} {capa capb : Nat} {w : World} (h1 : Arg w u xs a capa) (h2 : Arg w v ys b capb) (hx : xs.length ≤ 134217728) (hy : ys.length ≤ 134217728) (h0 : 0 < val ys) :
    Calls Tryz.prog 92 #[u, v] w fun e w' => ∃ r t, e = .returned (.tuple #[r, t, .int .i64 0]) ∧ Below w.heap.size w w' ∧ (∃ zs, Res w.heap.size w' r zs (val xs / val ys) ∧ zs.length ≤ xs.length) ∧
      (∃ zs, Res w.heap.size w' t zs (val xs % val ys) ∧ zs.length ≤ xs.length ∧ zs.length ≤ ys.length) := by
  have hc := count_any h2 (by omega)
  have hx0 := val_nonneg h1.wf
  have hq := ediv_le hx0 h0
  have hr := emod_le hx0 h0
  have hr2 := Int.emod_lt_of_pos (val xs) h0
  obtain ⟨t, ht⟩ : ∃ t, trimN ys ys.length = t := ⟨_, rfl⟩
  have htp : t ≠ 0 := by
    intro e
    have := (val_zero h2.wf).2 (ht.trans e)
    omega
  rw [ht] at hc
  have hd0 : ((t : Int) == 0) = false := by simp; omega
  have HQ := Lib.hid hq
  have HR := Lib.hid hr
  have HR2 := Lib.hid hr2
  clear hq hr hr2
  by_cases ht1 : t = 1
  · subst ht1
    have hd1 : (((1 : Nat) : Int) == 1) = true := by decide
    have hv1 := val_take_ge ys 1 (by omega)
    rw [val_take_succ] at hv1
    simp only [List.take_zero, val, Int.pow_zero, Int.one_mul, Int.zero_add] at hv1
    have hb := h2.wf.getD 0
    obtain ⟨bx, hbx⟩ : ∃ bx, ys.getD 0 0 = bx := ⟨_, rfl⟩
    rw [hbx] at hv1 hb
    have hl1 := trim_le ys
    rw [ht] at hl1
    obtain ⟨rfl, ly, hle, wy⟩ := h2
    rcases ly with rfl | ⟨bb, off, rfl, hcell⟩
    · simp at hl1
    have hc0 := hcell 0 (by omega)
    rw [hbx, Nat.add_zero] at hc0
    have hlt : (0 : Int) < (ys.length : Int) := by omega
    have HV := Lib.hid hv1
    have HY := Lib.hid wy
    clear hcell ht hbx hv1 hd0 htp
    go_enter Tryz.func92, Tryz.ntmps92
    go_wp2_with fail
    refine hc.mono ?_
    rintro e w' ⟨rfl, rfl⟩
    clear hc
    go_wp2_with fail
    refine (short1_any bx h1 (by omega) ⟨by rw [HV.out]; exact h0, hb.2⟩).mono ?_
    rintro e w2 ⟨r2, rfl, z2, q2, n2, hb2⟩
    have hm0 : 0 ≤ val xs % bx := Int.emod_nonneg _ (by rw [HV.out]; omega)
    have hm1 : val xs % bx < 18446744073709551616 := by have := HR2.out; rw [← HV.out] at this; omega
    have hwm : IntKind.u64.wrap (val xs % bx) = val xs % bx := wrap_u64 hm0 hm1
    go_wp2_with fail
    refine (ofN_any (val xs % bx) _ hm0 hm1).mono ?_
    rintro e w3 ⟨r3, z3, rfl, q3, n3, hb3⟩
    have hs2 := hb2.size
    have q2' := q2.later hb3
    have hB : Below w.heap.size w w3 := hb2.trans (hb3.mono hs2)
    rw [HV.out] at q2' q3
    have l2 := q3.lenLe h1.wf HR.out
    have l3 := q3.lenLe HY.out (Int.le_of_lt HR2.out)
    go_wp2_with fail
    go_ret3
    exact ⟨r2, r3, rfl, hB, ⟨z2, q2', n2⟩, ⟨z3, ⟨q3.num.mono hs2, q3.wf, q3.full, q3.eq⟩, l2, l3⟩⟩
  · have hd1 : ((t : Int) == 1) = false := by simp; omega
    have hcmp := cmp_res h1 h2 (by omega) (by omega)
    by_cases hlt : val xs < val ys
    · rw [sign_lt hlt] at hcmp
      have hn : decide ((-1 : Int) < 0) = true := by decide
      go_enter Tryz.func92, Tryz.ntmps92
      go_wp2_with fail
      refine hc.mono ?_
      rintro e w' ⟨rfl, rfl⟩
      clear hc
      go_wp2_with fail
      refine hcmp.mono ?_
      rintro e w2 ⟨rfl, hb2⟩
      clear hcmp
      have A1 := h1.later hb2
      have hs2 := hb2.size
      go_wp2_with fail
      refine (trim_res A1 (by omega)).mono ?_
      rintro e w3 ⟨r3, z3, rfl, q3, n3, hb3⟩
      have hB : Below w.heap.size w w3 := hb2.trans (hb3.mono hs2)
      have e1 : val xs / val ys = 0 := Int.ediv_eq_zero_of_lt hx0 hlt
      have e2 : val xs % val ys = val xs := Int.emod_eq_of_lt hx0 hlt
      have l3 := q3.lenLe h2.wf (Int.le_of_lt hlt)
      have E1 := Lib.hid e1
      have E2 := Lib.hid e2
      clear e1 e2
      go_wp2_with fail
      go_ret3
      exact ⟨_, r3, rfl, hB, ⟨[], by rw [E1.out]; exact Res.nil _ _, by simp⟩, ⟨z3, ⟨q3.num.mono hs2, q3.wf, q3.full, q3.eq.trans E2.out.symm⟩, n3, l3⟩⟩
    · have hn : decide (sign (val xs) (val ys) < 0) = false := decide_eq_false (by unfold sign; rw [if_neg hlt]; split <;> omega)
      go_enter Tryz.func92, Tryz.ntmps92
      go_wp2_with fail
      refine hc.mono ?_
      rintro e w' ⟨rfl, rfl⟩
      clear hc
      go_wp2_with fail
      refine hcmp.mono ?_
      rintro e w2 ⟨rfl, hb2⟩
      clear hcmp
      have A1 := h1.later hb2
      have A2 := h2.later hb2
      have hs2 := hb2.size
      go_wp2_with fail
      refine (long_any A1 A2 (by omega) (by omega) (by omega) (by omega)).mono ?_
      rintro e w3 ⟨r3, t3, rfl, hb3, ⟨z3, q3, _⟩, ⟨z4, q4, _⟩⟩
      have hB : Below w.heap.size w w3 := hb2.trans (hb3.mono hs2)
      have l1 := q3.lenLe h1.wf HQ.out
      have l2 := q4.lenLe h1.wf HR.out
      have l3 := q4.lenLe h2.wf (Int.le_of_lt HR2.out)
      go_wp2_with fail
      go_ret3
      exact ⟨r3, t3, rfl, hB, ⟨z3, ⟨q3.num.mono hs2, q3.wf, q3.full, q3.eq⟩, l1⟩, ⟨z4, ⟨q4.num.mono hs2, q4.wf, q4.full, q4.eq⟩, l2, l3⟩⟩
end
section
open Go.RowKit
set_option linter.unusedVariables false
set_option linter.unusedSimpArgs false
set_option maxRecDepth 100000 in
set_option maxHeartbeats 1000000 in
theorem shortGcd_any (x y : Int) (w : World) (hx : 0 ≤ x ∧ x < 18446744073709551616) (hy : 0 ≤ y ∧ y < 18446744073709551616) :
    Calls Tryz.prog 120 #[.int .u64 x, .int .u64 y] w fun e w' => e = .returned (.int .u64 (Int.gcd x y : Int)) ∧ Below w.heap.size w w' := by
  obtain ⟨hx0, hx1⟩ := hx
  obtain ⟨hy0, hy1⟩ := hy
  go_enter Tryz.func120, Tryz.ntmps120
  go_wp2
  go_loopw [0, 1] (fun p q wr => ∃ P Q : Int, p = .int .u64 P ∧ q = .int .u64 Q ∧ 0 ≤ P ∧ P < 18446744073709551616 ∧ 0 ≤ Q ∧ Q < 18446744073709551616 ∧ Int.gcd P Q = Int.gcd x y ∧ Below w.heap.size w wr) (fun _ q _ => (intOf q).toNat)
  case atStart => exact ⟨x, y, rfl, rfl, hx0, hx1, hy0, hy1, rfl, Below.refl _ _⟩
  case round =>
    obtain ⟨P, Q, rfl, rfl, hP0, hP1, hQ0, hQ1, hg, hb⟩ := hrel
    have hsz := hb.size
    have HG := Lib.hid hg
    clear hg
    by_cases hgo : 0 < Q
    · obtain ⟨m, hm⟩ : ∃ m, P % Q = m := ⟨_, rfl⟩
      have htm : Int.tmod P Q = m := by rw [Int.tmod_eq_emod_of_nonneg hP0, hm]
      have hm0 : 0 ≤ m := by rw [← hm]; exact Int.emod_nonneg _ (by omega)
      have hm1 : m < Q := by rw [← hm]; exact Int.emod_lt_of_pos _ hgo
      have hwm : IntKind.u64.wrap m = m := wrap_u64 (by omega) (by omega)
      have hq0 : Q ≠ 0 := by omega
      have hg2 : Int.gcd Q m = Int.gcd x y := by rw [← hm, gcd_step]; exact HG.out
      have HG2 := Lib.hid hg2
      clear hg2 hm
      go_wp2
      go_quiet (fail)
      go_wp2
      go_roundw
      case rel => exact ⟨Q, m, rfl, rfl, hQ0, hQ1, hm0, by omega, HG2.out, ⟨hb.os, hb.tape, hb.output, hb.size, hb.block⟩⟩
      case measure => simp [intOf]; omega
    · obtain rfl : Q = 0 := by omega
      have hfin : P = (Int.gcd x y : Int) := by rw [← HG.out]; exact (gcd_end hP0).symm
      have HF := Lib.hid hfin
      clear hfin
      go_wp2
      go_ret
      exact ⟨by rw [← HF.out]; rfl, hb⟩
/-- loops over pairs: how much is left -/
def leftN (w : World) (v : Value) : Nat := (val (readV w v)).toNat
theorem Arg.left {w : World} {u : Value} {xs : List Int} {a : Option Addr} {cap : Nat} (h : Arg w u xs a cap) : leftN w u = (val xs).toNat := by unfold leftN; rw [h.read]
theorem bits_pos {xs : List Int} (h : Wf xs) : 0 < val xs ↔ 0 < bitsN xs := by
  rcases bitsN_is h with ⟨h1, h2⟩ | ⟨j, h1, h2, _⟩
  · omega
  · have := two_pos j; omega
theorem uint_gen {u : Value} {xs : List Int} {a : Option Addr} {capa : Nat} {w : World} (h1 : Arg w u xs a capa) (hx : xs.length ≤ 35184372088832) :
    Calls Tryz.prog 119 #[u] w fun e w' => (∃ X : Int, e = .returned (.tuple #[.int .u64 X, .bool (decide (val xs < 18446744073709551616))])) ∧ w = w' := by
  by_cases h : val xs < 18446744073709551616
  · rw [decide_eq_true h]
    exact (uint_small h1 hx h).mono fun e w' ⟨he, hw⟩ => ⟨⟨_, he⟩, hw⟩
  · rw [decide_eq_false h]
    exact (uint_big h1 hx (by omega)).mono fun e w' ⟨he, hw⟩ => ⟨⟨_, he⟩, hw⟩
set_option maxRecDepth 100000 in
set_option maxHeartbeats 2000000 in
theorem gcd_any {u v : Value} {xs ys : List Int} {a b : Option Addr} {capa capb : Nat} {w : World} (h1 : Arg w u xs a capa) (h2 : Arg w v ys b capb) (hx : xs.length ≤ 134217728) (hy : ys.length ≤ 134217728) :
    Calls Tryz.prog 89 #[u, v] w fun e w' => ∃ r zs, e = .returned r ∧ Res w.heap.size w' r zs (Int.gcd (val xs) (val ys) : Int) ∧ zs.length ≤ max xs.length ys.length + 2 ∧ Below w.heap.size w w' := by
  obtain ⟨m, hm⟩ : ∃ m, max xs.length ys.length = m := ⟨_, rfl⟩
  have hm2 : m ≤ 134217728 := by omega
  have hmx : xs.length ≤ m := by omega
  have hmy : ys.length ≤ m := by omega
  rw [hm]
  clear hm hx hy
  go_enter Tryz.func89, Tryz.ntmps89
  go_wp2
  go_loopw [0, 1, 5, 6, 7, 8, 9, 10, 11] (fun p q _ _ _ _ _ _ _ wr => ∃ (p' q' : Value) (us vs : List Int) (ad bd : Option Addr) (cp cq : Nat), p' = p ∧ q' = q ∧ Arg wr p' us ad cp ∧ Arg wr q' vs bd cq ∧ us.length ≤ m ∧ vs.length ≤ m ∧ Int.gcd (val us) (val vs) = Int.gcd (val xs) (val ys) ∧ Below w.heap.size w wr) (fun _ q _ _ _ _ _ _ _ wr => leftN wr q)
  case atStart => exact ⟨u, v, xs, ys, a, b, capa, capb, rfl, rfl, h1, h2, hmx, hmy, rfl, Below.refl _ _⟩
  case round =>
    obtain ⟨p, q, us, vs, ad, bd, cp, cq, rfl, rfl, A1, A2, hu, hv, hg, hb⟩ := hrel
    have hsz := hb.size
    have HG := Lib.hid hg
    clear hg h1 h2
    have hbits := bits_res A2 (by omega) (bitsN_is A2.wf)
    obtain ⟨nb, hnb⟩ : ∃ nb, bitsN vs = nb := ⟨_, rfl⟩
    have hbp := bits_pos A2.wf
    rw [hnb] at hbits hbp
    have hu0 := val_nonneg A1.wf
    have hv0 := val_nonneg A2.wf
    clear hnb
    by_cases hgo : 0 < nb
    · have hpos := hbp.2 hgo
      have hgo2 : (0 : Int) < (nb : Int) := by omega
      by_cases hs : val us < 18446744073709551616 ∧ val vs < 18446744073709551616
      · obtain ⟨hs1, hs2⟩ := hs
        go_wp2_with fail
        refine hbits.mono ?_
        rintro e w' ⟨rfl, rfl⟩
        clear hbits
        go_wp2_with fail
        refine (uint_small A1 (by omega) hs1).mono ?_
        rintro e w' ⟨rfl, rfl⟩
        go_wp2_with fail
        refine (uint_small A2 (by omega) hs2).mono ?_
        rintro e w' ⟨rfl, rfl⟩
        go_wp2_with fail
        refine (shortGcd_any (val us) (val vs) _ ⟨hu0, hs1⟩ ⟨hv0, hs2⟩).mono ?_
        rintro e w2 ⟨rfl, hb2⟩
        have hgl : (Int.gcd (val us) (val vs) : Int) < 18446744073709551616 := by
          have h3 : Int.gcd (val us) (val vs) ∣ (val vs).natAbs := Int.gcd_dvd_natAbs_right _ _
          have h4 := Nat.le_of_dvd (by omega) h3
          omega
        have hs3 := hb2.size
        go_wp2_with fail
        refine (ofN_any _ _ (Int.natCast_nonneg _) hgl).mono ?_
        rintro e w3 ⟨r3, z3, rfl, q3, n3, hb3⟩
        have hB := (hb.trans (hb2.mono hsz)).trans (hb3.mono (by omega))
        have q3e := q3.eq
        rw [HG.out] at q3e
        have HE := Lib.hid q3e
        clear q3e hgl hs1 hs2 hgo2 hpos hbp
        go_wp2_with fail
        go_ret
        exact ⟨r3, z3, rfl, ⟨q3.num.mono (by omega), q3.wf, q3.full, HE.out⟩, by omega, hB⟩
      · by_cases hs1 : val us < 18446744073709551616
        · have hs2 : ¬ val vs < 18446744073709551616 := fun h => hs ⟨hs1, h⟩
          have d1 : decide (val us < 18446744073709551616) = true := decide_eq_true hs1
          have d2 : decide (val vs < 18446744073709551616) = false := decide_eq_false hs2
          have u1 := uint_gen A1 (by omega)
          have u2 := uint_gen A2 (by omega)
          rw [d1] at u1
          rw [d2] at u2
          clear d1 d2
          go_wp2_with fail
          refine hbits.mono ?_
          rintro e w' ⟨rfl, rfl⟩
          clear hbits
          go_wp2_with fail
          refine u1.mono ?_
          rintro e w' ⟨⟨X, rfl⟩, rfl⟩
          go_wp2_with fail
          refine u2.mono ?_
          rintro e w' ⟨⟨Y, rfl⟩, rfl⟩
          go_wp2_with fail
          refine (div_any A1 A2 (by omega) (by omega) hpos).mono ?_
          rintro e w2 ⟨r2, s2, rfl, hb2, _, ⟨z2, q2, n2, n2'⟩⟩
          obtain ⟨ad2, cap2, A3⟩ := q2.arg
          have A2' := A2.later hb2
          have hB2 := hb.trans (hb2.mono hsz)
          have hl2 := A3.left
          have hleft := A2.left
          have hr1 := Int.emod_lt_of_pos (val us) hpos
          have hr2 := Int.emod_nonneg (val us) (show val vs ≠ 0 by omega)
          have hm3 : leftN w2 s2 < leftN wr q := by rw [hleft, hl2, q2.eq]; omega
          have hg3 : Int.gcd (val vs) (val z2) = Int.gcd (val xs) (val ys) := by rw [q2.eq, gcd_step]; exact HG.out
          have HG3 := Lib.hid hg3
          have HM3 := Lib.hid hm3
          clear hg3 hm3 hr1 hr2 hl2 hleft q2 A1 A2 hb2 hpos hbp hs
          go_wp2
          go_roundw
          case rel => exact ⟨_, _, vs, z2, bd, ad2, cq, cap2, rfl, rfl, A2', A3, hv, by omega, HG3.out, hB2⟩
          case measure => exact HM3.out
        · have d1 : decide (val us < 18446744073709551616) = false := decide_eq_false hs1
          have u1 := uint_gen A1 (by omega)
          have u2 := uint_gen A2 (by omega)
          rw [d1] at u1
          generalize decide (val vs < 18446744073709551616) = f2 at u2
          clear d1
          go_wp2_with fail
          refine hbits.mono ?_
          rintro e w' ⟨rfl, rfl⟩
          clear hbits
          go_wp2_with fail
          refine u1.mono ?_
          rintro e w' ⟨⟨X, rfl⟩, rfl⟩
          go_wp2_with fail
          refine u2.mono ?_
          rintro e w' ⟨⟨Y, rfl⟩, rfl⟩
          go_wp2_with fail
          refine (div_any A1 A2 (by omega) (by omega) hpos).mono ?_
          rintro e w2 ⟨r2, s2, rfl, hb2, _, ⟨z2, q2, n2, n2'⟩⟩
          obtain ⟨ad2, cap2, A3⟩ := q2.arg
          have A2' := A2.later hb2
          have hB2 := hb.trans (hb2.mono hsz)
          have hl2 := A3.left
          have hleft := A2.left
          have hr1 := Int.emod_lt_of_pos (val us) hpos
          have hr2 := Int.emod_nonneg (val us) (show val vs ≠ 0 by omega)
          have hm3 : leftN w2 s2 < leftN wr q := by rw [hleft, hl2, q2.eq]; omega
          have hg3 : Int.gcd (val vs) (val z2) = Int.gcd (val xs) (val ys) := by rw [q2.eq, gcd_step]; exact HG.out
          have HG3 := Lib.hid hg3
          have HM3 := Lib.hid hm3
          clear hg3 hm3 hr1 hr2 hl2 hleft q2 A1 A2 hb2 hpos hbp hs
          go_wp2
          go_roundw
          case rel => exact ⟨_, _, vs, z2, bd, ad2, cq, cap2, rfl, rfl, A2', A3, hv, by omega, HG3.out, hB2⟩
          case measure => exact HM3.out
    · have h0 : nb = 0 := by omega
      have hvz : val vs = 0 := by omega
      have hfin : val us = (Int.gcd (val xs) (val ys) : Int) := by rw [← HG.out, hvz]; exact (gcd_end hu0).symm
      have HF := Lib.hid hfin
      subst h0
      have hd : decide ((0 : Int) < ((0 : Nat) : Int)) = false := by decide
      clear hfin hvz hbp
      go_wp2_with fail
      refine hbits.mono ?_
      rintro e w' ⟨rfl, rfl⟩
      clear hbits
      go_wp2_with fail
      refine (trim_res A1 (by omega)).mono ?_
      rintro e w3 ⟨r3, z3, rfl, q3, n3, hb3⟩
      have hB := hb.trans (hb3.mono hsz)
      have HE := Lib.hid (q3.eq.trans HF.out)
      go_wp2_with fail
      go_ret
      exact ⟨r3, z3, rfl, ⟨q3.num.mono hsz, q3.wf, q3.full, HE.out⟩, by omega, hB⟩
end
section
open Go.RowKit
set_option linter.unusedVariables false
set_option linter.unusedSimpArgs false
theorem wrap3 (c : Int) (n : Nat) (h0 : 0 ≤ c) (h1 : c ≤ 56) (hn : n ≤ 8) : wrap64 (c + wrap64 (n : Int)) = c + n := by unfold wrap64; omega
theorem pow_bound {xs : List Int} (h : Wf xs) (e : Nat) : 0 ≤ val xs ^ e ∧ val xs ^ e ≤ 4294967296 ^ (xs.length * e) := by
  have h0 := val_nonneg h
  have h1 := val_lt h
  induction e with
  | zero => simp
  | succ e ih =>
    obtain ⟨i0, i1⟩ := ih
    rw [Int.pow_succ, Nat.mul_succ, Int.pow_add]
    refine ⟨Int.mul_nonneg i0 h0, ?_⟩
    have a := mul_le_r (c := val xs) h0 i1
    have b := mul_le_l (a := val xs) (b := 4294967296 ^ xs.length) (c := 4294967296 ^ (xs.length * e)) (Int.le_of_lt (pow_pos' _)) (Int.le_of_lt h1)
    omega
theorem pow_len {xs ds : List Int} {e : Nat} (h : Wf xs) (hd : Wf ds) (fd : trimN ds ds.length = ds.length) (hv : val ds = val xs ^ e) : ds.length ≤ xs.length * e + 1 := by
  refine full_len hd fd ?_
  have h1 := (pow_bound h e).2
  have h2 : (4294967296 : Int) ^ (xs.length * e) < 4294967296 ^ (xs.length * e + 1) := by
    rw [Int.pow_succ]; have := pow_pos' (xs.length * e); omega
  omega
theorem and_one64 (x : Nat) (h : x < 2147483648) : bits .and .i64 (x : Int) 1 = ((x % 2 : Nat) : Int) := by
  show IntKind.i64.wrap ((BitVec.ofInt 64 (x : Int) &&& BitVec.ofInt 64 ((1 : Nat) : Int)).toNat : Int) = _
  rw [BitVec.toNat_and, ofInt_u64 x (by omega), ofInt_u64 1 (by omega), Nat.and_one_is_mod]
  exact IntWalk.i64_in _ (by omega)
theorem and_shift (N j b : Nat) (h : N < 2147483648) (hb : N / 2 ^ j % 2 = b) : bits .and .i64 ((N : Int) / 2 ^ j) 1 = (b : Int) := by
  have e : (N : Int) / 2 ^ j = ((N / 2 ^ j : Nat) : Int) := by simp
  rw [e, and_one64 _ (Nat.lt_of_le_of_lt (Nat.div_le_self _ _) h), hb]
theorem half_step (N j : Nat) : (N / 2 ^ j % 2 = 1 ∧ N / 2 ^ j = N / 2 ^ (j + 1) + N / 2 ^ (j + 1) + 1) ∨ (N / 2 ^ j % 2 = 0 ∧ N / 2 ^ j = N / 2 ^ (j + 1) + N / 2 ^ (j + 1)) := by
  have h : N / 2 ^ (j + 1) = N / 2 ^ j / 2 := by rw [Nat.pow_succ, Nat.div_div_eq_div_mul]
  rw [h]
  omega
end
section
open Go.RowKit
set_option linter.unusedVariables false
set_option linter.unusedSimpArgs false
theorem nil_arg (w : World) : Arg w (.slice none 0 0) [] none 0 := ⟨rfl, .inl rfl, Nat.le_refl _, Wf.nil⟩
end
section
open Go.RowKit Go.ChangeShapes Go.WideShapes Go.ChangeAt
set_option linter.unusedVariables false
set_option linter.unusedSimpArgs false
/-- a slice of limbs, as it came in, of whatever size -/
theorem open_nat3 {H : Type} {enc : TypeId × Value → H} {W : World} {v : Value} {d : DataW H} {p : List MemPlace}
    (hv : ∃ ad n cap, v = .slice ad n cap) (h : DataW.Trod enc Tryz.prog W 0 (fun _ => true) true 42 v d p) : ∃ ad xs cap, Arg W v xs ad cap ∧ (ad = none → cap = 0) := by
  obtain ⟨ad, n, cap, rfl⟩ := hv
  obtain ⟨fuel, hf⟩ := h
  rcases open_ints Tryz.underlying42 Tryz.underlying112 cellsLimb hf with ⟨hcs, hx⟩ | ⟨a, len', cap', zs, hcs, _, hl, hm, hz, hx, hcell, hwz⟩
  · simp [Value.cells] at hcs
    obtain ⟨rfl, rfl, rfl⟩ := hcs
    exact ⟨none, [], 0, ⟨rfl, .inl rfl, Nat.le_refl _, Wf.nil⟩, fun _ => rfl⟩
  · simp [Value.cells] at hcs
    obtain ⟨rfl, rfl, rfl⟩ := hcs
    simp only [if_true] at hz
    have hlen : (zs.take n).length = n := by rw [List.length_take]; omega
    refine ⟨some a, zs.take n, cap, ⟨by rw [hlen], ?_, by rw [hlen]; exact hl, fun x hx => wf_limb (hwz x (List.mem_of_mem_take hx))⟩, fun h => by cases h⟩
    by_cases h0 : n = 0
    · exact .inl (by simp [h0])
    · obtain ⟨b, off, rfl, hc⟩ := ints_at hcell (by omega)
      refine .inr ⟨b, off, rfl, fun i hi => ?_⟩
      rw [hlen] at hi
      rw [hc i (by omega)]
      simp [hi]
theorem cmp_lt {u v : Value} {xs ys : List Int} {a b : Option Addr} {capa capb : Nat} {w : World} (h1 : Arg w u xs a capa) (h2 : Arg w v ys b capb) (hx : xs.length ≤ 35184372088832) (hy : ys.length ≤ 35184372088832) (h : val xs < val ys) :
    Calls Tryz.prog 112 #[u, v] w fun e w' => e = .returned (.int .i64 (-1)) ∧ Below w.heap.size w w' := by
  have k := cmp_res h1 h2 hx hy
  rwa [sign_lt h] at k
theorem cmp_eq {u v : Value} {xs ys : List Int} {a b : Option Addr} {capa capb : Nat} {w : World} (h1 : Arg w u xs a capa) (h2 : Arg w v ys b capb) (hx : xs.length ≤ 35184372088832) (hy : ys.length ≤ 35184372088832) (h : val xs = val ys) :
    Calls Tryz.prog 112 #[u, v] w fun e w' => e = .returned (.int .i64 0) ∧ Below w.heap.size w w' := by
  have k := cmp_res h1 h2 hx hy
  rwa [h, sign_self] at k
theorem cmp_ge {u v : Value} {xs ys : List Int} {a b : Option Addr} {capa capb : Nat} {w : World} (h1 : Arg w u xs a capa) (h2 : Arg w v ys b capb) (hx : xs.length ≤ 35184372088832) (hy : ys.length ≤ 35184372088832) (h : val ys ≤ val xs) :
    Calls Tryz.prog 112 #[u, v] w fun e w' => ∃ r : Int, e = .returned (.int .i64 r) ∧ decide (0 ≤ r) = true ∧ Below w.heap.size w w' := by
  refine (cmp_res h1 h2 hx hy).mono fun e w' ⟨he, hb⟩ => ⟨_, he, decide_eq_true ?_, hb⟩
  unfold sign
  rw [if_neg (by omega)]
  split <;> omega
theorem cmpD_eq {u v : Value} {xs ys : List Int} {a b : Option Addr} {capa capb : Nat} {w : World} (h1 : ArgD w u xs a capa) (h2 : ArgD w v ys b capb) (hx : xs.length ≤ 68719476736) (hy : ys.length ≤ 68719476736) (h : valD xs = valD ys) :
    Calls Tryz.prog 75 #[u, v] w fun e w' => e = .returned (.int .i64 0) ∧ Below w.heap.size w w' := by
  have k := cmpD_any h1 h2 hx hy
  rwa [h, sign_self] at k
theorem div_back {A B C : Int} (h0 : 0 ≤ C) (h1 : C < B) : (A * B + C) / B = A ∧ (A * B + C) % B = C := by
  obtain ⟨e1, e2⟩ := quo_eq (V := A) (d := B) (r := C) (N := A * B + C) (by omega) rfl ⟨h0, h1⟩
  exact ⟨e1.symm, e2.symm⟩
theorem parts_eq (a b : Int) : a / b * b + a % b = a := by rw [Int.mul_comm]; exact Int.mul_ediv_add_emod a b
theorem lenD_pos {ds : List Int} (h : 0 < valD ds) : ((ds.length : Int) == 0) = false := by
  cases ds with
  | nil => simp [valD] at h
  | cons x l => simp; omega
theorem lenD_zero {ds : List Int} (h : WfD ds) (f : trimN ds ds.length = ds.length) (e : valD ds = 0) : ((ds.length : Int) == 0) = true := by rw [valD_zero h f e]; rfl
theorem wf_i64 {i : Int} (h : (Lit.int .i64 i).wf = true) : -9223372036854775808 ≤ i ∧ i ≤ 9223372036854775807 := by simpa [Lit.wf, IntKind.min, IntKind.max, IntKind.signed, IntKind.bits] using h
end
section
open Go.RowKit
set_option linter.unusedVariables false
set_option linter.unusedSimpArgs false
theorem step_copy {ops : Array Oper} {rest : List Oper} {o : Oper} {a : Act} {w : World} {Q : Exit → Act → World → Prop} (hg : o.guard = none) (t : Nat)
    (hop : o.op = Op.call { callee := Callee.builtin Builtin.append, args := #[Operand.const (.slice none 0 0), Operand.tmp t], argTypes := #[42, 42] }) {xs : List Int} {ad : Option Addr} {cap : Nat} {u : Value} (hx : a.eval (.tmp t) = u)
    (hA : Arg w u xs ad cap) (hn : ad = none → cap = 0) (hl : xs.length ≤ 134217728)
    (h : ∀ v' w1, Num w.heap.size w1 v' xs → Below w.heap.size w w1 → wpList Tryz.prog ops Q rest (a.put o.dst v') w1) : wpList Tryz.prog ops Q (o :: rest) a w := by
  obtain ⟨i0, hi, hz0, hz1, hz2⟩ := info_parts infoLimb
  have hnil := World.ownsRow_nil w w.heap.size 112 1
  obtain ⟨rfl, lx, hle, wx⟩ := hA
  cases ad with
  | none =>
    have hc := hn rfl
    subst hc
    have hxs : xs = [] := List.eq_nil_of_length_eq_zero (by omega)
    subst hxs
    have hrun := fun ty => run_append_owned_none (P := Tryz.prog) w w.heap.size 42 ty 112 i0 1 Tryz.underlying42 hi (.slice none 0 0) 0 [] hnil
    refine wpList_plain hg fun K hK => ?_
    have h' := hK _ _ (h _ _ hnil (Below.refl _ _))
    obtain ⟨dst, op, type, pos, after, guard⟩ := o
    simp only at hop hg h' ⊢
    subst hop
    subst hg
    simp only [List.length_nil] at hx
    have hx' : a.tmps[t]?.getD undef = .slice none 0 0 := by simpa [go_sem] using hx
    unfold Oper.wp
    simp [go_sem, hx', hrun]
    exact h'
  | some ad =>
    have hcells : ∀ j u, (xs.map (Value.int .u32))[j]? = some u → w.cell? (ad.add j) = some u := by
      intro j u hj
      rcases lx with rfl | ⟨b, off, e, hc⟩
      · simp at hj
      · cases e
        rw [List.getElem?_map] at hj
        have hjl : j < xs.length := by
          rcases Nat.lt_or_ge j xs.length with h | h
          · exact h
          · rw [List.getElem?_eq_none h] at hj; cases hj
        rw [show (⟨b, off, none⟩ : Addr).add j = ⟨b, off + j, none⟩ from (by unfold Addr.add; split <;> simp_all), hc j hjl, ← hj]
        simp [hjl]
    refine wpList_append_own w hg (.const (.slice none 0 0)) (.tmp t) 42 hop w.heap.size 112 i0 (.int .u32 0) 1 4 Tryz.underlying42 hi hz0 hz1 hz2 rfl (by decide) (.slice none 0 0) 0 [] rfl hnil ad xs.length cap (xs.map (Value.int .u32)) hx (by simp) hcells (ints_oneCell _ _) (by unfold maxLen; omega) (by omega) (Nat.le_refl _) ?_
    intro v' w1 hown hgrow _
    refine h v' w1 ?_ ((Below.refl _ w).grown hgrow (Nat.le_refl _) (fun k hk => by cases hk))
    unfold Num
    simpa using hown
end
section
open Go.RowKit
set_option linter.unusedVariables false
set_option linter.unusedSimpArgs false
/-- a natural number with a sign -/
def sgn (neg : Bool) (A : Int) : Int := if neg = true then -A else A
/-- the number of a sign and two natural numbers; 0, if one of them is 0 -/
def ratOf (neg : Bool) (A B : Int) : Rat := Rat.divInt (sgn neg A) B
theorem sgn_neg (A : Int) : sgn true A = -A := rfl
theorem sgn_pos (A : Int) : sgn false A = A := rfl
theorem sgn_zero (n : Bool) : sgn n 0 = 0 := by cases n <;> rfl
theorem sgn_mul (m n : Bool) (A B : Int) : sgn m A * sgn n B = sgn (m != n) (A * B) := by
  cases m <;> cases n <;> simp [sgn, Int.neg_mul, Int.mul_neg]
theorem ratOf_zero_left (n : Bool) (B : Int) : ratOf n 0 B = 0 := by unfold ratOf; rw [sgn_zero, Rat.zero_divInt]
theorem ratOf_zero_right (n : Bool) (A : Int) : ratOf n A 0 = 0 := by unfold ratOf; rw [Rat.divInt_zero]
theorem gcd_pos {A B : Int} (hA : 0 < A) : (0 : Int) < (Int.gcd A B : Int) := by
  have := Int.gcd_pos_of_ne_zero_left (a := A) B (by omega)
  omega
theorem gcd_pos_right {A B : Int} (hB : 0 < B) : (0 : Int) < (Int.gcd A B : Int) := by rw [Int.gcd_comm]; exact gcd_pos hB
/-- what the number's parts are: reduced -/
theorem ratOf_num {n : Bool} {A B : Int} (hA : 0 ≤ A) (hB : 0 < B) : (ratOf n A B).num = sgn n (A / (Int.gcd A B : Int)) := by
  unfold ratOf
  rw [Rat.num_divInt, Int.sign_eq_one_of_pos hB, Int.one_mul]
  cases n with
  | false => simp only [sgn_pos]; rw [Int.gcd_comm]
  | true =>
    simp only [sgn_neg]
    rw [Int.gcd_neg, Int.gcd_comm, Int.neg_ediv_of_dvd (Int.gcd_dvd_left _ _)]
theorem ratOf_den {n : Bool} {A B : Int} (hB : 0 < B) : ((ratOf n A B).den : Int) = B / (Int.gcd A B : Int) := by
  unfold ratOf
  rw [Rat.den_divInt, if_neg (by omega)]
  have e : Int.gcd B (sgn n A) = Int.gcd A B := by
    cases n with
    | false => rw [sgn_pos, Int.gcd_comm]
    | true => rw [sgn_neg, Int.gcd_neg, Int.gcd_comm]
  rw [e, Int.natCast_ediv, Int.natAbs_of_nonneg (by omega)]
theorem quo_pos {A g : Int} (hA : 0 < A) (hg : 0 < g) (hd : g ∣ A) : 0 < A / g := Int.ediv_pos_of_pos_of_dvd hA (by omega) hd
theorem ratOf_abs {n : Bool} {A B : Int} (hA : 0 ≤ A) (hB : 0 < B) : ((ratOf n A B).num.natAbs : Int) = A / (Int.gcd A B : Int) := by
  rw [ratOf_num hA hB]
  have h := Int.ediv_nonneg hA (Int.natCast_nonneg (Int.gcd A B))
  cases n with
  | false => rw [sgn_pos]; omega
  | true => rw [sgn_neg]; omega
theorem ratOf_lt {n : Bool} {A B : Int} (hA : 0 ≤ A) (hB : 0 < B) : decide ((ratOf n A B).num < 0) = (n && decide (A ≠ 0)) := by
  rw [ratOf_num hA hB]
  by_cases h : A = 0
  · subst h; cases n <;> simp [sgn]
  · have h2 := quo_pos (A := A) (g := (Int.gcd A B : Int)) (by omega) (gcd_pos (by omega)) (Int.gcd_dvd_left _ _)
    cases n with
    | false => simp only [sgn_pos, Bool.false_and]; exact decide_eq_false (by omega)
    | true =>
      have e1 : decide (sgn true (A / (Int.gcd A B : Int)) < 0) = true := decide_eq_true (by rw [sgn_neg]; omega)
      rw [e1, decide_eq_true h]; rfl
/-- a number is that of its own parts -/
theorem ratOf_self (x : Rat) : ratOf (decide (x.num < 0)) (x.num.natAbs : Int) (x.den : Int) = x := by
  unfold ratOf
  have e : sgn (decide (x.num < 0)) (x.num.natAbs : Int) = x.num := by
    by_cases h : x.num < 0
    · rw [decide_eq_true h, sgn_neg]; omega
    · rw [decide_eq_false h, sgn_pos]; omega
  rw [e, Rat.num_divInt_den]
theorem sgn_num (x : Rat) : sgn (decide (x.num < 0)) (x.num.natAbs : Int) = x.num := by
  by_cases h : x.num < 0
  · rw [decide_eq_true h, sgn_neg]; omega
  · rw [decide_eq_false h, sgn_pos]; omega
theorem den_pos' (x : Rat) : (0 : Int) < (x.den : Int) := by have := Rat.den_pos x; omega
theorem abs_zero (x : Rat) : (x.num.natAbs : Int) = 0 ↔ x = 0 := by
  rw [← Rat.num_eq_zero]; omega
theorem x_eq (x : Rat) : x = Rat.divInt x.num x.den := (Rat.num_divInt_den x).symm
theorem rat_mul (x y : Rat) : ratOf ((decide (x.num < 0)) != (decide (y.num < 0))) ((x.num.natAbs : Int) * (y.num.natAbs : Int)) ((x.den : Int) * (y.den : Int)) = x * y := by
  unfold ratOf
  rw [← sgn_mul, sgn_num, sgn_num]
  conv => rhs; rw [x_eq x, x_eq y]
  rw [Rat.divInt_mul_divInt]
theorem rat_add_same (x y : Rat) (h : decide (x.num < 0) = decide (y.num < 0)) :
    ratOf (decide (x.num < 0)) ((x.num.natAbs : Int) * (y.den : Int) + (y.num.natAbs : Int) * (x.den : Int)) ((x.den : Int) * (y.den : Int)) = x + y := by
  have e : sgn (decide (x.num < 0)) ((x.num.natAbs : Int) * (y.den : Int) + (y.num.natAbs : Int) * (x.den : Int)) = x.num * y.den + y.num * x.den := by
    have h1 := sgn_num x
    have h2 := sgn_num y
    rw [← h] at h2
    generalize decide (x.num < 0) = s at *
    generalize (x.num.natAbs : Int) = X at *
    generalize (y.num.natAbs : Int) = Y at *
    rw [← h1, ← h2]
    cases s
    · simp only [sgn_pos]
    · simp only [sgn_neg, Int.neg_mul]; omega
  unfold ratOf
  rw [e]
  conv => rhs; rw [x_eq x, x_eq y]
  rw [Rat.divInt_add_divInt _ _ (by have := den_pos' x; omega) (by have := den_pos' y; omega)]
theorem rat_add_left (x y : Rat) (h : decide (x.num < 0) ≠ decide (y.num < 0)) :
    ratOf (decide (x.num < 0)) ((x.num.natAbs : Int) * (y.den : Int) - (y.num.natAbs : Int) * (x.den : Int)) ((x.den : Int) * (y.den : Int)) = x + y := by
  have e : sgn (decide (x.num < 0)) ((x.num.natAbs : Int) * (y.den : Int) - (y.num.natAbs : Int) * (x.den : Int)) = x.num * y.den + y.num * x.den := by
    have h1 := sgn_num x
    have h2 := sgn_num y
    by_cases hx : x.num < 0
    · have hy : ¬ y.num < 0 := fun hy => h (by rw [decide_eq_true hx, decide_eq_true hy])
      rw [decide_eq_true hx, sgn_neg]
      rw [show x.num = -(x.num.natAbs : Int) by omega, show y.num = (y.num.natAbs : Int) by omega]
      simp only [Int.neg_mul, Int.natAbs_neg, Int.natAbs_natCast]; omega
    · have hy : y.num < 0 := by
        rcases Int.lt_or_le y.num 0 with k | k
        · exact k
        · exact absurd (by rw [decide_eq_false hx, decide_eq_false (by omega)]) h
      rw [decide_eq_false hx, sgn_pos]
      rw [show x.num = (x.num.natAbs : Int) by omega, show y.num = -(y.num.natAbs : Int) by omega]
      simp only [Int.neg_mul, Int.natAbs_neg, Int.natAbs_natCast]; omega
  unfold ratOf
  rw [e]
  conv => rhs; rw [x_eq x, x_eq y]
  rw [Rat.divInt_add_divInt _ _ (by have := den_pos' x; omega) (by have := den_pos' y; omega)]
theorem rat_add_right (x y : Rat) (h : decide (x.num < 0) ≠ decide (y.num < 0)) :
    ratOf (decide (y.num < 0)) ((y.num.natAbs : Int) * (x.den : Int) - (x.num.natAbs : Int) * (y.den : Int)) ((x.den : Int) * (y.den : Int)) = x + y := by
  rw [Rat.add_comm, Int.mul_comm (x.den : Int)]
  exact rat_add_left y x (Ne.symm h)
theorem rat_neg (x : Rat) : decide ((-x).num < 0) = (!decide (x.num < 0) && decide (x ≠ 0)) ∧ (-x).num.natAbs = x.num.natAbs ∧ (-x).den = x.den := by
  have hz := Rat.num_eq_zero (q := x)
  refine ⟨?_, by rw [Rat.neg_num, Int.natAbs_neg], rfl⟩
  rw [Rat.neg_num]
  by_cases h : x = 0
  · subst h; decide
  · have h2 : x.num ≠ 0 := fun e => h (hz.1 e)
    rw [decide_eq_true (show x ≠ 0 from h), Bool.and_true]
    by_cases hx : x.num < 0
    · rw [decide_eq_true hx, decide_eq_false (by omega)]; rfl
    · rw [decide_eq_false hx, decide_eq_true (by omega)]; rfl
theorem rat_inv (y : Rat) (h : y ≠ 0) : ratOf (decide (y.num < 0)) (y.den : Int) (y.num.natAbs : Int) = y⁻¹ := by
  unfold ratOf
  rw [Rat.inv_def]
  have h2 : y.num ≠ 0 := fun e => h (Rat.num_eq_zero.1 e)
  by_cases hy : y.num < 0
  · rw [decide_eq_true hy, sgn_neg]
    have e : Rat.divInt (-(y.den : Int)) (y.num.natAbs : Int) = Rat.divInt (y.den : Int) y.num := by
      rw [Rat.divInt_eq_divInt_iff (by omega) h2, show y.num = -(y.num.natAbs : Int) by omega]
      simp [Int.natAbs_neg, Int.neg_mul_neg]
    exact e
  · rw [decide_eq_false hy, sgn_pos, show ((y.num.natAbs : Nat) : Int) = y.num by omega]
theorem ratOf_neg {n : Bool} {A B : Int} (hA : 0 ≤ A) (hB : 0 < B) (h : A = 0 → n = false) : decide ((ratOf n A B).num < 0) = n := by
  rw [ratOf_lt hA hB]
  by_cases k : A = 0
  · rw [h k]; rfl
  · rw [decide_eq_true k, Bool.and_true]
theorem rat_sum {m n r : Bool} {A B C D S : Int} (hB : 0 < B) (hD : 0 < D) (h : sgn r S = sgn m (A * D) + sgn n (C * B)) : ratOf r S (B * D) = ratOf m A B + ratOf n C D := by
  unfold ratOf
  rw [h, Rat.divInt_add_divInt _ _ (by omega) (by omega)]
  have e : ∀ (m : Bool) (A D : Int), sgn m (A * D) = sgn m A * D := fun m A D => by cases m <;> simp [sgn, Int.neg_mul]
  rw [e, e]
theorem rat_diff {m n r : Bool} {A B C D S : Int} (hB : 0 < B) (hD : 0 < D) (h : sgn r S = sgn m (A * D) + sgn (!n) (C * B)) : ratOf r S (B * D) = ratOf m A B - ratOf n C D := by
  rw [rat_sum hB hD h, Rat.sub_eq_add_neg]
  congr 1
  unfold ratOf
  rw [Rat.neg_divInt]
  congr 1
  cases n <;> simp [sgn]
theorem rat_prod (m n : Bool) (A B C D : Int) : ratOf (m != n) (A * C) (B * D) = ratOf m A B * ratOf n C D := by
  unfold ratOf
  rw [← sgn_mul, Rat.divInt_mul_divInt]
theorem rat_turned (n : Bool) (A B : Int) : ratOf (!n) A B = -ratOf n A B := by
  unfold ratOf
  rw [Rat.neg_divInt]
  congr 1
  cases n <;> simp [sgn]
theorem rat_over (n : Bool) (C D : Int) (hC : 0 ≤ C) (hD : 0 ≤ D) : ratOf n D C = (ratOf n C D)⁻¹ := by
  by_cases h : C = 0
  · subst h
    rw [ratOf_zero_left, ratOf_zero_right, Rat.inv_zero]
  by_cases k : D = 0
  · subst k
    rw [ratOf_zero_left, ratOf_zero_right, Rat.inv_zero]
  unfold ratOf
  rw [Rat.inv_divInt]
  cases n with
  | false => rfl
  | true => rw [sgn_neg, sgn_neg, Rat.divInt_eq_divInt_iff (by omega) (by omega)]; simp [Int.neg_mul_neg]
/-- -1, 0, 1 -/
def sgR (x : Rat) : Int := x.num.sign
theorem sgR_zero (x : Rat) : sgR x = 0 ↔ x = 0 := by unfold sgR; rw [Int.sign_eq_zero_iff_zero, Rat.num_eq_zero]
theorem sgR_divInt (a : Int) {b : Int} (hb : 0 < b) : sgR (Rat.divInt a b) = a.sign := by
  unfold sgR
  rw [Rat.num_divInt, Int.sign_eq_one_of_pos hb, Int.one_mul]
  have hg : (0 : Int) < (Int.gcd b a : Int) := gcd_pos hb
  rcases Int.lt_trichotomy a 0 with h | h | h
  · rw [Int.sign_eq_neg_one_of_neg h]
    apply Int.sign_eq_neg_one_of_neg
    have h2 := quo_pos (A := -a) (g := (Int.gcd b a : Int)) (by omega) hg (Int.dvd_neg.2 (Int.gcd_dvd_right _ _))
    rw [Int.neg_ediv_of_dvd (Int.gcd_dvd_right _ _)] at h2
    omega
  · rw [h]; simp
  · rw [Int.sign_eq_one_of_pos h]
    exact Int.sign_eq_one_of_pos (quo_pos h hg (Int.gcd_dvd_right _ _))
theorem sgR_ratOf (n : Bool) (A : Int) {B : Int} (hB : 0 < B) : sgR (ratOf n A B) = (sgn n A).sign := sgR_divInt _ hB
theorem ratOf_zero {n : Bool} {A B : Int} (hB : 0 < B) : ratOf n A B = 0 ↔ A = 0 := by
  rw [← sgR_zero, sgR_ratOf n A hB, Int.sign_eq_zero_iff_zero]
  cases n <;> simp [sgn]
theorem sgR_neg (x : Rat) : sgR (-x) = -sgR x := by unfold sgR; rw [Rat.neg_num, Int.sign_neg]
theorem sgR_mul (x y : Rat) : sgR (x * y) = sgR x * sgR y := by
  have e : x * y = Rat.divInt (x.num * y.num) (x.den * y.den) := by
    conv => lhs; rw [x_eq x, x_eq y]
    rw [Rat.divInt_mul_divInt]
  rw [e, sgR_divInt _ (Int.mul_pos (den_pos' x) (den_pos' y)), Int.sign_mul]
  rfl
theorem sgR_swap (x y : Rat) : sgR (y - x) = -sgR (x - y) := by rw [← sgR_neg]; congr 1; grind
theorem sgR_both (x y z : Rat) : sgR ((x + z) - (y + z)) = sgR (x - y) := by congr 1; grind
theorem sgR_times (x y z : Rat) : sgR (x * z - y * z) = sgR (x - y) * sgR z := by rw [← sgR_mul]; congr 1; grind
theorem sgR_range (x : Rat) : sgR x = -1 ∨ sgR x = 0 ∨ sgR x = 1 := by
  unfold sgR
  rcases Int.lt_trichotomy x.num 0 with h | h | h
  · exact .inl (Int.sign_eq_neg_one_of_neg h)
  · exact .inr (.inl (by rw [h]; rfl))
  · exact .inr (.inr (Int.sign_eq_one_of_pos h))
theorem sgn_sign (n : Bool) {A : Int} (hA : 0 ≤ A) : (sgn n A).sign = if A = 0 then 0 else if n = true then -1 else 1 := by
  by_cases h : A = 0
  · rw [if_pos h, h, sgn_zero]; rfl
  · rw [if_neg h]
    cases n with
    | false => rw [sgn_pos]; exact Int.sign_eq_one_of_pos (by omega)
    | true => rw [sgn_neg, if_pos rfl]; exact Int.sign_eq_neg_one_of_neg (by omega)
theorem rat_back (x y : Rat) : x + y - y = x := by grind
theorem rat_away (x : Rat) : x + -x = 0 := by grind
theorem rat_divided (x y : Rat) (h : y ≠ 0) : x * y / y = x := by grind
theorem rat_ext {x y : Rat} (h1 : decide (x.num < 0) = decide (y.num < 0)) (h2 : x.num.natAbs = y.num.natAbs) (h3 : x.den = y.den) : x = y := by
  apply Rat.ext _ h3
  have e := decide_eq_decide.1 h1
  omega
end
section
open Go.RowKit
set_option linter.unusedVariables false
set_option linter.unusedSimpArgs false
/-- a rational number, as it came in: a sign, two rows of limbs -/
def ArgQ (w : World) (v : Value) (x : Rat) (n : Nat) : Prop :=
  ∃ (neg : Bool) (xs ys : List Int) (ad bd : Option Addr) (ca cb : Nat), v = .agg #[.bool neg, .slice ad xs.length ca, .slice bd ys.length cb] ∧
    Arg w (.slice ad xs.length ca) xs ad ca ∧ Arg w (.slice bd ys.length cb) ys bd cb ∧ ratOf neg (val xs) (val ys) = x ∧ xs.length ≤ n ∧ ys.length ≤ n
/-- the same, with a denominator above 0, and 0 without a sign -/
def PlainQ (w : World) (v : Value) (x : Rat) (n : Nat) : Prop :=
  ∃ (neg : Bool) (xs ys : List Int) (ad bd : Option Addr) (ca cb : Nat), v = .agg #[.bool neg, .slice ad xs.length ca, .slice bd ys.length cb] ∧
    Arg w (.slice ad xs.length ca) xs ad ca ∧ Arg w (.slice bd ys.length cb) ys bd cb ∧ ratOf neg (val xs) (val ys) = x ∧ xs.length ≤ n ∧ ys.length ≤ n ∧ 0 < val ys ∧ (val xs = 0 → neg = false)
/-- a rational number as it is answered: its parts, each in its one way, in new memory -/
def ResQ (base : Nat) (w : World) (v : Value) (x : Rat) (n : Nat) : Prop :=
  ∃ (zs ys : List Int) (ad bd : Option Addr) (ca cb : Nat), v = .agg #[.bool (decide (x.num < 0)), .slice ad zs.length ca, .slice bd ys.length cb] ∧
    Res base w (.slice ad zs.length ca) zs (x.num.natAbs : Int) ∧ Res base w (.slice bd ys.length cb) ys (x.den : Int) ∧ zs.length ≤ n ∧ ys.length ≤ n
/-- the reference's rational number: its parts, in digits -/
def ArgR (w : World) (v : Value) (x : Rat) (n : Nat) : Prop :=
  ∃ (zs ys : List Int) (ad bd : Option Addr) (ca cb : Nat), v = .agg #[.bool (decide (x.num < 0)), .slice ad zs.length ca, .slice bd ys.length cb] ∧
    ArgD w (.slice ad zs.length ca) zs ad ca ∧ ArgD w (.slice bd ys.length cb) ys bd cb ∧ valD zs = (x.num.natAbs : Int) ∧ valD ys = (x.den : Int) ∧ zs.length ≤ n ∧ ys.length ≤ n
/-- a whole number with a sign -/
def SgnQ (w : World) (v : Value) (S : Int) (n : Nat) : Prop :=
  ∃ (neg : Bool) (xs : List Int) (ad : Option Addr) (ca : Nat), v = .agg #[.bool neg, .slice ad xs.length ca] ∧ Arg w (.slice ad xs.length ca) xs ad ca ∧ sgn neg (val xs) = S ∧ xs.length ≤ n
theorem ArgQ.later {w w' : World} {v : Value} {x : Rat} {n : Nat} (h : ArgQ w v x n) (hb : Below w.heap.size w w') : ArgQ w' v x n := by
  obtain ⟨neg, xs, ys, ad, bd, ca, cb, rfl, A, B, h⟩ := h
  exact ⟨neg, xs, ys, ad, bd, ca, cb, rfl, A.later hb, B.later hb, h⟩
theorem PlainQ.later {w w' : World} {v : Value} {x : Rat} {n : Nat} (h : PlainQ w v x n) (hb : Below w.heap.size w w') : PlainQ w' v x n := by
  obtain ⟨neg, xs, ys, ad, bd, ca, cb, rfl, A, B, h⟩ := h
  exact ⟨neg, xs, ys, ad, bd, ca, cb, rfl, A.later hb, B.later hb, h⟩
theorem ResQ.later {base : Nat} {w w' : World} {v : Value} {x : Rat} {n : Nat} (h : ResQ base w v x n) (hb : Below w.heap.size w w') : ResQ base w' v x n := by
  obtain ⟨zs, ys, ad, bd, ca, cb, rfl, A, B, h⟩ := h
  exact ⟨zs, ys, ad, bd, ca, cb, rfl, A.later hb, B.later hb, h⟩
theorem ArgR.later {w w' : World} {v : Value} {x : Rat} {n : Nat} (h : ArgR w v x n) (hb : Below w.heap.size w w') : ArgR w' v x n := by
  obtain ⟨zs, ys, ad, bd, ca, cb, rfl, A, B, h⟩ := h
  exact ⟨zs, ys, ad, bd, ca, cb, rfl, A.later hb, B.later hb, h⟩
theorem SgnQ.later {w w' : World} {v : Value} {S : Int} {n : Nat} (h : SgnQ w v S n) (hb : Below w.heap.size w w') : SgnQ w' v S n := by
  obtain ⟨neg, xs, ad, ca, rfl, A, h⟩ := h
  exact ⟨neg, xs, ad, ca, rfl, A.later hb, h⟩
theorem ArgQ.more {w : World} {v : Value} {x : Rat} {n m : Nat} (h : ArgQ w v x n) (hm : n ≤ m) : ArgQ w v x m := by
  obtain ⟨neg, xs, ys, ad, bd, ca, cb, rfl, A, B, h, h1, h2⟩ := h
  exact ⟨neg, xs, ys, ad, bd, ca, cb, rfl, A, B, h, by omega, by omega⟩
theorem PlainQ.more {w : World} {v : Value} {x : Rat} {n m : Nat} (h : PlainQ w v x n) (hm : n ≤ m) : PlainQ w v x m := by
  obtain ⟨neg, xs, ys, ad, bd, ca, cb, rfl, A, B, h, h1, h2, h3⟩ := h
  exact ⟨neg, xs, ys, ad, bd, ca, cb, rfl, A, B, h, by omega, by omega, h3⟩
theorem ResQ.more {base : Nat} {w : World} {v : Value} {x : Rat} {n m : Nat} (h : ResQ base w v x n) (hm : n ≤ m) : ResQ base w v x m := by
  obtain ⟨zs, ys, ad, bd, ca, cb, rfl, A, B, h1, h2⟩ := h
  exact ⟨zs, ys, ad, bd, ca, cb, rfl, A, B, by omega, by omega⟩
theorem ArgR.more {w : World} {v : Value} {x : Rat} {n m : Nat} (h : ArgR w v x n) (hm : n ≤ m) : ArgR w v x m := by
  obtain ⟨zs, ys, ad, bd, ca, cb, rfl, A, B, h1, h2, h3, h4⟩ := h
  exact ⟨zs, ys, ad, bd, ca, cb, rfl, A, B, h1, h2, by omega, by omega⟩
theorem PlainQ.arg {w : World} {v : Value} {x : Rat} {n : Nat} (h : PlainQ w v x n) : ArgQ w v x n := by
  obtain ⟨neg, xs, ys, ad, bd, ca, cb, rfl, A, B, h, h1, h2, _⟩ := h
  exact ⟨neg, xs, ys, ad, bd, ca, cb, rfl, A, B, h, h1, h2⟩
theorem Res.at_ {base : Nat} {w : World} {ad : Option Addr} {n cap : Nat} {zs : List Int} {N : Int} (h : Res base w (.slice ad n cap) zs N) : n = zs.length ∧ Arg w (.slice ad n cap) zs ad cap := by
  obtain ⟨ad', cap', A⟩ := h.arg
  have e := A.is
  simp only [Value.slice.injEq] at e
  obtain ⟨rfl, rfl, rfl⟩ := e
  exact ⟨rfl, A⟩
theorem Res.slice {base : Nat} {w : World} {u : Value} {zs : List Int} {N : Int} (h : Res base w u zs N) : ∃ ad cap, u = .slice ad zs.length cap ∧ Res base w (.slice ad zs.length cap) zs N ∧ Arg w (.slice ad zs.length cap) zs ad cap := by
  obtain ⟨ad, cap, A⟩ := h.arg
  have e := A.is
  subst e
  exact ⟨ad, cap, rfl, h, A⟩
theorem ResD.slice {base : Nat} {w : World} {u : Value} {zs : List Int} {N : Int} (h : ResD base w u zs N) : ∃ ad cap, u = .slice ad zs.length cap ∧ ResD base w (.slice ad zs.length cap) zs N ∧ ArgD w (.slice ad zs.length cap) zs ad cap := by
  obtain ⟨ad, cap, A⟩ := h.arg
  have e := A.is
  subst e
  exact ⟨ad, cap, rfl, h, A⟩
theorem Res.mono {base base' : Nat} {w : World} {u : Value} {zs : List Int} {n : Int} (h : Res base w u zs n) (hb : base' ≤ base) : Res base' w u zs n := ⟨h.num.mono hb, h.wf, h.full, h.eq⟩
theorem ResQ.mono {base base' : Nat} {w : World} {v : Value} {x : Rat} {n : Nat} (h : ResQ base w v x n) (hb : base' ≤ base) : ResQ base' w v x n := by
  obtain ⟨zs, ys, ad, bd, ca, cb, rfl, A, B, h⟩ := h
  exact ⟨zs, ys, ad, bd, ca, cb, rfl, A.mono hb, B.mono hb, h⟩
theorem ResQ.arg {base : Nat} {w : World} {v : Value} {x : Rat} {n : Nat} (h : ResQ base w v x n) : ArgQ w v x n := by
  obtain ⟨zs, ys, ad, bd, ca, cb, rfl, A, B, h1, h2⟩ := h
  exact ⟨_, zs, ys, ad, bd, ca, cb, rfl, A.at_.2, B.at_.2, by rw [A.eq, B.eq, ratOf_self], h1, h2⟩
theorem ResQ.plain {base : Nat} {w : World} {v : Value} {x : Rat} {n : Nat} (h : ResQ base w v x n) : PlainQ w v x n := by
  obtain ⟨zs, ys, ad, bd, ca, cb, rfl, A, B, h1, h2⟩ := h
  exact ⟨_, zs, ys, ad, bd, ca, cb, rfl, A.at_.2, B.at_.2, by rw [A.eq, B.eq, ratOf_self], h1, h2, by rw [B.eq]; exact den_pos' x, fun h0 => decide_eq_false (by rw [A.eq] at h0; omega)⟩
/-- block g holds just the cells cs, of type t -/
def Row (w : World) (g : Nat) (t : TypeId) (cs : Array Value) : Prop := w.heap[g]? = some (.cells cs t (0, 0))
theorem Row.new (w : World) (t : TypeId) (cs : Array Value) : Row (w.alloc (.cells cs t)) w.heap.size t cs := heap_alloc_new w _
theorem Row.lt {w : World} {g : Nat} {t : TypeId} {cs : Array Value} (h : Row w g t cs) : g < w.heap.size := lt_of_block h
theorem Row.cell {w : World} {g : Nat} {t : TypeId} {cs : Array Value} (h : Row w g t cs) (i : Nat) : w.cell? ⟨g, i, none⟩ = cs[i]? := cell_of_row w g i cs t (0, 0) h
theorem Row.free {w : World} {g : Nat} {t : TypeId} {cs : Array Value} (h : Row w g t cs) (i : Nat) : w.frozen? ⟨g, i, none⟩ = false := frozen_of_row w g i cs t h
theorem Row.alloc {w : World} {g : Nat} {t : TypeId} {cs : Array Value} (h : Row w g t cs) (o : Obj) : Row (w.alloc o) g t cs := (Below.heap_alloc _ _ _ h.lt).trans h
theorem Row.drew {w : World} {g : Nat} {t : TypeId} {cs : Array Value} (h : Row w g t cs) : Row w.drew g t cs := h
theorem Row.below {w w' : World} {g B : Nat} {t : TypeId} {cs : Array Value} (h : Row w g t cs) (hb : Below B w w') (hg : g < B) : Row w' g t cs := (hb.block g hg).trans h
theorem Row.later {w w' : World} {g : Nat} {t : TypeId} {cs : Array Value} (h : Row w g t cs) (hb : Below w.heap.size w w') : Row w' g t cs := h.below hb h.lt
theorem Row.set {w : World} {g : Nat} {t : TypeId} {cs : Array Value} (h : Row w g t cs) (i : Nat) (u : Value) : Row (w.setCell ⟨g, i, none⟩ u) g t (cs.setIfInBounds i u) := heap_setCell_same w g i cs t u h
theorem Row.far {w : World} {g : Nat} {t : TypeId} {cs : Array Value} (h : Row w g t cs) {p : Addr} (hp : g ≠ p.block) (u : Value) : Row (w.setCell p u) g t cs := (Below.heap_setCell w p u g hp).trans h
theorem Below.undrew {B : Nat} {a w : World} (h : Below B a w.drew) : Below B a w := ⟨h.os, h.tape, h.output, h.size, h.block⟩
theorem Row.two {w : World} {g : Nat} {t : TypeId} {a b : Value} (h : Row w g t #[a, b]) :
    w.cell? ⟨g, 0, none⟩ = some a ∧ w.cell? ⟨g, 1, none⟩ = some b ∧ w.frozen? ⟨g, 0, none⟩ = false ∧ w.frozen? ⟨g, 1, none⟩ = false := ⟨h.cell 0, h.cell 1, h.free 0, h.free 1⟩
theorem Row.three {w : World} {g : Nat} {t : TypeId} {a b c : Value} (h : Row w g t #[a, b, c]) :
    w.cell? ⟨g, 0, none⟩ = some a ∧ w.cell? ⟨g, 1, none⟩ = some b ∧ w.cell? ⟨g, 2, none⟩ = some c ∧ w.frozen? ⟨g, 0, none⟩ = false ∧ w.frozen? ⟨g, 1, none⟩ = false ∧ w.frozen? ⟨g, 2, none⟩ = false :=
  ⟨h.cell 0, h.cell 1, h.cell 2, h.free 0, h.free 1, h.free 2⟩
theorem Row.set2 {w : World} {g : Nat} {t : TypeId} {a b : Value} (h : Row w g t #[a, b]) (x y : Value) : Row ((w.setCell ⟨g, 0, none⟩ x).setCell ⟨g, 1, none⟩ y) g t #[x, y] := (h.set 0 x).set 1 y
theorem Row.set3 {w : World} {g : Nat} {t : TypeId} {a b c : Value} (h : Row w g t #[a, b, c]) (x y z : Value) : Row (((w.setCell ⟨g, 0, none⟩ x).setCell ⟨g, 1, none⟩ y).setCell ⟨g, 2, none⟩ z) g t #[x, y, z] := ((h.set 0 x).set 1 y).set 2 z
theorem below_set2 {B g : Nat} {w w' : World} (h : Below B w w') (hg : B ≤ g) (x y : Value) : Below B w ((w'.setCell ⟨g, 0, none⟩ x).setCell ⟨g, 1, none⟩ y) := (h.setCell hg x).setCell hg y
theorem below_set3 {B g : Nat} {w w' : World} (h : Below B w w') (hg : B ≤ g) (x y z : Value) : Below B w (((w'.setCell ⟨g, 0, none⟩ x).setCell ⟨g, 1, none⟩ y).setCell ⟨g, 2, none⟩ z) := ((h.setCell hg x).setCell hg y).setCell hg z
/-- a result, where only block g has been written to, which lies below what was made -/
theorem Res.kept {base g : Nat} {w w' : World} {u : Value} {zs : List Int} {n : Int} (h : Res base w u zs n) (hk : ∀ k, k ≠ g → w'.heap[k]? = w.heap[k]?) (hg : g < base) : Res base w' u zs n := by
  refine ⟨?_, h.wf, h.full, h.eq⟩
  obtain ⟨h1, h2⟩ := h.num
  refine ⟨h1, ?_⟩
  rcases h2 with h2 | ⟨k, cap, cur, rfl, hg0, hg', hc, hm, hs, ht⟩
  · exact .inl h2
  · exact .inr ⟨k, cap, cur, rfl, hg0, (hk k (by omega)).trans hg', hc, hm, hs, ht⟩
theorem kept3 {g : Nat} {w : World} (x y z : Value) : ∀ k, k ≠ g → (((w.setCell ⟨g, 0, none⟩ x).setCell ⟨g, 1, none⟩ y).setCell ⟨g, 2, none⟩ z).heap[k]? = w.heap[k]? := fun k hk =>
  ((Below.heap_setCell _ _ _ _ hk).trans (Below.heap_setCell _ _ _ _ hk)).trans (Below.heap_setCell _ _ _ _ hk)
theorem kept2 {g : Nat} {w : World} (x y : Value) : ∀ k, k ≠ g → ((w.setCell ⟨g, 0, none⟩ x).setCell ⟨g, 1, none⟩ y).heap[k]? = w.heap[k]? := fun k hk =>
  (Below.heap_setCell _ _ _ _ hk).trans (Below.heap_setCell _ _ _ _ hk)
/-- all blocks of w but g are in w' as they were -/
structure Kept (g : Nat) (w w' : World) : Prop where
  os : w'.os = w.os
  tape : w'.tape = w.tape
  output : w'.output = w.output
  size : w.heap.size ≤ w'.heap.size
  block : ∀ k, k < w.heap.size → k ≠ g → w'.heap[k]? = w.heap[k]?
theorem Kept.refl (g : Nat) (w : World) : Kept g w w := ⟨rfl, rfl, rfl, Nat.le_refl _, fun _ _ _ => rfl⟩
theorem Kept.drew {g : Nat} {a w : World} (h : Kept g a w) : Kept g a w.drew := ⟨h.os, h.tape, h.output, h.size, h.block⟩
theorem Kept.undrew {g : Nat} {a w : World} (h : Kept g a w.drew) : Kept g a w := ⟨h.os, h.tape, h.output, h.size, h.block⟩
theorem Kept.below {g : Nat} {a w w' : World} (h : Kept g a w) (hb : Below w.heap.size w w') : Kept g a w' :=
  ⟨hb.os.trans h.os, hb.tape.trans h.tape, hb.output.trans h.output, Nat.le_trans h.size hb.size, fun k hk hg => (hb.block k (Nat.lt_of_lt_of_le hk h.size)).trans (h.block k hk hg)⟩
theorem Kept.alloc {g : Nat} {a w : World} (h : Kept g a w) (o : Obj) : Kept g a (w.alloc o) := h.below ((Below.refl _ _).alloc (Nat.le_refl _) o)
theorem Kept.set {g : Nat} {a w : World} (h : Kept g a w) (i : Nat) (u : Value) : Kept g a (w.setCell ⟨g, i, none⟩ u) := by
  have hb := (Below.refl 0 w).setCell (Nat.zero_le (⟨g, i, none⟩ : Addr).block) u
  exact ⟨hb.os.trans h.os, hb.tape.trans h.tape, hb.output.trans h.output, Nat.le_trans h.size hb.size, fun k hk hg => (Below.heap_setCell w _ u k hg).trans (h.block k hk hg)⟩
theorem Kept.under {B g : Nat} {a w w' : World} (k : Kept g w w') (h : Below B a w) (hB : B ≤ w.heap.size) (hg : B ≤ g) : Below B a w' :=
  ⟨k.os.trans h.os, k.tape.trans h.tape, k.output.trans h.output, Nat.le_trans h.size k.size, fun j hj => (k.block j (by omega) (by omega)).trans (h.block j hj)⟩
theorem Row.kept {w w' : World} {g r : Nat} {t : TypeId} {cs : Array Value} (h : Row w g t cs) (k : Kept r w w') (hg : g ≠ r) : Row w' g t cs := (k.block g h.lt hg).trans h
/-- cells that are neither limbs nor digits -/
def NoInts (cs : Array Value) : Prop := ∀ (i : Nat) (k : IntKind) (x : Int), cs[i]? ≠ some (Value.int k x)
theorem noInts2 (p : Bool) (ad : Option Addr) (n cap : Nat) : NoInts #[.bool p, .slice ad n cap] := by
  intro i k x
  match i with
  | 0 => simp
  | 1 => simp
  | _ + 2 => simp
theorem noInts3 (p : Bool) (ad bd : Option Addr) (n cap m cbp : Nat) : NoInts #[.bool p, .slice ad n cap, .slice bd m cbp] := by
  intro i k x
  match i with
  | 0 => simp
  | 1 => simp
  | 2 => simp
  | _ + 3 => simp
theorem Lim.far {w w' : World} {ad : Option Addr} {xs : List Int} {g : Nat} {t : TypeId} {cs : Array Value} (h : Lim w ad xs) (R : Row w g t cs) (hn : NoInts cs) (hk : ∀ k, k ≠ g → w'.heap[k]? = w.heap[k]?) : Lim w' ad xs := by
  rcases h with rfl | ⟨b, off, rfl, hc⟩
  · exact .inl rfl
  · refine .inr ⟨b, off, rfl, fun i hi => ?_⟩
    by_cases hb : b = g
    · subst hb
      have h1 := hc i hi
      rw [R.cell] at h1
      exact absurd h1 (hn _ _ _)
    · rw [World.cell?_of_block (hk b hb)]
      exact hc i hi
theorem LimI.far {w w' : World} {ad : Option Addr} {xs : List Int} {g : Nat} {t : TypeId} {cs : Array Value} (h : LimI w ad xs) (R : Row w g t cs) (hn : NoInts cs) (hk : ∀ k, k ≠ g → w'.heap[k]? = w.heap[k]?) : LimI w' ad xs := by
  rcases h with rfl | ⟨b, off, rfl, hc⟩
  · exact .inl rfl
  · refine .inr ⟨b, off, rfl, fun i hi => ?_⟩
    by_cases hb : b = g
    · subst hb
      have h1 := hc i hi
      rw [R.cell] at h1
      exact absurd h1 (hn _ _ _)
    · rw [World.cell?_of_block (hk b hb)]
      exact hc i hi
theorem Arg.far {w w' : World} {u : Value} {ad : Option Addr} {xs : List Int} {cap g : Nat} {t : TypeId} {cs : Array Value} (h : Arg w u xs ad cap) (R : Row w g t cs) (hn : NoInts cs) (hk : ∀ k, k ≠ g → w'.heap[k]? = w.heap[k]?) : Arg w' u xs ad cap :=
  ⟨h.is, h.lim.far R hn hk, h.le, h.wf⟩
theorem ArgD.far {w w' : World} {u : Value} {ad : Option Addr} {xs : List Int} {cap g : Nat} {t : TypeId} {cs : Array Value} (h : ArgD w u xs ad cap) (R : Row w g t cs) (hn : NoInts cs) (hk : ∀ k, k ≠ g → w'.heap[k]? = w.heap[k]?) : ArgD w' u xs ad cap :=
  ⟨h.is, h.lim.far R hn hk, h.le, h.wf, h.full⟩
theorem Res.far {base : Nat} {w w' : World} {u : Value} {zs : List Int} {n : Int} {g : Nat} {t : TypeId} {cs : Array Value} (h : Res base w u zs n) (R : Row w g t cs) (ht : t ≠ 112) (hk : ∀ k, k ≠ g → w'.heap[k]? = w.heap[k]?) : Res base w' u zs n := by
  refine ⟨?_, h.wf, h.full, h.eq⟩
  obtain ⟨h1, h2⟩ := h.num
  refine ⟨h1, ?_⟩
  rcases h2 with h2 | ⟨k, cap, cur, rfl, hg0, hg', hc, hm, hs, ht'⟩
  · exact .inl h2
  · refine .inr ⟨k, cap, cur, rfl, hg0, (hk k ?_).trans hg', hc, hm, hs, ht'⟩
    rintro rfl
    have e := hg'.symm.trans R
    injection e with e
    injection e with _ e
    exact ht e.symm
theorem ArgQ.far {w w' : World} {v : Value} {x : Rat} {n : Nat} {g : Nat} {t : TypeId} {cs : Array Value} (h : ArgQ w v x n) (R : Row w g t cs) (hn : NoInts cs) (hk : ∀ k, k ≠ g → w'.heap[k]? = w.heap[k]?) : ArgQ w' v x n := by
  obtain ⟨neg, xs, ys, ad, bd, ca, cb, rfl, A, B, h⟩ := h
  exact ⟨neg, xs, ys, ad, bd, ca, cb, rfl, A.far R hn hk, B.far R hn hk, h⟩
theorem PlainQ.far {w w' : World} {v : Value} {x : Rat} {n : Nat} {g : Nat} {t : TypeId} {cs : Array Value} (h : PlainQ w v x n) (R : Row w g t cs) (hn : NoInts cs) (hk : ∀ k, k ≠ g → w'.heap[k]? = w.heap[k]?) : PlainQ w' v x n := by
  obtain ⟨neg, xs, ys, ad, bd, ca, cb, rfl, A, B, h⟩ := h
  exact ⟨neg, xs, ys, ad, bd, ca, cb, rfl, A.far R hn hk, B.far R hn hk, h⟩
theorem SgnQ.far {w w' : World} {v : Value} {X : Int} {n : Nat} {g : Nat} {t : TypeId} {cs : Array Value} (h : SgnQ w v X n) (R : Row w g t cs) (hn : NoInts cs) (hk : ∀ k, k ≠ g → w'.heap[k]? = w.heap[k]?) : SgnQ w' v X n := by
  obtain ⟨neg, xs, ad, ca, rfl, A, h⟩ := h
  exact ⟨neg, xs, ad, ca, rfl, A.far R hn hk, h⟩
theorem ResQ.far {base : Nat} {w w' : World} {v : Value} {x : Rat} {n : Nat} {g : Nat} {t : TypeId} {cs : Array Value} (h : ResQ base w v x n) (R : Row w g t cs) (ht : t ≠ 112) (hk : ∀ k, k ≠ g → w'.heap[k]? = w.heap[k]?) : ResQ base w' v x n := by
  obtain ⟨zs, ys, ad, bd, ca, cb, rfl, A, B, h⟩ := h
  exact ⟨zs, ys, ad, bd, ca, cb, rfl, A.far R ht hk, B.far R ht hk, h⟩
theorem ArgR.far {w w' : World} {v : Value} {x : Rat} {n : Nat} {g : Nat} {t : TypeId} {cs : Array Value} (h : ArgR w v x n) (R : Row w g t cs) (hn : NoInts cs) (hk : ∀ k, k ≠ g → w'.heap[k]? = w.heap[k]?) : ArgR w' v x n := by
  obtain ⟨zs, ys, ad, bd, ca, cb, rfl, A, B, h⟩ := h
  exact ⟨zs, ys, ad, bd, ca, cb, rfl, A.far R hn hk, B.far R hn hk, h⟩
theorem wrap_abs (a : Nat) (h : a ≤ 9223372036854775808) : IntKind.u64.wrap (wrap64 (a : Int)) = (a : Int) := by
  unfold wrap64
  simp only [IntKind.wrap, IntKind.signed, IntKind.bits]
  simp
  omega
theorem wrap_abs' (a : Nat) (h : a ≤ 9223372036854775808) : IntKind.u64.wrap (IntKind.i64.wrap (a : Int)) = (a : Int) := by
  simp only [IntKind.wrap, IntKind.signed, IntKind.bits]
  simp
  omega
set_option maxHeartbeats 1000000 in
theorem size_any (n : Int) (w : World) (h0 : -9223372036854775808 ≤ n) (h1 : n ≤ 9223372036854775807) :
    Calls Tryz.prog 85 #[.int .i64 n] w fun e w' => ∃ r zs, e = .returned r ∧ Res w.heap.size w' r zs (n.natAbs : Int) ∧ zs.length ≤ 2 ∧ Below w.heap.size w w' := by
  by_cases hn : n < 0
  · have hd : decide (n < 0) = true := decide_eq_true hn
    obtain ⟨a, ha⟩ : ∃ a, n.natAbs = a := ⟨_, rfl⟩
    have ha2 : n = -(a : Int) := by omega
    rw [ha]
    subst ha2
    have hc : IntKind.u64.wrap (wrap64 (a : Int)) = (a : Int) := wrap_abs a (by omega)
    have hc2 : IntKind.u64.wrap (IntKind.i64.wrap (a : Int)) = (a : Int) := wrap_abs' a (by omega)
    clear ha
    go_enter Tryz.func85, Tryz.ntmps85
    go_wp2_with fail
    refine (ofN_any (a : Int) _ (by omega) (by omega)).mono ?_
    rintro e w' ⟨r, z, rfl, q, nz, hb⟩
    go_wp2_with fail
    go_ret
    exact ⟨r, z, rfl, q, nz, hb⟩
  · have hd : decide (n < 0) = false := decide_eq_false hn
    obtain ⟨a, ha⟩ : ∃ a, n.natAbs = a := ⟨_, rfl⟩
    have ha2 : n = (a : Int) := by omega
    rw [ha]
    subst ha2
    have hc : IntKind.u64.wrap (a : Int) = (a : Int) := wrap_u64 (by omega) (by omega)
    clear ha
    go_enter Tryz.func85, Tryz.ntmps85
    go_wp2_with fail
    refine (ofN_any (a : Int) _ (by omega) (by omega)).mono ?_
    rintro e w' ⟨r, z, rfl, q, nz, hb⟩
    go_wp2_with fail
    go_ret
    exact ⟨r, z, rfl, q, nz, hb⟩
end
section
open Go.RowKit
set_option linter.unusedVariables false
set_option linter.unusedSimpArgs false
/-- a whole number -/
def intQ (n : Int) : Rat := ratOf (decide (n < 0)) (n.natAbs : Int) 1
theorem intQ_parts (n : Int) : decide ((intQ n).num < 0) = decide (n < 0) ∧ ((intQ n).num.natAbs : Int) = (n.natAbs : Int) ∧ ((intQ n).den : Int) = 1 := by
  unfold intQ
  have hg : (Int.gcd (n.natAbs : Int) 1 : Int) = 1 := by simp
  refine ⟨ratOf_neg (by omega) (by omega) fun h => decide_eq_false (by omega), ?_, ?_⟩
  · rw [ratOf_abs (by omega) (by omega), hg, Int.ediv_one]
  · rw [ratOf_den (by omega), hg]; rfl
theorem intQ_zero : intQ 0 = 0 := by unfold intQ; exact ratOf_zero_left _ _
set_option maxHeartbeats 1000000 in
theorem int_any (n : Int) (w : World) (h0 : -9223372036854775808 ≤ n) (h1 : n ≤ 9223372036854775807) :
    Calls Tryz.prog 50 #[.int .i64 n] w fun e w' => ∃ r, e = .returned r ∧ ResQ w.heap.size w' r (intQ n) 2 ∧ Below w.heap.size w w' := by
  obtain ⟨p1, p2, p3⟩ := intQ_parts n
  obtain ⟨d, hd⟩ : ∃ d, decide (n < 0) = d := ⟨_, rfl⟩
  rw [hd] at p1
  have P1 := Lib.hid p1
  have P2 := Lib.hid p2
  have P3 := Lib.hid p3
  clear p1 p2 p3
  have R := Row.new w 44 #[.bool false, .slice none 0 0, .slice none 0 0]
  have hB := (Below.refl w.heap.size w).alloc (Nat.le_refl _) (.cells #[.bool false, .slice none 0 0, .slice none 0 0] 44)
  go_enter Tryz.func50, Tryz.ntmps50
  go_wp2_with fail
  refine (size_any n _ h0 h1).mono ?_
  rintro e w1 ⟨r1, z1, rfl, q1, n1, hb1⟩
  obtain ⟨ad1, c1, rfl, q1, A1⟩ := q1.slice
  replace R := R.later hb1
  have hs0 : w.heap.size + 1 ≤ w1.heap.size := by have := hb1.size; simpa using this
  replace hB := hB.trans (hb1.mono (by simp))
  go_wp2_with fail
  refine (ofN_any 1 _ (by omega) (by omega)).mono ?_
  rintro e w2 ⟨r2, z2, rfl, q2, n2, hb2⟩
  obtain ⟨ad2, c2, rfl, q2, A2⟩ := q2.slice
  replace R := R.later hb2
  replace hB := hB.trans (hb2.mono (by omega))
  replace q1 := q1.later hb2
  obtain ⟨c0, c1', c2', f0, f1, f2⟩ := R.three
  go_wp2_with fail
  refine bodyPost_ret (v := .agg #[.bool d, .slice ad1 z1.length c1, .slice ad2 z2.length c2]) (by simp [results, Tryz.results50, go_sem, c0, c1', c2']) rfl ⟨_, rfl, ?_, below_set3 hB (Nat.le_refl _) _ _ _⟩
  refine ⟨z1, z2, ad1, ad2, c1, c2, by rw [P1.out], ?_, ?_, n1, n2⟩
  · rw [P2.out]
    exact (q1.kept (kept3 _ _ _) (by simp)).mono (by simp)
  · rw [P3.out]
    exact (q2.kept (kept3 _ _ _) (by omega)).mono (by omega)
end
section
open Go.RowKit
set_option linter.unusedVariables false
set_option linter.unusedSimpArgs false
/-- the product of the first k of two numbers -/
def prodK (X Y : Int) : Nat → Int
  | 0 => 1
  | 1 => X
  | _ => X * Y
set_option maxRecDepth 100000 in
set_option maxHeartbeats 2000000 in
theorem product_any {xs ys : List Int} {ad bd : Option Addr} {ca cb g m : Nat} {w : World} (R : Row w g 42 #[.slice ad xs.length ca, .slice bd ys.length cb])
    (A : Arg w (.slice ad xs.length ca) xs ad ca) (B : Arg w (.slice bd ys.length cb) ys bd cb) (hx : xs.length ≤ m) (hy : ys.length ≤ m) (hm : m ≤ 1073741824) :
    Calls Tryz.prog 80 #[.slice (some ⟨g, 0, none⟩) 2 2] w fun e w' => ∃ r zs, e = .returned r ∧ Res w.heap.size w' r zs (val xs * val ys) ∧ zs.length ≤ 2 * m + 2 ∧ Below w.heap.size w w' := by
  go_enter Tryz.func80, Tryz.ntmps80
  go_wp2_with fail
  refine (ofN_any 1 _ (by omega) (by omega)).mono ?_
  rintro e w0 ⟨r0, z0, rfl, q0, n0, hb0⟩
  go_wp2_with fail
  go_loopw [3, 5, 9] (fun p _ i wr => ∃ (k : Nat) (q : Value) (us : List Int), q = p ∧ i = .int .i64 k ∧ k ≤ 2 ∧ Res w.heap.size wr q us (prodK (val xs) (val ys) k) ∧ us.length ≤ k * m + 2 ∧ Below w.heap.size w wr) (fun _ _ i _ => 2 - (intOf i).toNat)
  case atStart => exact ⟨0, _, z0, rfl, rfl, by omega, q0, by omega, hb0⟩
  case round =>
    obtain ⟨k, q, us, rfl, rfl, hk, hq, hl, hb⟩ := hrel
    have hsz := hb.size
    clear q0 n0 hb0
    have R' := R.below hb R.lt
    obtain ⟨c0, c1, _, _⟩ := R'.two
    have A' := A.later hb
    have B' := B.later hb
    obtain ⟨adq, cq, rfl, hq, AQ⟩ := hq.slice
    match k, hk, hl, hq with
    | 0, _, hl, hq =>
      have hl0 : us.length ≤ 2 := by omega
      go_wp2_with fail
      refine (mul_res AQ A' (by omega) (by omega)).mono ?_
      rintro e w2 ⟨r2, z2, rfl, q2, n2, hb2⟩
      have hv : val us * val xs = prodK (val xs) (val ys) 1 := by rw [hq.eq]; show 1 * val xs = val xs; omega
      have HV := Lib.hid hv
      clear hv
      go_wp2_with fail
      go_roundw
      case rel => exact ⟨1, r2, z2, rfl, rfl, by omega, ⟨q2.num.mono hsz, q2.wf, q2.full, q2.eq.trans HV.out⟩, by omega, hb.trans (hb2.mono hsz)⟩
      case measure => simp [intOf]
    | 1, _, hl, hq =>
      go_wp2_with fail
      refine (mul_res AQ B' (by omega) (by omega)).mono ?_
      rintro e w2 ⟨r2, z2, rfl, q2, n2, hb2⟩
      have hv : val us * val ys = prodK (val xs) (val ys) 2 := by rw [hq.eq]; rfl
      have HV := Lib.hid hv
      clear hv
      go_wp2_with fail
      go_roundw
      case rel => exact ⟨2, r2, z2, rfl, rfl, by omega, ⟨q2.num.mono hsz, q2.wf, q2.full, q2.eq.trans HV.out⟩, by omega, hb.trans (hb2.mono hsz)⟩
      case measure => simp [intOf]
    | 2, _, hl, hq =>
      go_wp2_with fail
      go_ret
      exact ⟨_, us, rfl, hq, by omega, hb⟩
set_option maxRecDepth 100000 in
set_option maxHeartbeats 2000000 in
theorem over_any {m n2 n3 c1 c2 c3 c4 : Nat} {w : World} {neg neg' : Bool} {xs ys : List Int} {a1 a2 a3 a4 : Option Addr}
    (A : Arg w (.slice a1 xs.length c1) xs a1 c1) (B : Arg w (.slice a4 ys.length c4) ys a4 c4) (hx : xs.length ≤ m) (hy : ys.length ≤ m) (hm : m ≤ 1073741824) :
    Calls Tryz.prog 78 #[.agg #[.bool neg, .slice a1 xs.length c1, .slice a2 n2 c2], .agg #[.bool neg', .slice a3 n3 c3, .slice a4 ys.length c4]] w fun e w' =>
      ∃ r, e = .returned r ∧ SgnQ w' r (sgn neg (val xs * val ys)) (2 * m + 2) ∧ Below w.heap.size w w' := by
  obtain ⟨W, hW⟩ : ∃ W, (((w.alloc (.cells #[.bool neg, .slice a1 xs.length c1, .slice a2 n2 c2] 44)).alloc (.cells #[.bool neg', .slice a3 n3 c3, .slice a4 ys.length c4] 44)).alloc (.cells #[.bool false, .slice none 0 0] 108)) = W := ⟨_, rfl⟩
  have R0 : Row W (w.heap.size) 44 #[.bool neg, .slice a1 xs.length c1, .slice a2 n2 c2] := by rw [← hW]; exact (((Row.new _ _ _).alloc _).alloc _)
  have R1 : Row W (w.heap.size + 1) 44 #[.bool neg', .slice a3 n3 c3, .slice a4 ys.length c4] := by rw [← hW]; have h := (Row.new (w.alloc (.cells #[.bool neg, .slice a1 xs.length c1, .slice a2 n2 c2] 44)) 44 #[.bool neg', .slice a3 n3 c3, .slice a4 ys.length c4]); simp only [World.size_alloc] at h; exact (h.alloc _)
  have R2 : Row W (w.heap.size + 1 + 1) 108 #[.bool false, .slice none 0 0] := by rw [← hW]; have h := (Row.new ((w.alloc (.cells #[.bool neg, .slice a1 xs.length c1, .slice a2 n2 c2] 44)).alloc (.cells #[.bool neg', .slice a3 n3 c3, .slice a4 ys.length c4] 44)) 108 #[.bool false, .slice none 0 0]); simp only [World.size_alloc] at h; exact h
  have hBW : Below w.heap.size w W := by rw [← hW]; exact ((((Below.refl _ _).alloc (by (try simp) <;> omega) _).alloc (by (try simp) <;> omega) _).alloc (by (try simp) <;> omega) _)
  have hsW : w.heap.size + 1 + 1 + 1 ≤ W.heap.size := by rw [← hW]; simp
  have mkS : ∀ X, Below (w.heap.size + 1 + 1) W X → X.cell? ⟨w.heap.size, 0, none⟩ = some (.bool neg) ∧ X.cell? ⟨w.heap.size, 1, none⟩ = some (.slice a1 xs.length c1) ∧ X.cell? ⟨w.heap.size + 1, 2, none⟩ = some (.slice a4 ys.length c4) ∧ Below w.heap.size w X ∧ Below (w.heap.size + 1 + 1) W X := fun X h => ⟨(R0.below h (by omega)).cell 0, (R0.below h (by omega)).cell 1, (R1.below h (by omega)).cell 2, hBW.trans (h.mono (by omega)), h⟩
  go_enter Tryz.func78, Tryz.ntmps78
  go_wp2_with fail
  clear hW
  go_region_held3 (fun X => X.cell? ⟨w.heap.size, 0, none⟩ = some (.bool neg) ∧ X.cell? ⟨w.heap.size, 1, none⟩ = some (.slice a1 xs.length c1) ∧ X.cell? ⟨w.heap.size + 1, 2, none⟩ = some (.slice a4 ys.length c4) ∧ Below w.heap.size w X ∧ Below (w.heap.size + 1 + 1) W X)
    (((refine mkS _ ?_; (repeat' (first | exact Below.refl _ _ | refine Below.drew ?_ | refine Below.alloc ?_ (by (try simp) <;> omega) _ | refine below_set3 ?_ (by (try simp) <;> omega) _ _ _ | refine below_set2 ?_ (by (try simp) <;> omega) _ _ | refine Below.setCell ?_ (by (try simp) <;> omega) _ | refine Below.trans ?_ (Below.mono (by assumption) (by (try simp) <;> omega)))))))
    ((go_at_call 80; refine (product_any (by first | exact Row.new _ _ _ | exact (Row.new _ _ _).drew) (A.later (by (repeat' (first | exact Below.refl _ _ | exact hBW | refine Below.drew ?_ | refine Below.alloc ?_ (by (try simp) <;> omega) _ | refine below_set3 ?_ (by (try simp) <;> omega) _ _ _ | refine below_set2 ?_ (by (try simp) <;> omega) _ _ | refine Below.setCell ?_ (by (try simp) <;> omega) _ | refine Below.trans ?_ (Below.mono (by assumption) (by (try simp) <;> omega)))))) (B.later (by (repeat' (first | exact Below.refl _ _ | exact hBW | refine Below.drew ?_ | refine Below.alloc ?_ (by (try simp) <;> omega) _ | refine below_set3 ?_ (by (try simp) <;> omega) _ _ _ | refine below_set2 ?_ (by (try simp) <;> omega) _ _ | refine Below.setCell ?_ (by (try simp) <;> omega) _ | refine Below.trans ?_ (Below.mono (by assumption) (by (try simp) <;> omega)))))) hx hy hm).mono ?_; rintro e w2 ⟨r2, z2, rfl, q2, l2, hb2⟩; have hs2 := hb2.size; simp at hs2; obtain ⟨ad2, cp2, rfl, q2, A2⟩ := q2.slice; have R2' := R2.later (show Below W.heap.size W w2 by (repeat' (first | exact Below.refl _ _ | refine Below.drew ?_ | refine Below.alloc ?_ (by (try simp) <;> omega) _ | refine below_set3 ?_ (by (try simp) <;> omega) _ _ _ | refine below_set2 ?_ (by (try simp) <;> omega) _ _ | refine Below.setCell ?_ (by (try simp) <;> omega) _ | refine Below.trans ?_ (Below.mono (by assumption) (by (try simp) <;> omega))))); obtain ⟨u0, u1, g0, g1⟩ := R2'.two))
  go_wp2_with fail
  refine bodyPost_ret (v := .agg #[.bool neg, .slice ad2 z2.length cp2]) (by simp [results, Tryz.results78, go_sem, u0, u1]) rfl ⟨_, rfl, ?_, ?_⟩
  · exact ⟨neg, z2, ad2, cp2, rfl, (q2.kept (kept2 _ _) (by simp; omega)).at_.2, by rw [q2.eq], l2⟩
  · (repeat' (first | exact Below.refl _ _ | exact hBW | refine Below.drew ?_ | refine Below.alloc ?_ (by (try simp) <;> omega) _ | refine below_set3 ?_ (by (try simp) <;> omega) _ _ _ | refine below_set2 ?_ (by (try simp) <;> omega) _ _ | refine Below.setCell ?_ (by (try simp) <;> omega) _ | refine Below.trans ?_ (Below.mono (by assumption) (by (try simp) <;> omega))))
end
section
open Go.RowKit
set_option linter.unusedVariables false
set_option linter.unusedSimpArgs false
theorem sgn_add (p : Bool) (X Y : Int) : sgn p (X + Y) = sgn p X + sgn p Y := by cases p <;> simp [sgn] <;> omega
theorem sgn_sub {p q : Bool} (h : p ≠ q) (X Y : Int) : sgn p (X - Y) = sgn p X + sgn q Y := by cases p <;> cases q <;> simp_all [sgn] <;> omega
theorem cmp_geN {u v : Value} {xs ys : List Int} {a b : Option Addr} {capa capb : Nat} {w : World} (h1 : Arg w u xs a capa) (h2 : Arg w v ys b capb) (hx : xs.length ≤ 35184372088832) (hy : ys.length ≤ 35184372088832) (h : val ys ≤ val xs) :
    Calls Tryz.prog 112 #[u, v] w fun e w' => ∃ r : Int, e = .returned (.int .i64 r) ∧ decide (r < 0) = false ∧ Below w.heap.size w w' := by
  refine (cmp_res h1 h2 hx hy).mono fun e w' ⟨he, hb⟩ => ⟨_, he, decide_eq_false ?_, hb⟩
  unfold sign
  rw [if_neg (by omega)]
  split <;> omega
theorem sgn_not (q : Bool) (Y : Int) : sgn (!q) Y = -sgn q Y := by cases q <;> simp [sgn]
set_option maxRecDepth 100000 in
set_option maxHeartbeats 4000000 in
theorem plus_any {n : Nat} {w : World} {u v : Value} {X Y : Int} (hu : SgnQ w u X n) (hv : SgnQ w v Y n) (hn : n ≤ 2147483648) :
    Calls Tryz.prog 79 #[u, v] w fun e w' => ∃ r, e = .returned r ∧ SgnQ w' r (X + Y) (n + 1) ∧ Below w.heap.size w w' := by
  obtain ⟨p, xs, a1, c1, rfl, A, hX, hx⟩ := hu
  obtain ⟨q, ys, a2, c2, rfl, B, hY, hy⟩ := hv
  obtain ⟨W, hW⟩ : ∃ W, (((w.alloc (.cells #[.bool p, .slice a1 xs.length c1] 108)).alloc (.cells #[.bool q, .slice a2 ys.length c2] 108)).alloc (.cells #[.bool false, .slice none 0 0] 108)) = W := ⟨_, rfl⟩
  have R0 : Row W (w.heap.size) 108 #[.bool p, .slice a1 xs.length c1] := by rw [← hW]; exact (((Row.new _ _ _).alloc _).alloc _)
  have R1 : Row W (w.heap.size + 1) 108 #[.bool q, .slice a2 ys.length c2] := by rw [← hW]; have h := (Row.new (w.alloc (.cells #[.bool p, .slice a1 xs.length c1] 108)) 108 #[.bool q, .slice a2 ys.length c2]); simp only [World.size_alloc] at h; exact (h.alloc _)
  have R2 : Row W (w.heap.size + 1 + 1) 108 #[.bool false, .slice none 0 0] := by rw [← hW]; have h := (Row.new ((w.alloc (.cells #[.bool p, .slice a1 xs.length c1] 108)).alloc (.cells #[.bool q, .slice a2 ys.length c2] 108)) 108 #[.bool false, .slice none 0 0]); simp only [World.size_alloc] at h; exact h
  have hBW : Below w.heap.size w W := by rw [← hW]; exact ((((Below.refl _ _).alloc (by (try simp) <;> omega) _).alloc (by (try simp) <;> omega) _).alloc (by (try simp) <;> omega) _)
  have hsW : w.heap.size + 1 + 1 + 1 ≤ W.heap.size := by rw [← hW]; simp
  by_cases hpq : p = q
  · subst hpq
    have hfin : sgn p (val xs + val ys) = X + Y := by rw [sgn_add, hX, hY]
    have HF := Lib.hid hfin
    clear hX hY hfin
    have mkS : ∀ X, Below (w.heap.size + 1 + 1) W X → X.cell? ⟨w.heap.size, 0, none⟩ = some (.bool p) ∧ X.cell? ⟨w.heap.size, 1, none⟩ = some (.slice a1 xs.length c1) ∧ X.cell? ⟨w.heap.size + 1, 1, none⟩ = some (.slice a2 ys.length c2) ∧ Below w.heap.size w X ∧ Below (w.heap.size + 1 + 1) W X := fun X h => ⟨(R0.below h (by omega)).cell 0, (R0.below h (by omega)).cell 1, (R1.below h (by omega)).cell 1, hBW.trans (h.mono (by omega)), h⟩
    obtain ⟨e0, e1, _, _⟩ := R0.two
    obtain ⟨o0, o1, _, _⟩ := R1.two
    have hbb : (p == p) = true := by simp
    go_enter Tryz.func79, Tryz.ntmps79
    go_wp2_with fail
    clear hW e0 e1 o0 o1
    go_region_held3 (fun X => X.cell? ⟨w.heap.size, 0, none⟩ = some (.bool p) ∧ X.cell? ⟨w.heap.size, 1, none⟩ = some (.slice a1 xs.length c1) ∧ X.cell? ⟨w.heap.size + 1, 1, none⟩ = some (.slice a2 ys.length c2) ∧ Below w.heap.size w X ∧ Below (w.heap.size + 1 + 1) W X)
      (((refine mkS _ ?_; (repeat' (first | exact Below.refl _ _ | refine Below.drew ?_ | refine Below.alloc ?_ (by (try simp) <;> omega) _ | refine below_set3 ?_ (by (try simp) <;> omega) _ _ _ | refine below_set2 ?_ (by (try simp) <;> omega) _ _ | refine Below.setCell ?_ (by (try simp) <;> omega) _ | refine Below.trans ?_ (Below.mono (by assumption) (by (try simp) <;> omega)))))))
      ((go_at_call 111; refine (add_res (A.later (by (repeat' (first | exact Below.refl _ _ | exact hBW | refine Below.drew ?_ | refine Below.alloc ?_ (by (try simp) <;> omega) _ | refine below_set3 ?_ (by (try simp) <;> omega) _ _ _ | refine below_set2 ?_ (by (try simp) <;> omega) _ _ | refine Below.setCell ?_ (by (try simp) <;> omega) _ | refine Below.trans ?_ (Below.mono (by assumption) (by (try simp) <;> omega)))))) (B.later (by (repeat' (first | exact Below.refl _ _ | exact hBW | refine Below.drew ?_ | refine Below.alloc ?_ (by (try simp) <;> omega) _ | refine below_set3 ?_ (by (try simp) <;> omega) _ _ _ | refine below_set2 ?_ (by (try simp) <;> omega) _ _ | refine Below.setCell ?_ (by (try simp) <;> omega) _ | refine Below.trans ?_ (Below.mono (by assumption) (by (try simp) <;> omega)))))) (by omega) (by omega)).mono ?_; rintro e w2 ⟨r2, z2, rfl, q2, l2, hb2⟩; have hs2 := hb2.size; simp at hs2; obtain ⟨ad2, cp2, rfl, q2, A2⟩ := q2.slice; have R2' := R2.later (show Below W.heap.size W w2 by (repeat' (first | exact Below.refl _ _ | refine Below.drew ?_ | refine Below.alloc ?_ (by (try simp) <;> omega) _ | refine below_set3 ?_ (by (try simp) <;> omega) _ _ _ | refine below_set2 ?_ (by (try simp) <;> omega) _ _ | refine Below.setCell ?_ (by (try simp) <;> omega) _ | refine Below.trans ?_ (Below.mono (by assumption) (by (try simp) <;> omega))))); obtain ⟨u0, u1, g0, g1⟩ := R2'.two))
    go_wp2_with fail
    refine bodyPost_ret (v := .agg #[.bool p, .slice ad2 z2.length cp2]) (by simp [results, Tryz.results79, go_sem, u0, u1]) rfl ⟨_, rfl, ?_, ?_⟩
    · exact ⟨p, z2, ad2, cp2, rfl, (q2.kept (kept2 _ _) (by simp; omega)).at_.2, by rw [q2.eq, HF.out], by omega⟩
    · (repeat' (first | exact Below.refl _ _ | exact hBW | refine Below.drew ?_ | refine Below.alloc ?_ (by (try simp) <;> omega) _ | refine below_set3 ?_ (by (try simp) <;> omega) _ _ _ | refine below_set2 ?_ (by (try simp) <;> omega) _ _ | refine Below.setCell ?_ (by (try simp) <;> omega) _ | refine Below.trans ?_ (Below.mono (by assumption) (by (try simp) <;> omega))))
  · have hbb : (p == q) = false := by simpa using hpq
    have A' := A.later hBW
    have B' := B.later hBW
    obtain ⟨e0, e1, h0, h1⟩ := R0.two
    obtain ⟨o0, o1, i0, i1⟩ := R1.two
    by_cases hlt : val xs < val ys
    · have hfin : sgn q (val ys - val xs) = X + Y := by rw [sgn_sub (fun h => hpq h.symm), hX, hY, Int.add_comm]
      have HF := Lib.hid hfin
      clear hX hY hfin
      go_enter Tryz.func79, Tryz.ntmps79
      go_wp2_with fail
      refine (cmp_lt A' B' (by omega) (by omega) hlt).mono ?_
      rintro e w1 ⟨rfl, hb1⟩
      have hs1 := hb1.size
      have R0' := R0.later hb1
      have R1' := R1.later hb1
      have R2' := R2.later hb1
      have A1 := A'.later hb1
      have B1 := B'.later hb1
      clear e0 e1 h0 h1 o0 o1 i0 i1 hW R0 R1 R2 A' B'
      have hBW1 := hBW.trans (hb1.mono (by omega))
      obtain ⟨e0, e1, h0, h1⟩ := R0'.two
      obtain ⟨o0, o1, i0, i1⟩ := R1'.two
      obtain ⟨V, hV⟩ : ∃ V, (((w1.setCell ⟨w.heap.size, 0, none⟩ (.bool q)).setCell ⟨w.heap.size, 1, none⟩ (.slice a2 ys.length c2)).setCell ⟨w.heap.size + 1, 0, none⟩ (.bool p)).setCell ⟨w.heap.size + 1, 1, none⟩ (.slice a1 xs.length c1) = V := ⟨_, rfl⟩
      have hBV : Below w.heap.size w V := by rw [← hV]; exact below_set2 (below_set2 hBW1 (by omega) _ _) (by omega) _ _
      have hsV : V.heap.size = w1.heap.size := by rw [← hV]; simp
      have Q0 : Row V (w.heap.size) 108 #[.bool q, .slice a2 ys.length c2] := by rw [← hV]; exact ((R0'.set2 _ _).far (by simp <;> omega) _).far (by simp <;> omega) _
      have Q1 : Row V (w.heap.size + 1) 108 #[.bool p, .slice a1 xs.length c1] := by rw [← hV]; exact ((R1'.far (by simp <;> omega) _).far (by simp <;> omega) _).set2 _ _
      have Q2 : Row V (w.heap.size + 1 + 1) 108 #[.bool false, .slice none 0 0] := by rw [← hV]; exact (((R2'.far (by simp <;> omega) _).far (by simp <;> omega) _).far (by simp <;> omega) _).far (by simp <;> omega) _
      have AV := A.later hBV
      have BV := B.later hBV
      obtain ⟨j0, j1, _, _⟩ := Q0.two
      obtain ⟨k0, k1, _, _⟩ := Q1.two
      go_wp2_with fail
      refine (sub_res BV AV (by omega) (by omega) (by omega)).mono ?_
      rintro e w2 ⟨r2, z2, rfl, q2, l2, hb2⟩
      obtain ⟨ad2, cp2, rfl, q2, A2⟩ := q2.slice
      have hs2 := hb2.size
      clear e0 e1 h0 h1 o0 o1 i0 i1 j0 j1 k0 k1 hV
      obtain ⟨j0, j1, _, _⟩ := (Q0.later hb2).two
      obtain ⟨u0, u1, g0, g1⟩ := (Q2.later hb2).two
      go_wp2_with fail
      refine bodyPost_ret (v := .agg #[.bool q, .slice ad2 z2.length cp2]) (by simp [results, Tryz.results79, go_sem, u0, u1]) rfl ⟨_, rfl, ?_, ?_⟩
      · exact ⟨q, z2, ad2, cp2, rfl, (q2.kept (kept2 _ _) (by omega)).at_.2, by rw [q2.eq, HF.out], by omega⟩
      · exact below_set2 (hBV.trans (hb2.mono (by omega))) (by omega) _ _
    · have hfin : sgn p (val xs - val ys) = X + Y := by rw [sgn_sub hpq, hX, hY]
      have HF := Lib.hid hfin
      clear hX hY hfin
      go_enter Tryz.func79, Tryz.ntmps79
      go_wp2_with fail
      refine (cmp_geN A' B' (by omega) (by omega) (by omega)).mono ?_
      rintro e w1 ⟨r1, rfl, hr1, hb1⟩
      have hs1 := hb1.size
      have R0' := R0.later hb1
      have R1' := R1.later hb1
      have R2' := R2.later hb1
      have A1 := A'.later hb1
      have B1 := B'.later hb1
      clear e0 e1 h0 h1 o0 o1 i0 i1 hW R0 R1 R2 A' B'
      have hBW1 := hBW.trans (hb1.mono (by omega))
      obtain ⟨e0, e1, h0, h1⟩ := R0'.two
      obtain ⟨o0, o1, i0, i1⟩ := R1'.two
      go_wp2_with fail
      refine (sub_res A1 B1 (by omega) (by omega) (by omega)).mono ?_
      rintro e w2 ⟨r2, z2, rfl, q2, l2, hb2⟩
      obtain ⟨ad2, cp2, rfl, q2, A2⟩ := q2.slice
      have hs2 := hb2.size
      clear e0 e1 h0 h1 o0 o1 i0 i1
      obtain ⟨j0, j1, _, _⟩ := (R0'.later hb2).two
      obtain ⟨u0, u1, g0, g1⟩ := (R2'.later hb2).two
      go_wp2_with fail
      refine bodyPost_ret (v := .agg #[.bool p, .slice ad2 z2.length cp2]) (by simp [results, Tryz.results79, go_sem, u0, u1]) rfl ⟨_, rfl, ?_, ?_⟩
      · exact ⟨p, z2, ad2, cp2, rfl, (q2.kept (kept2 _ _) (by omega)).at_.2, by rw [q2.eq, HF.out], by omega⟩
      · exact below_set2 (hBW1.trans (hb2.mono (by omega))) (by omega) _ _
set_option maxRecDepth 100000 in
set_option maxHeartbeats 2000000 in
theorem minus_any {n : Nat} {w : World} {u v : Value} {X Y : Int} (hu : SgnQ w u X n) (hv : SgnQ w v Y n) (hn : n ≤ 2147483648) :
    Calls Tryz.prog 133 #[u, v] w fun e w' => ∃ r, e = .returned r ∧ SgnQ w' r (X - Y) (n + 1) ∧ Below w.heap.size w w' := by
  obtain ⟨p, xs, a1, c1, rfl, A, hX, hx⟩ := hu
  obtain ⟨q, ys, a2, c2, rfl, B, hY, hy⟩ := hv
  obtain ⟨W, hW⟩ : ∃ W, (((w.alloc (.cells #[.bool p, .slice a1 xs.length c1] 108)).alloc (.cells #[.bool q, .slice a2 ys.length c2] 108)).alloc (.cells #[.bool false, .slice none 0 0] 108)) = W := ⟨_, rfl⟩
  have R0 : Row W (w.heap.size) 108 #[.bool p, .slice a1 xs.length c1] := by rw [← hW]; exact (((Row.new _ _ _).alloc _).alloc _)
  have R1 : Row W (w.heap.size + 1) 108 #[.bool q, .slice a2 ys.length c2] := by rw [← hW]; have h := (Row.new (w.alloc (.cells #[.bool p, .slice a1 xs.length c1] 108)) 108 #[.bool q, .slice a2 ys.length c2]); simp only [World.size_alloc] at h; exact (h.alloc _)
  have R2 : Row W (w.heap.size + 1 + 1) 108 #[.bool false, .slice none 0 0] := by rw [← hW]; have h := (Row.new ((w.alloc (.cells #[.bool p, .slice a1 xs.length c1] 108)).alloc (.cells #[.bool q, .slice a2 ys.length c2] 108)) 108 #[.bool false, .slice none 0 0]); simp only [World.size_alloc] at h; exact h
  have hBW : Below w.heap.size w W := by rw [← hW]; exact ((((Below.refl _ _).alloc (by (try simp) <;> omega) _).alloc (by (try simp) <;> omega) _).alloc (by (try simp) <;> omega) _)
  have hsW : w.heap.size + 1 + 1 + 1 ≤ W.heap.size := by rw [← hW]; simp
  have U : SgnQ W (.agg #[.bool p, .slice a1 xs.length c1]) X n := ⟨p, xs, a1, c1, rfl, A.later hBW, hX, hx⟩
  have V : SgnQ W (.agg #[.bool !q, .slice a2 ys.length c2]) (-Y) n := ⟨!q, ys, a2, c2, rfl, B.later hBW, by rw [sgn_not, hY], hy⟩
  clear hX hY
  obtain ⟨e0, e1, _, _⟩ := R0.two
  obtain ⟨o0, o1, _, _⟩ := R1.two
  go_enter Tryz.func133, Tryz.ntmps133
  go_wp2_with fail
  refine (plus_any U V hn).mono ?_
  rintro e w2 ⟨r2, rfl, ⟨s, zs, a3, c3, rfl, A3, hZ, hz⟩, hb2⟩
  have hs2 := hb2.size
  have HZ := Lib.hid hZ
  clear e0 e1 o0 o1 hW hZ
  obtain ⟨u0, u1, g0, g1⟩ := (R2.later hb2).two
  go_wp2_with fail
  refine bodyPost_ret (v := .agg #[.bool s, .slice a3 zs.length c3]) (by simp [results, Tryz.results133, go_sem, u0, u1]) rfl ⟨_, rfl, ?_, ?_⟩
  · exact ⟨s, zs, a3, c3, rfl, A3.far (R2.later hb2) (noInts2 _ _ _ _) (kept2 _ _), by rw [HZ.out, Int.sub_eq_add_neg], hz⟩
  · exact below_set2 (hBW.trans (hb2.mono (by omega))) (by omega) _ _
set_option maxRecDepth 100000 in
set_option maxHeartbeats 1000000 in
theorem sign_any {n : Nat} {w : World} {u : Value} {X : Int} (hu : SgnQ w u X n) (hn : n ≤ 2147483648) :
    Calls Tryz.prog 81 #[u] w fun e w' => e = .returned (.int .i64 X.sign) ∧ Below w.heap.size w w' := by
  obtain ⟨p, xs, a1, c1, rfl, A, hX, hx⟩ := hu
  have hsg := sgn_sign p (val_nonneg A.wf)
  rw [hX] at hsg
  obtain ⟨W, hW⟩ : ∃ W, (w.alloc (.cells #[.bool p, .slice a1 xs.length c1] 108)) = W := ⟨_, rfl⟩
  have R0 : Row W (w.heap.size) 108 #[.bool p, .slice a1 xs.length c1] := by rw [← hW]; exact (Row.new _ _ _)
  have hBW : Below w.heap.size w W := by rw [← hW]; exact ((Below.refl _ _).alloc (by (try simp) <;> omega) _)
  have hsW : w.heap.size + 1 ≤ W.heap.size := by rw [← hW]; simp
  have A' := A.later hBW
  obtain ⟨e0, e1, _, _⟩ := R0.two
  have hbits := bits_res A' (by omega) (bitsN_is A.wf)
  have hbp := bits_pos A.wf
  have h0 := val_nonneg A.wf
  obtain ⟨nb, hnb⟩ : ∃ nb, bitsN xs = nb := ⟨_, rfl⟩
  rw [hnb] at hbits hbp
  clear hnb hX
  by_cases hz : val xs = 0
  · have hb0 : ((nb : Int) == 0) = true := by have : nb = 0 := by omega
                                              subst this; rfl
    rw [if_pos hz] at hsg
    have HS := Lib.hid hsg
    clear hsg hz hbp h0
    go_enter Tryz.func81, Tryz.ntmps81
    go_wp2_with fail
    refine hbits.mono ?_
    rintro e w' ⟨rfl, rfl⟩
    clear hbits
    go_wp2_with fail
    go_ret
    exact ⟨by rw [HS.out]; rfl, hBW⟩
  · have hb0 : ((nb : Int) == 0) = false := by simp; omega
    rw [if_neg hz] at hsg
    have HS := Lib.hid hsg
    clear hsg hz hbp h0
    cases p with
    | true =>
      go_enter Tryz.func81, Tryz.ntmps81
      go_wp2_with fail
      refine hbits.mono ?_
      rintro e w' ⟨rfl, rfl⟩
      clear hbits
      go_wp2_with fail
      go_ret
      exact ⟨by rw [HS.out]; rfl, hBW⟩
    | false =>
      go_enter Tryz.func81, Tryz.ntmps81
      go_wp2_with fail
      refine hbits.mono ?_
      rintro e w' ⟨rfl, rfl⟩
      clear hbits
      go_wp2_with fail
      go_ret
      exact ⟨by rw [HS.out]; rfl, hBW⟩
end
end Go.Proofs.YtnhfjacifajdlaaGreat
