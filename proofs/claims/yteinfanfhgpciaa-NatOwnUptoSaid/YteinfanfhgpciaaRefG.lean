/-
  Contracts of the reference: Short.
-/
import Derived.Test.YteinfanfhgpciaaRefC
import Derived.Test.YteinfanfhgpciaaDigB
namespace Go.Proofs.Yteinfanfhgpciaa
open Go.RowKit

/-- a quotient's digits and the rest, by a small one -/
def shortD (d : Int) : List Int → List Int × Int
  | [] => ([], 0)
  | x :: xs => (((shortD d xs).2 * 10000 + x) / d :: (shortD d xs).1, ((shortD d xs).2 * 10000 + x) % d)
theorem shortD_length (d : Int) (xs : List Int) : (shortD d xs).1.length = xs.length := by
  induction xs with
  | nil => rfl
  | cons x xs ih => simp [shortD, ih]
theorem shortD_rest {d : Int} (hd : 0 < d) (xs : List Int) : 0 ≤ (shortD d xs).2 ∧ (shortD d xs).2 < d := by
  cases xs with
  | nil => simp [shortD, hd]
  | cons x xs => exact ⟨Int.emod_nonneg _ (by omega), Int.emod_lt_of_pos _ hd⟩
theorem short_digit {d r x : Int} (hd : 0 < d) (hr : 0 ≤ r ∧ r < d) (hx : 0 ≤ x ∧ x < 10000) : 0 ≤ (r * 10000 + x) / d ∧ (r * 10000 + x) / d < 10000 := by
  constructor
  · exact Int.ediv_nonneg (by omega) (by omega)
  · exact Int.ediv_lt_of_lt_mul hd (by omega)
theorem shortD_wf {d : Int} (hd : 0 < d) {xs : List Int} (hx : WfD xs) : WfD (shortD d xs).1 := by
  induction xs with
  | nil => exact WfD.nil
  | cons x xs ih => exact WfD.cons (short_digit hd (shortD_rest hd xs) hx.head) (ih hx.tail)
theorem val_shortD (d : Int) (xs : List Int) : valD (shortD d xs).1 * d + (shortD d xs).2 = valD xs := by
  induction xs with
  | nil => simp [shortD, valD]
  | cons x xs ih =>
    simp only [shortD, valD]
    have hm := Int.mul_ediv_add_emod ((shortD d xs).2 * 10000 + x) d
    generalize ((shortD d xs).2 * 10000 + x) / d = q at *
    generalize ((shortD d xs).2 * 10000 + x) % d = r at *
    generalize valD (shortD d xs).1 = V at *
    generalize (shortD d xs).2 = s at *
    grind
theorem quo_eq {V d r N : Int} (hd : 0 < d) (h : V * d + r = N) (hr : 0 ≤ r ∧ r < d) : V = N / d ∧ r = N % d := by
  subst h
  rw [Int.add_comm]
  constructor
  · rw [Int.add_mul_ediv_right _ _ (by omega), Int.ediv_eq_zero_of_lt hr.1 hr.2, Int.zero_add]
  · rw [Int.add_mul_emod_self_right, Int.emod_eq_of_lt hr.1 hr.2]
theorem set_front (j : Nat) (L : List Int) (v : Int) : (List.replicate (j + 1) 0 ++ L).set j v = List.replicate j 0 ++ v :: L := by
  rw [List.replicate_succ', List.append_assoc, List.set_append_right _ _ (by simp)]
  simp

set_option maxHeartbeats 2000000 in
theorem short_any {u : Value} {xs : List Int} {a : Option Addr} {capa : Nat} {w : World} (d : Int) (h1 : ArgD w u xs a capa) (hx : xs.length ≤ 1099511627776) (hd : 1 ≤ d ∧ d ≤ 4294967296) :
    Calls Try.prog 35 #[u, .int .i64 d] w fun e w' => ∃ r, e = .returned (.tuple #[r, .int .i64 (valD xs % d)]) ∧ ∃ zs, ResD w.heap.size w' r zs (valD xs / d) ∧ zs.length ≤ xs.length ∧ Below w.heap.size w w' := by
  obtain ⟨rfl, lx, _, wx, _⟩ := h1
  obtain ⟨hd0, hd1⟩ := hd
  obtain ⟨n, hn⟩ : ∃ n, xs.length = n := ⟨_, rfl⟩
  have hmk := makeI_runN n n (Nat.le_refl _) (by omega)
  rw [hn]
  have HN := Lib.hid hn
  rw [hn] at hx
  clear hn
  go_enter Try.func35, Try.ntmps35
  go_wp2
  go_loopw [7, 8, 9] (fun s i _ wr => ∃ (k : Nat), k ≤ n ∧ s = .int .i64 (shortD d (xs.drop (n - k))).2 ∧ i = .int .i64 ((n : Int) - 1 - k) ∧ BlkI wr w.heap.size (List.replicate (n - k) 0 ++ (shortD d (xs.drop (n - k))).1) ∧ Below w.heap.size w wr) (fun _ i _ _ => (intOf i + 1).toNat)
  case atStart =>
    have e : xs.drop (n - 0) = [] := by rw [Nat.sub_zero, ← HN.out, List.drop_length]
    refine ⟨0, Nat.zero_le _, by rw [e]; rfl, by simp, ?_, ((Below.refl _ w).alloc (Nat.le_refl _) _)⟩
    rw [e]
    simpa [shortD] using BlkI.made w n
  case round =>
    obtain ⟨k, hk, rfl, rfl, hblk, hb⟩ := hrel
    have hsz := hb.size
    by_cases hlt : k < n
    · rcases lx with rfl | ⟨b, off, rfl, hc⟩
      · have := HN.out; simp at this; omega
      · obtain ⟨j, hj⟩ : ∃ j, j + k + 1 = n := ⟨n - k - 1, by omega⟩
        have hji : ((n : Int) - 1 - k) = (j : Int) := by omega
        obtain ⟨x, hxk⟩ : ∃ x, xs.getD j 0 = x := ⟨_, rfl⟩
        obtain ⟨bx0, bx1⟩ : 0 ≤ x ∧ x < 10000 := hxk ▸ wx.getD j
        have hjl : j < xs.length := by have := HN.out; omega
        have hcj := hc j hjl
        rw [hxk] at hcj
        have hc0 : wr.cell? ⟨b, off + j, none⟩ = some (.int .i64 x) := (hb.cell (p := ⟨b, off + j, none⟩) (World.block_lt_of_cell? w _ hcj)).trans hcj
        have hge : (0 : Int) ≤ (j : Int) := by omega
        have hjn : (j : Int) < (n : Int) := by omega
        obtain ⟨r, hr⟩ : ∃ r, (shortD d (xs.drop (n - k))).2 = r := ⟨_, rfl⟩
        obtain ⟨br0, br1⟩ := shortD_rest (show 0 < d by omega) (xs.drop (n - k))
        have hst : shortD d (xs.drop (n - (k + 1))) = ((r * 10000 + x) / d :: (shortD d (xs.drop (n - k))).1, (r * 10000 + x) % d) := by
          rw [show n - (k + 1) = j from by omega, show n - k = j + 1 from by omega, List.drop_eq_getElem_cons hjl]
          have e : xs[j] = x := by rw [← hxk]; simp [hjl]
          simp only [shortD]
          rw [e, show j + 1 = n - k from by omega, hr]
        rw [hr] at br0 br1
        rw [hji, hr]
        rw [show n - k = j + 1 from by omega] at hblk hr hst
        have hset := hblk.set j ((r * 10000 + x) / d)
        rw [set_front] at hset
        have hlen : (List.replicate (j + 1) 0 ++ (shortD d (xs.drop (j + 1))).1).length = n := by rw [List.length_append, List.length_replicate, shortD_length, List.length_drop, HN.out]; omega
        have hcell := hblk.cell j (by omega)
        have hfree := hblk.free j
        obtain ⟨bq0, bq1⟩ := short_digit (show 0 < d by omega) ⟨br0, br1⟩ ⟨bx0, bx1⟩
        have bm0 : 0 ≤ (r * 10000 + x) % d := Int.emod_nonneg _ (by omega)
        have bm1 : (r * 10000 + x) % d < d := Int.emod_lt_of_pos _ (by omega)
        have hq : Int.tdiv (r * 10000 + x) d = (r * 10000 + x) / d := Int.tdiv_eq_ediv_of_nonneg (by omega)
        have hm : Int.tmod (r * 10000 + x) d = (r * 10000 + x) % d := Int.tmod_eq_emod_of_nonneg (by omega)
        have hdz : (d == 0) = false := by simp; omega
        have HST := Lib.hid hst
        have HJ := Lib.hid hj
        have HSET := Lib.hid hset
        clear hst hj hset hblk hr hxk hc hcj hji hlen
        go_wp2
        go_roundw
        case rel =>
          refine ⟨k + 1, by omega, by rw [HST.out], by have := HJ.out; congr 1; omega, ?_, hb.setCell (p := ⟨w.heap.size, j, none⟩) (Nat.le_refl _) _⟩
          rw [HST.out, show n - (k + 1) = j from by have := HJ.out; omega]
          exact HSET.out
        case measure => simp [intOf]
    · obtain rfl : k = n := by omega
      have hji : ((k : Int) - 1 - k) = -1 := by omega
      rw [hji]
      clear hji
      obtain ⟨r, hr⟩ : ∃ r, (shortD d (xs.drop (k - k))).2 = r := ⟨_, rfl⟩
      rw [hr]
      rw [Nat.sub_self] at hblk hr
      rw [List.drop_zero] at hblk hr
      rw [List.replicate_zero, List.nil_append] at hblk
      have hl := shortD_length d xs
      rw [HN.out] at hl
      have hnum := NumI.ofBlk hblk (Nat.le_refl _) k (by omega) (by rw [hl]; unfold maxLen; omega)
      rw [hl, List.take_of_length_le (by omega)] at hnum
      obtain ⟨e1, e2⟩ := quo_eq (show 0 < d by omega) (val_shortD d xs) (shortD_rest (by omega) xs)
      have wq := shortD_wf (show 0 < d by omega) wx
      rw [hr] at e2
      have E1 := Lib.hid e1
      have E2 := Lib.hid e2
      clear hblk hr e1 e2
      go_wp2_with fail
      refine (trimD_num hnum (by omega)).mono ?_
      rintro e w' ⟨q, rfl, hq, rfl⟩
      go_wp2_with fail
      go_ret2
      have hlen : (trim (shortD d xs).1).length ≤ xs.length := by have h := Nat.le_trans (Nat.le_of_eq (trim_length _)) (trim_le (shortD d xs).1); rw [shortD_length] at h; exact h
      refine ⟨q, by rw [← E2.out]; rfl, trim (shortD d xs).1, ⟨hq, wq.trim, trim_full _, by rw [val_trimD, E1.out]⟩, by rw [← HN.out]; exact hlen, hb⟩

/-! ## bits, powers -/
/-- N has k bits -/
def IsBits (N : Int) (k : Nat) : Prop := (k = 0 ∧ N = 0) ∨ ∃ j : Nat, k = j + 1 ∧ 2 ^ j ≤ N ∧ N < 2 ^ (j + 1)
theorem two_pos (k : Nat) : (0 : Int) < 2 ^ k := Int.pow_pos (by omega)
theorem two_mono {j k : Nat} (h : j ≤ k) : (2 : Int) ^ j ≤ 2 ^ k := by
  rw [show k = j + (k - j) from by omega, Int.pow_add]
  have h4 : (2 : Int) ^ j * 1 ≤ 2 ^ j * 2 ^ (k - j) := Int.mul_le_mul_of_nonneg_left (by have := two_pos (k - j); omega) (Int.le_of_lt (two_pos _))
  omega
theorem IsBits.unique {N : Int} {k l : Nat} (h : IsBits N k) (g : IsBits N l) : k = l := by
  rcases h with ⟨rfl, rfl⟩ | ⟨j, rfl, h1, h2⟩
  · rcases g with ⟨rfl, _⟩ | ⟨i, rfl, g1, g2⟩
    · rfl
    · have := two_pos i; omega
  · rcases g with ⟨rfl, rfl⟩ | ⟨i, rfl, g1, g2⟩
    · have := two_pos j; omega
    · rcases Nat.lt_trichotomy j i with e | e | e
      · have := two_mono (show j + 1 ≤ i by omega); omega
      · rw [e]
      · have := two_mono (show i + 1 ≤ j by omega); omega
theorem IsBits.half {N : Int} {k : Nat} (h : IsBits (N / 2) k) (hN : 0 < N) : IsBits N (k + 1) := by
  refine .inr ⟨k, rfl, ?_⟩
  rcases h with ⟨rfl, h⟩ | ⟨j, rfl, h1, h2⟩
  · simp; omega
  · rw [Int.pow_succ] at h2 ⊢
    rw [Int.pow_succ 2 (j + 1), Int.pow_succ 2 j]
    omega
theorem IsBits.exists (n : Nat) : ∃ k, IsBits (n : Int) k := by
  induction n using Nat.strongRecOn with
  | ind n ih =>
    by_cases h : n = 0
    · exact ⟨0, .inl ⟨rfl, by omega⟩⟩
    · obtain ⟨k, hk⟩ := ih (n / 2) (by omega)
      exact ⟨k + 1, IsBits.half (by simpa using hk) (by omega)⟩
theorem IsBits.le {N : Int} {k m : Nat} (h : IsBits N k) (hm : N < 2 ^ m) : k ≤ m := by
  rcases h with ⟨rfl, _⟩ | ⟨j, rfl, h1, _⟩
  · omega
  · rcases Nat.lt_or_ge j m with e | e
    · omega
    · have := two_mono e; omega
theorem IsBits.lt {N : Int} {k m : Nat} (h : IsBits N k) (hm : k ≤ m) : N < 2 ^ m := by
  rcases h with ⟨rfl, rfl⟩ | ⟨j, rfl, _, h2⟩
  · exact two_pos m
  · have := two_mono hm; omega
theorem valD_zero {ds : List Int} (h : WfD ds) (f : trimN ds ds.length = ds.length) (e : valD ds = 0) : ds.length = 0 := by
  rcases Nat.eq_zero_or_pos ds.length with h0 | h0
  · exact h0
  · have h1 := full_geD h f (ds.length - 1) (by omega)
    have h2 := pow_posD (ds.length - 1)
    omega

set_option maxHeartbeats 1000000 in
theorem bitsD_any {u : Value} {xs : List Int} {a : Option Addr} {capa : Nat} {w : World} {n : Nat} (h1 : ArgD w u xs a capa) (hx : xs.length ≤ 1099511627776) (hn : IsBits (valD xs) n) (hn2 : n ≤ 1099511627776) :
    Calls Try.prog 20 #[u] w fun e w' => e = .returned (.int .i64 n) ∧ Below w.heap.size w w' := by
  go_enter Try.func20, Try.ntmps20
  go_wp2
  go_loopw [0, 3, 4, 5] (fun s i _ _ wr => ∃ (k m : Nat) (q : Value) (ds : List Int) (ad : Option Addr) (cap : Nat), q = s ∧ i = .int .i64 k ∧ ArgD wr q ds ad cap ∧ IsBits (valD ds) m ∧ k + m = n ∧ ds.length ≤ xs.length ∧ Below w.heap.size w wr) (fun _ i _ _ _ => n - (intOf i).toNat)
  case atStart => exact ⟨0, n, _, xs, a, capa, rfl, rfl, h1, hn, by omega, Nat.le_refl _, Below.refl _ _⟩
  case round =>
    obtain ⟨k, m, q, ds, ad, cap, rfl, rfl, hA, hm, hkm, hlen, hb⟩ := hrel
    have hsz := hb.size
    have hA' := hA
    obtain ⟨rfl, _, _, wds, fds⟩ := hA'
    have HM := Lib.hid hm
    by_cases h0 : ds.length = 0
    · have hds : ds = [] := List.eq_nil_of_length_eq_zero h0
      subst hds
      have hmz : m = 0 := hm.unique (.inl ⟨rfl, rfl⟩)
      subst hmz
      clear hm
      have hgt : decide ((0 : Int) < 0) = false := by decide
      go_wp2
      go_ret
      exact ⟨by rw [show k = n from by omega]; rfl, hb⟩
    · have hpos : (0 : Int) < (ds.length : Int) := by omega
      have hv : 0 < valD ds := by
        rcases hm with ⟨_, e⟩ | ⟨j, _, h1, _⟩
        · exact absurd (valD_zero wds fds e) h0
        · have := two_pos j; omega
      have HV := Lib.hid hv
      clear hm hv
      go_wp2_with fail
      refine (short_any 2 hA (by omega) (by omega)).mono ?_
      rintro e w2 ⟨r2, rfl, z2, q2, n2, hb2⟩
      obtain ⟨ad2, cap2, A2⟩ := q2.arg
      have hm2 : ∃ j, m = j + 1 ∧ IsBits (valD z2) j := by
        rw [q2.eq]
        obtain ⟨j, hj⟩ := IsBits.exists (valD ds / 2).toNat
        rw [Int.toNat_of_nonneg (by have := HV.out; omega)] at hj
        exact ⟨j, HM.out.unique (hj.half HV.out), hj⟩
      obtain ⟨j, rfl, hj⟩ := hm2
      have hB2 := hb.trans (hb2.mono hsz)
      have HJ := Lib.hid hj
      clear hj
      go_wp2
      go_roundw
      case rel => exact ⟨k + 1, j, r2, z2, ad2, cap2, rfl, by go_num, A2, HJ.out, by omega, by omega, hB2⟩
      case measure => simp [intOf]; omega

set_option maxHeartbeats 1000000 in
theorem power_any (k : Nat) (w : World) (hk : k ≤ 17179869184) :
    Calls Try.prog 18 #[.int .i64 k] w fun e w' => ∃ r, e = .returned r ∧ ∃ zs, ResD w.heap.size w' r zs (2 ^ k) ∧ zs.length ≤ k + 1 ∧ Below w.heap.size w w' := by
  have h0 : ResD w.heap.size (w.alloc (.cells #[.int .i64 1] 3)) (.slice (some ⟨w.heap.size, 0, none⟩) 1 1) [1] 1 := ⟨by
    have h := NumI.ofBlk (base := w.heap.size) (w := w.alloc (.cells #[.int .i64 1] 3)) (g := w.heap.size) (zs := [1]) (heap_alloc_new w _) (Nat.le_refl _) 1 (by simp) (by unfold maxLen; simp)
    simpa using h, WfD.cons (by omega) WfD.nil, by decide, by simp [valD]⟩
  go_enter Try.func18, Try.ntmps18
  go_wp2
  go_loopw [3, 4] (fun s i wr => ∃ (j : Nat) (q : Value) (ds : List Int), j ≤ k ∧ q = s ∧ i = .int .i64 j ∧ ResD w.heap.size wr q ds (2 ^ j) ∧ ds.length ≤ j + 1 ∧ Below w.heap.size w wr) (fun _ i _ => k - (intOf i).toNat)
  case atStart => exact ⟨0, _, [1], Nat.zero_le _, rfl, rfl, by simpa using h0, by simp, (Below.refl _ w).alloc (Nat.le_refl _) _⟩
  case round =>
    obtain ⟨j, q, ds, hj, rfl, rfl, hres, hlen, hb⟩ := hrel
    have hsz := hb.size
    by_cases hlt : j < k
    · have hlt2 : (j : Int) < (k : Int) := by omega
      obtain ⟨ad, cap, A⟩ := hres.arg
      clear h0
      go_wp2_with fail
      refine (addD_any A A (by omega) (by omega)).mono ?_
      rintro e w2 ⟨r2, rfl, z2, q2, n2, hb2⟩
      have hB2 := hb.trans (hb2.mono hsz)
      have hv : valD z2 = 2 ^ (j + 1) := by rw [q2.eq, hres.eq, Int.pow_succ]; omega
      have HV := Lib.hid hv
      clear hv
      go_wp2
      go_roundw
      case rel => exact ⟨j + 1, r2, z2, by omega, rfl, by go_num, ⟨q2.num.mono hsz, q2.wf, q2.full, HV.out⟩, by omega, hB2⟩
      case measure => simp [intOf]; omega
    · obtain rfl : j = k := by omega
      clear h0
      go_wp2
      go_ret
      exact ⟨_, rfl, ds, hres, hlen, hb⟩
end Go.Proofs.Yteinfanfhgpciaa
