/-
  Contracts of the reference: Mul.
-/
import Derived.Test.YteinfanfhgpciaaRefC
namespace Go.Proofs.Yteinfanfhgpciaa
open Go.RowKit

theorem NumI.lit {base : Nat} {w : World} (h : base ≤ w.heap.size) (zs : List Int) (hm : zs.length ≤ maxLen) :
    NumI base (w.alloc (.cells (zs.map (Value.int .i64)).toArray 3)) (.slice (some ⟨w.heap.size, 0, none⟩) zs.length zs.length) zs := by
  unfold NumI
  exact ⟨by simp, .inr ⟨w.heap.size, zs.length, _, rfl, h, heap_alloc_new w _, Nat.le_refl _, hm, by simp, by simp [List.take_of_length_le]⟩⟩
theorem LimI.news {w : World} {ad : Addr} {xs : List Int} (h : LimI w (some ad) xs) : ∀ j u, (xs.map (Value.int .i64))[j]? = some u → w.cell? (ad.add j) = some u := by
  intro j u hj
  rcases h with rfl | ⟨b, off, e, hc⟩
  · simp at hj
  · cases e
    rw [List.getElem?_map] at hj
    have hjl : j < xs.length := by
      rcases Nat.lt_or_ge j xs.length with h | h
      · exact h
      · rw [List.getElem?_eq_none h] at hj; cases hj
    rw [show (⟨b, off, none⟩ : Addr).add j = ⟨b, off + j, none⟩ from (by unfold Addr.add; split <;> simp_all), hc j hjl, ← hj]
    simp [hjl]
theorem full_cons {x : Int} {l : List Int} (hl : 0 < l.length) (h : trimN l l.length = l.length) : trimN (x :: l) (x :: l).length = (x :: l).length := by
  obtain ⟨m, hm⟩ : ∃ m, l.length = m + 1 := ⟨l.length - 1, by omega⟩
  have h1 := trimN_last l l.length (by omega)
  rw [h, hm, Nat.add_sub_cancel] at h1
  rw [List.length_cons]
  unfold trimN
  rw [if_neg]
  rw [hm]
  simpa using h1
theorem valD_drop (xs : List Int) (j : Nat) (h : j < xs.length) : valD (xs.drop j) = xs.getD j 0 + 10000 * valD (xs.drop (j + 1)) := by
  rw [List.drop_eq_getElem_cons h]
  simp [valD, h]

set_option maxHeartbeats 2000000 in
theorem mulD_any {u v : Value} {xs ys : List Int} {a b : Option Addr} {capa capb : Nat} {w : World} (h1 : ArgD w u xs a capa) (h2 : ArgD w v ys b capb) (hx : xs.length ≤ 17179869184) (hy : ys.length ≤ 17179869184) :
    Calls Try.prog 16 #[u, v] w fun e w' => ∃ r, e = .returned r ∧ ∃ zs, ResD w.heap.size w' r zs (valD xs * valD ys) ∧ zs.length ≤ xs.length + 2 * ys.length + 3 ∧ Below w.heap.size w w' := by
  obtain ⟨i0, hi, hz0, hz1, hz2⟩ := info_parts infoInt
  obtain ⟨rfl, ly, _, wy, _⟩ := h2
  go_enter Try.func16, Try.ntmps16
  go_wp2
  go_loopw [5, 6, 7] (fun s i _ wr => ∃ (k : Nat) (q : Value) (ds : List Int), k ≤ ys.length ∧ q = s ∧ i = .int .i64 ((ys.length : Int) - 1 - k) ∧ ResD w.heap.size wr q ds (valD xs * valD (ys.drop (ys.length - k))) ∧ ds.length ≤ xs.length + 2 * k + 3 ∧ Below w.heap.size w wr) (fun _ i _ _ => (intOf i + 1).toNat)
  case atStart => exact ⟨0, _, [], Nat.zero_le _, rfl, by simp, ⟨World.ownsRow_nil _ _ _ _, WfD.nil, rfl, by simp [valD]⟩, by simp, Below.refl _ _⟩
  case round =>
    obtain ⟨k, q, ds, hk, rfl, rfl, hres, hlen, hb⟩ := hrel
    have hsz := hb.size
    by_cases hlt : k < ys.length
    · rcases ly with rfl | ⟨b, off, rfl, hc⟩
      · simp at hlt
      · obtain ⟨j, hj⟩ : ∃ j, j + k + 1 = ys.length := ⟨ys.length - k - 1, by omega⟩
        have hji : ((ys.length : Int) - 1 - k) = (j : Int) := by omega
        obtain ⟨x, hxk⟩ : ∃ x, ys.getD j 0 = x := ⟨_, rfl⟩
        obtain ⟨bx0, bx1⟩ : 0 ≤ x ∧ x < 10000 := hxk ▸ wy.getD j
        have hjl : j < ys.length := by omega
        have hcj := hc j hjl
        rw [hxk] at hcj
        have hge : (0 : Int) ≤ (j : Int) := by omega
        rw [hji]
        have hval : valD xs * valD (ys.drop (ys.length - (k + 1))) = 10000 * valD ds + valD xs * x := by
          rw [show ys.length - (k + 1) = j from by omega, valD_drop ys j hjl, hxk, hres.eq, show ys.length - k = j + 1 from by omega, Int.mul_add]
          have e : valD xs * (10000 * valD (List.drop (j + 1) ys)) = 10000 * (valD xs * valD (List.drop (j + 1) ys)) := by rw [← Int.mul_assoc, ← Int.mul_assoc, Int.mul_comm 10000]
          rw [e]
          omega
        have A1 := h1.later hb
        have HV := Lib.hid hval
        have HJ := Lib.hid hj
        clear hj hxk hc hji hval
        by_cases h0 : ds.length = 0
        · have hds : ds = [] := List.eq_nil_of_length_eq_zero h0
          subst hds
          have hq : ∃ ad cap, q = .slice ad 0 cap := by obtain ⟨ad, cap, h, _⟩ := hres.num.read; exact ⟨ad, cap, h⟩
          obtain ⟨adq, capq, rfl⟩ := hq
          have hc0 : wr.cell? ⟨b, off + j, none⟩ = some (.int .i64 x) := (hb.cell (p := ⟨b, off + j, none⟩) (World.block_lt_of_cell? w _ hcj)).trans hcj
          go_wp2_with fail
          refine (times_any x A1 (by omega) (by omega)).mono ?_
          rintro e w2 ⟨r2, rfl, z2, q2, n2, hb2⟩
          obtain ⟨ad2, cap2, A2⟩ := q2.arg
          have A0 : ArgD w2 (.slice none 0 0) [] none 0 := ⟨rfl, .inl rfl, Nat.le_refl _, WfD.nil, rfl⟩
          go_wp2_with fail
          refine (addD_any A0 A2 (by simp) (by omega)).mono ?_
          rintro e w3 ⟨r3, rfl, z3, q3, n3, hb3⟩
          have hB3 : Below w.heap.size w w3 := (hb.trans (hb2.mono hsz)).trans (hb3.mono (by have := hb2.size; omega))
          have hv3 : valD z3 = valD xs * valD (ys.drop (ys.length - (k + 1))) := by rw [q3.eq, q2.eq, HV.out]; simp [valD]
          have HV3 := Lib.hid hv3
          simp only [List.length_nil] at n3
          have hs2 := hb2.size
          clear hv3
          go_wp2
          go_roundw
          case rel => exact ⟨k + 1, r3, z3, by omega, rfl, by have := HJ.out; congr 1; omega, ⟨q3.num.mono (by omega), q3.wf, q3.full, HV3.out⟩, by omega, hB3⟩
          case measure => simp [intOf]
        · have hpos : 0 < ds.length := by omega
          have hres' := hres
          obtain ⟨⟨ad, cap, h1q, h2q, h3q, _, _⟩, wds, fds, eds⟩ := (⟨hres.num.read, hres.wf, hres.full, hres.eq⟩ : (_ ∧ _ ∧ _ ∧ _))
          subst h1q
          obtain ⟨p, o, rfl, hcd⟩ : ∃ p o, ad = some ⟨p, o, none⟩ ∧ True := by
            rcases h2q with e | ⟨p, o, e, _⟩
            · rw [e] at hpos; simp at hpos
            · exact ⟨p, o, e, trivial⟩
          have hlit := NumI.lit (base := w.heap.size) (w := wr) hsz [0] (by unfold maxLen; simp)
          have hrow : (wr.alloc (.cells #[.int .i64 0] 3)).ownsRow w.heap.size 3 1 (.slice (some ⟨wr.heap.size, 0, none⟩) 1 1) 1 [.int .i64 0] := hlit
          have hnews := (h2q.later ((Below.refl wr.heap.size wr).alloc (Nat.le_refl _) (.cells #[.int .i64 0] 3))).news
          have hal : Below w.heap.size w (wr.alloc (.cells #[.int .i64 0] 3)) := hb.alloc hsz _
          clear hlit hcd
          have hgt : (0 : Int) < (ds.length : Int) := by omega
          go_wp2_with (at_builtin; refine wpList_append_own _ rfl _ _ 30 rfl w.heap.size 3 i0 (.int .i64 0) 1 8 Try.underlying30 hi hz0 hz1 hz2 rfl (by decide) _ 1 [.int .i64 0] rfl hrow ⟨p, o, none⟩ ds.length cap (ds.map (Value.int .i64)) rfl (by simp) hnews (ints_oneCell _ _) (by unfold maxLen; omega) (by omega) (by simp; omega) ?_; intro v' w1 hown' hgrow _; have hb1 : Below w.heap.size w w1 := hal.grown hgrow (by simp; omega) (fun k hk => by cases hk; exact hsz); have hc0 : w1.cell? ⟨b, off + j, none⟩ = some (.int .i64 x) := (hb1.cell (p := ⟨b, off + j, none⟩) (World.block_lt_of_cell? w _ hcj)).trans hcj)
          have hup : NumI w.heap.size w1 v' (0 :: ds) := by
            unfold NumI
            rw [List.length_cons, List.map_cons, Nat.add_comm]
            exact hown'
          obtain ⟨adu, capu, hu1, hu2, hu3, _, _⟩ := hup.read
          have U1 : ArgD w1 v' (0 :: ds) adu capu := ⟨hu1, hu2, hu3, WfD.cons (by omega) wds, full_cons hpos fds⟩
          have A1' := h1.later hb1
          clear hown' hgrow hnews hrow hal h2q hup hu1 hu2 hu3
          have hs1 := hb1.size
          go_wp2_with fail
          refine (times_any x A1' (by omega) (by omega)).mono ?_
          rintro e w2 ⟨r2, rfl, z2, q2, n2, hb2⟩
          obtain ⟨ad2, cap2, A2⟩ := q2.arg
          have U2 := U1.later hb2
          go_wp2_with fail
          refine (addD_any U2 A2 (by simp only [List.length_cons]; omega) (by omega)).mono ?_
          rintro e w3 ⟨r3, rfl, z3, q3, n3, hb3⟩
          have hs2 := hb2.size
          have hB3 : Below w.heap.size w w3 := (hb1.trans (hb2.mono hs1)).trans (hb3.mono (by omega))
          have hv3 : valD z3 = valD xs * valD (ys.drop (ys.length - (k + 1))) := by rw [q3.eq, q2.eq, HV.out]; simp [valD]
          have HV3 := Lib.hid hv3
          simp only [List.length_cons] at n3
          clear hv3
          go_wp2
          go_roundw
          case rel => exact ⟨k + 1, r3, z3, by omega, rfl, by have := HJ.out; congr 1; omega, ⟨q3.num.mono (by omega), q3.wf, q3.full, HV3.out⟩, by omega, hB3⟩
          case measure => simp [intOf]
    · obtain rfl : k = ys.length := by omega
      have hji : ((ys.length : Int) - 1 - ys.length) = -1 := by omega
      rw [hji]
      clear hji
      have hv : valD ds = valD xs * valD ys := by have h := hres.eq; rwa [Nat.sub_self, List.drop_zero] at h
      go_wp2
      go_ret
      exact ⟨_, rfl, ds, ⟨hres.num, hres.wf, hres.full, hv⟩, hlen, hb⟩
end Go.Proofs.Yteinfanfhgpciaa
