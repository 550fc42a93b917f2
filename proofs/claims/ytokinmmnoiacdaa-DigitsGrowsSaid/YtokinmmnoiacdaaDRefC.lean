/-
  The reference of layer 4: number, ParseNat.
-/
import Derived.Test.YtokinmmnoiacdaaDRefB
import Derived.Deep.RegionHeld3
namespace Go.Proofs.Ytokinmmnoiacdaa
open Go.RowKit
set_option linter.unusedVariables false
set_option linter.unusedSimpArgs false

theorem ResD.nil (base : Nat) (w : World) : ResD base w (.slice none 0 0) [] 0 := ⟨World.ownsRow_nil w base 3 1, WfD.nil, rfl, rfl⟩
theorem NumI.mono' {base base' : Nat} {w : World} {u : Value} {zs : List Int} (h : NumI base w u zs) (hb : base' ≤ base) : NumI base' w u zs := by
  obtain ⟨h1, h2⟩ := h
  refine ⟨h1, ?_⟩
  rcases h2 with h2 | ⟨g, cap, cur, e, hg, h3⟩
  · exact .inl h2
  · exact .inr ⟨g, cap, cur, e, Nat.le_trans hb hg, h3⟩

set_option maxRecDepth 100000 in
set_option maxHeartbeats 4000000 in
theorem number_any {s : ByteArray} {l : List UInt8} (hs : s.data.toList = l) (w : World) (hd : digs l = true) (hm : l.length ≤ 400) :
    Calls Try.prog 43 #[.string s] w fun e w' => ∃ (r : Value) (zs : List Int), e = .returned r ∧ ResD w.heap.size w' r zs (numL l : Int) ∧ zs.length ≤ 1300 ∧ Below w.heap.size w w' := by
  have hz := size_of hs
  obtain ⟨L, hL⟩ : ∃ L, s.size = L := ⟨_, rfl⟩
  have hLm : L ≤ 400 := by omega
  have hll : l.length = L := by omega
  have HS := Lib.hid hs
  have HL := Lib.hid hll
  have HD := Lib.hid hd
  have hsL : s.size ≤ L := by omega
  have hLs : L ≤ s.size := by omega
  clear hz hs hll hm hd
  go_enter Try.func43, Try.ntmps43
  go_wp2
  go_loopw [3, 4] (fun q i wr => ∃ (k : Nat) (ds : List Int), k ≤ L ∧ i = .int .i64 k ∧ ResD w.heap.size wr q ds (numL (l.take k) : Int) ∧ ds.length ≤ 3 * k + 3 ∧ Below w.heap.size w wr) (fun _ i _ => L - (intOf i).toNat)
  case atStart => exact ⟨0, [], Nat.zero_le _, rfl, ResD.nil _ _, by simp, Below.refl _ _⟩
  case round =>
    obtain ⟨k, ds, hk, rfl, hres, hlen, hb⟩ := hrel
    have hsz := hb.size
    by_cases hlt : k < L
    · have hks : k < s.size := by omega
      obtain ⟨c, hc⟩ : ∃ c, l[k]? = some c := ⟨l[k]'(by rw [HL.out]; exact hlt), List.getElem?_eq_getElem _⟩
      have hby := byte_of HS.out hks hc
      obtain ⟨z, hz⟩ : ∃ z : Int, (c.toNat : Int) = z := ⟨_, rfl⟩
      have hdc := List.all_eq_true.1 HD.out c (List.mem_of_getElem? hc)
      rw [isDig_iff] at hdc
      have hz0 : 48 ≤ z := by omega
      have hz1 : z ≤ 57 := by omega
      obtain ⟨d, hd⟩ : ∃ d, z - 48 = d := ⟨_, rfl⟩
      have hd0 : 0 ≤ d := by omega
      have hd9 : d ≤ 9 := by omega
      have hw : IntKind.i64.wrap (z - 48) = d := by rw [hd]; exact IntWalk.i64_in _ (by omega)
      have hwz : IntKind.i64.wrap z = z := IntWalk.i64_in _ (by omega)
      have hki : (k : Int) < (L : Int) := by omega
      have hsn : (numL (l.take (k + 1)) : Int) = (numL (l.take k) : Int) * 10 + d := by
        rw [take_snocL hc, numL_snoc]; omega
      have HN := Lib.hid hsn
      obtain ⟨ad, cp, A⟩ := hres.arg
      have HA := Lib.hid A
      have HR := Lib.hid hres.eq
      obtain rfl := A.is
      clear hc hdc hsn hres A
      clear hd
      go_wp2
      have mkS : ∀ X, Kept (wr.heap.size) wr X → Kept (wr.heap.size) wr X := fun X h => h
      go_region_held3 (fun X => Kept (wr.heap.size) wr X)
        (((refine mkS _ ?_; (repeat' (first | exact Kept.refl _ _ | refine Kept.drew ?_ | refine Kept.alloc ?_ _ | refine Kept.set ?_ _ _ | refine Kept.below ?_ (by assumption))))))
        ((first
          | (go_at_call 35; have hprev := hbv2; clear hprev; (with_reducible refine (addD_any (A1.later (show Below v1.heap.size v1 _ by (repeat' (first | exact Below.refl _ _ | refine Below.drew ?_ | refine Below.alloc ?_ (by (try simp) <;> omega) _ | refine below_set3 ?_ (by (try simp) <;> omega) _ _ _ | refine below_set2 ?_ (by (try simp) <;> omega) _ _ | refine Below.setCell ?_ (by (try simp) <;> omega) _ | refine Below.trans ?_ (Below.mono (by assumption) (by (try simp) <;> omega)))))) A2 (by omega) (by omega)).mono ?_); rintro e v3 ⟨r3, rfl, z3, q3, l3, hbv3⟩; have hsv3 := hbv3.size; (try simp at hsv3); skip)
          | (go_at_call 37; have hprev := hbv1; clear hprev; (with_reducible refine (small_any d _ (by omega) (by omega)).mono ?_); rintro e v2 ⟨r2, rfl, z2, q2, l2, hbv2⟩; have hsv2 := hbv2.size; (try simp at hsv2); obtain ⟨ad2, cp2, A2⟩ := q2.arg; skip)
          | (go_at_call 36; (with_reducible refine (times_any 10 (HA.out.later (show Below wr.heap.size wr _ by (repeat' (first | exact Below.refl _ _ | refine Below.drew ?_ | refine Below.alloc ?_ (by (try simp) <;> omega) _ | refine below_set3 ?_ (by (try simp) <;> omega) _ _ _ | refine below_set2 ?_ (by (try simp) <;> omega) _ _ | refine Below.setCell ?_ (by (try simp) <;> omega) _ | refine Below.trans ?_ (Below.mono (by assumption) (by (try simp) <;> omega)))))) (by omega) (by omega)).mono ?_); rintro e v1 ⟨r1, rfl, z1, q1, l1, hbv1⟩; have hsv1 := hbv1.size; (try simp at hsv1); obtain ⟨ad1, cp1, A1⟩ := q1.arg; skip)))
      all_goals
        have hE : ResD w.heap.size v3 r3 z3 (numL (l.take (k + 1)) : Int) := ⟨q3.num.mono' (by (try simp at hsv1); omega), q3.wf, q3.full, by rw [q3.eq, q1.eq, q2.eq, HR.out, HN.out]⟩
        have hB3 : Below w.heap.size w v3 := hb.trans ((show Below wr.heap.size wr v3 by (repeat' (first | exact Below.refl _ _ | refine Below.drew ?_ | refine Below.alloc ?_ (by (try simp) <;> omega) _ | refine below_set3 ?_ (by (try simp) <;> omega) _ _ _ | refine below_set2 ?_ (by (try simp) <;> omega) _ _ | refine Below.setCell ?_ (by (try simp) <;> omega) _ | refine Below.trans ?_ (Below.mono (by assumption) (by (try simp) <;> omega))))).mono hsz)
        have HE := Lib.hid hE
        have hl3 : z3.length ≤ 3 * (k + 1) + 3 := by omega
        clear q1 q2 q3 hE A1 A2 hw hwz hby
        go_wp2
        go_roundw
        case rel => exact ⟨k + 1, z3, by omega, by go_num, HE.out, hl3, hB3⟩
        case measure => simp [intOf]; omega
    · obtain rfl : k = L := by omega
      have e : l.take k = l := List.take_of_length_le (by rw [HL.out]; exact Nat.le_refl _)
      rw [e] at hres
      clear e
      go_wp2
      go_ret
      exact ⟨_, ds, rfl, hres, by omega, hb⟩
theorem isBits_p2 {n k m : Nat} (h : IsBits (n : Int) k) : k ≤ m ↔ n < p2 m := by
  rw [p2_int]
  exact ⟨fun g => h.lt g, fun g => h.le g⟩
/-- what is read of a text: a natural number, or nothing -/
def ParsedD (base : Nat) (w : World) (r : Value) (l : List UInt8) : Prop :=
  if codeN l = 0 then ∃ zs, ResD base w r zs (numL l : Int) ∧ zs.length ≤ 1300 else r = .slice none 0 0

set_option maxRecDepth 100000 in
set_option maxHeartbeats 4000000 in
theorem parseD_any {s : ByteArray} {l : List UInt8} (hs : s.data.toList = l) (w : World) (hm : s.size ≤ 9223372036854775807) :
    Calls Try.prog 18 #[.string s] w fun e w' => ∃ r, e = .returned (.tuple #[r, .int .i64 (codeN l)]) ∧ ParsedD w.heap.size w' r l ∧ Below w.heap.size w w' := by
  have hz := size_of hs
  have hnat := natural_any hs w hm
  obtain ⟨L, hL⟩ : ∃ L, s.size = L := ⟨_, rfl⟩
  have hLm : L ≤ 9223372036854775807 := by omega
  have hll : l.length = L := by omega
  have HS := Lib.hid hs
  have HL := Lib.hid hll
  have hz4 : ((0 : Int) = 14) = False := by simp
  rcases hb : natB l with _ | _
  · have hcode := codeN_bad hb
    have hpar : Hid (∀ w', ParsedD w.heap.size w' (.slice none 0 0) l) := fun w' => by unfold ParsedD; rw [hcode]; rfl
    rw [hb] at hnat
    rw [hcode]
    clear hz hs hll hm hb hcode
    go_enter Try.func18, Try.ntmps18
    go_wp2_with fail
    refine hnat.mono ?_
    rintro e w' ⟨rfl, rfl⟩
    clear hnat
    go_wp2
    go_ret2
    exact ⟨_, rfl, hpar _, Below.refl _ _⟩
  · rw [hb] at hnat
    by_cases hlong : 400 < L
    · have hcode := codeN_long hb (long_digits hb (by omega))
      have hpar : Hid (∀ w', ParsedD w.heap.size w' (.slice none 0 0) l) := fun w' => by unfold ParsedD; rw [hcode]; rfl
      rw [hcode]
      have hlI : (400 : Int) < (L : Int) := by omega
      clear hz hs hll hm hb hcode
      go_enter Try.func18, Try.ntmps18
      go_wp2_with fail
      refine hnat.mono ?_
      rintro e w' ⟨rfl, rfl⟩
      clear hnat
      go_wp2
      go_ret2
      exact ⟨_, rfl, hpar _, Below.refl _ _⟩
    · have hnum := number_any hs w ((natB_iff _).1 hb).1 (by omega)
      have hlI : ¬ (400 : Int) < (L : Int) := by omega
      obtain ⟨nb, hnb⟩ := IsBits.exists (numL l)
      have hle : nb ≤ 1024 ↔ numL l < lim1024 := isBits_p2 (m := 1024) hnb
      have hnb4 : nb ≤ 1600 := by
        refine (isBits_p2 (m := 1600) hnb).2 ?_
        exact Nat.lt_of_lt_of_le (numL_lt ((natB_iff _).1 hb).1) (Nat.le_trans (le_p10 (by omega)) ten_le)
      have HNB := Lib.hid hnb
      have HB := Lib.hid hb
      by_cases hok : numL l < lim1024
      · have hcode := codeN_ok hb hok
        have hpar : Hid (∀ (w' : World) (r : Value) zs, ResD w.heap.size w' r zs (numL l : Int) → zs.length ≤ 1300 → ParsedD w.heap.size w' r l) := fun w' r zs h1 h2 => by unfold ParsedD; rw [if_pos hcode]; exact ⟨zs, h1, h2⟩
        rw [hcode]
        have hb1 : (nb : Int) ≤ 1024 := by have := hle.2 hok; omega
        clear hz hs hll hm hb hcode hle hok hnb
        go_enter Try.func18, Try.ntmps18
        go_wp2_with fail
        refine hnat.mono ?_
        rintro e w' ⟨rfl, rfl⟩
        clear hnat
        go_wp2_with fail
        refine hnum.mono ?_
        rintro e w1 ⟨r1, zs, rfl, q1, l1, hw1⟩
        clear hnum
        obtain ⟨ad, cp, A1⟩ := q1.arg
        have HQ := Lib.hid q1
        have hs1 := hw1.size
        have hbits := bitsD_any (n := nb) A1 (by omega) (by rw [q1.eq]; exact HNB.out) (by omega)
        have hap := hpar.out w1 r1 zs q1 l1
        clear A1 q1
        go_wp2_with fail
        refine hbits.mono ?_
        rintro e w2 ⟨rfl, hw2⟩
        clear hbits hap
        have hE := HQ.out.later hw2
        have hap := Lib.hid (hpar.out w2 r1 zs hE l1)
        clear hE
        go_wp2
        go_ret2
        exact ⟨_, rfl, hap.out, hw1.trans (hw2.mono hs1)⟩
      · have hcode := codeN_long hb hok
        have hpar : Hid (∀ w', ParsedD w.heap.size w' (.slice none 0 0) l) := fun w' => by unfold ParsedD; rw [hcode]; rfl
        rw [hcode]
        have hb1 : (1024 : Int) < (nb : Int) := by
          have : ¬ nb ≤ 1024 := fun h => hok (hle.1 h)
          omega
        clear hz hs hll hm hb hcode hle hok hnb
        go_enter Try.func18, Try.ntmps18
        go_wp2_with fail
        refine hnat.mono ?_
        rintro e w' ⟨rfl, rfl⟩
        clear hnat
        go_wp2_with fail
        refine hnum.mono ?_
        rintro e w1 ⟨r1, zs, rfl, q1, l1, hw1⟩
        clear hnum
        obtain ⟨ad, cp, A1⟩ := q1.arg
        have hs1 := hw1.size
        have hbits := bitsD_any (n := nb) A1 (by omega) (by rw [q1.eq]; exact HNB.out) (by omega)
        clear A1 q1
        go_wp2_with fail
        refine hbits.mono ?_
        rintro e w2 ⟨rfl, hw2⟩
        clear hbits
        go_wp2
        go_ret2
        exact ⟨_, rfl, hpar.out _, hw1.trans (hw2.mono hs1)⟩
end Go.Proofs.Ytokinmmnoiacdaa
