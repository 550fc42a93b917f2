/-
  Package digits: isNumber, appendBlock, value, ParseNat, isOne.
-/
import Derived.Test.YtokinmmnoiacdaaDNatP
namespace Go.Proofs.Ytokinmmnoiacdaa
open Go.RowKit Go.Shelf
set_option linter.unusedVariables false
set_option linter.unusedSimpArgs false

set_option maxRecDepth 100000 in
set_option maxHeartbeats 2000000 in
theorem isDigit_any {s : ByteArray} {l : List UInt8} (hs : s.data.toList = l) (Bs i : Nat) (c : UInt8) (hi : i < s.size) (hc : l[i]? = some c) (w : World) (hB : w.cell? ⟨Bs, 0, none⟩ = some (.string s)) :
    Calls Try.prog 65 #[.int .i64 (i : Int), .pointer (some ⟨Bs, 0, none⟩)] w fun e w' => e = .returned (.bool (isDig c)) ∧ w' = w := by
  have hby := byte_of hs hi hc
  have hiI : (i : Int) < (s.size : Int) := by omega
  obtain ⟨d, hd⟩ : ∃ d : Int, (c.toNat : Int) = d := ⟨_, rfl⟩
  by_cases h1 : 48 ≤ c.toNat
  · have e1 : (48 : Int) ≤ (c.toNat : Int) := by omega
    by_cases h2 : c.toNat ≤ 57
    · have e2 : (c.toNat : Int) ≤ 57 := by omega
      have hr : isDig c = true := by rw [isDig_iff]; exact ⟨h1, h2⟩
      rw [hr]
      clear hr h1 h2 hc hs hd
      go_enter Try.func65, Try.ntmps65
      go_wp2_with fail
      go_ret
      exact ⟨rfl, rfl⟩
    · have e2 : ¬ ((c.toNat : Int) ≤ 57) := by omega
      have hr : isDig c = false := by rw [Bool.eq_false_iff]; intro h; rw [isDig_iff] at h; omega
      rw [hr]
      clear hr h1 h2 hc hs hd
      go_enter Try.func65, Try.ntmps65
      go_wp2_with fail
      go_ret
      exact ⟨rfl, rfl⟩
  · have e1 : ¬ ((48 : Int) ≤ (c.toNat : Int)) := by omega
    have hr : isDig c = false := by rw [Bool.eq_false_iff]; intro h; rw [isDig_iff] at h; omega
    rw [hr]
    clear hr h1 hc hs hd
    go_enter Try.func65, Try.ntmps65
    go_wp2_with fail
    go_ret
    exact ⟨rfl, rfl⟩

theorem natB_of_digs {l : List UInt8} (h : digs l = true) : natB l = ((l == [48]) || (!(l == []) && !(l.head? == some 48))) := by
  unfold natB
  rw [h, Bool.true_and]
  rcases l with _ | ⟨c, r⟩
  · rfl
  · by_cases hc : c = 48
    · subst hc
      rcases r with _ | ⟨d, r⟩ <;> simp
    · have hb : (c == 48) = false := by simpa using hc
      simp [hb]
theorem digs_take_succ {l : List UInt8} {k : Nat} {c : UInt8} (h : digs (l.take k) = true) (hc : l[k]? = some c) : digs (l.take (k + 1)) = isDig c := by
  obtain ⟨hk, e⟩ := List.getElem?_eq_some_iff.1 hc
  rw [List.take_succ_eq_append_getElem hk, digs_append, h, e, digs_cons]
  simp [digs]
theorem digs_of_take {l : List UInt8} {k : Nat} (h : digs (l.take k) = false) : digs l = false := by
  have h2 : digs l = (digs (l.take k) && digs (l.drop k)) := by rw [← digs_append, List.take_append_drop]
  rw [h2, h]; rfl

set_option maxRecDepth 100000 in
set_option maxHeartbeats 2000000 in
theorem isNumber_any {s : ByteArray} {l : List UInt8} (hs : s.data.toList = l) (w : World) (hm : s.size ≤ 9223372036854775807) :
    Calls Try.prog 40 #[.string s] w fun e w' => e = .returned (.bool (natB l)) ∧ Below w.heap.size w w' := by
  have hz := size_of hs
  obtain ⟨L, hL⟩ : ∃ L, s.size = L := ⟨_, rfl⟩
  have HLL := Lib.hid (show l.length = L by omega)
  have HS := Lib.hid hs
  have hsL : s.size ≤ L := by omega
  have hLs : L ≤ s.size := by omega
  have hLm : L ≤ 9223372036854775807 := by omega
  have hB0 := (Boxed.new w 9 (.string s))
  have hb0 : Below w.heap.size w (w.alloc (.cells #[.string s] 9)) := (Below.refl _ w).alloc (Nat.le_refl _) _
  have c0 := hB0.cell
  obtain ⟨nb, hnb⟩ : ∃ nb, natB l = nb := ⟨_, rfl⟩
  have HNB := Lib.hid hnb
  rw [hnb]
  clear hz hs hnb
  go_enter Try.func40, Try.ntmps40
  go_wp2_with fail
  generalize w.alloc (.cells #[.string s] 9) = W at *
  go_loopw [8] (fun i wr => ∃ k : Nat, k ≤ L ∧ i = .int .i64 (k : Int) ∧ digs (l.take k) = true ∧ wr = W) (fun i _ => L - (intOf i).toNat)
  case atStart => exact ⟨0, Nat.zero_le _, rfl, rfl, rfl⟩
  case round =>
    obtain ⟨k, hk, rfl, hdk, rfl⟩ := hrel
    by_cases hlt : k < L
    · obtain ⟨c, hc⟩ : ∃ c, l[k]? = some c := ⟨l[k]'(by rw [HLL.out]; exact hlt), List.getElem?_eq_getElem _⟩
      have hstep := digs_take_succ hdk hc
      have HST := Lib.hid hstep
      have hcall := isDigit_any HS.out w.heap.size k c (by omega) hc
      clear hstep hdk
      go_wp2_with fail
      refine (hcall _ c0).mono ?_
      rintro e w2 ⟨rfl, rfl⟩
      clear hcall hc
      cases hd : isDig c
      · have hf : natB l = false := by
          rw [Bool.eq_false_iff]
          intro h
          rw [natB_iff] at h
          have h2 := digs_of_take (l := l) (k := k + 1) (by rw [HST.out, hd])
          rw [h.1] at h2
          cases h2
        obtain rfl := HNB.out.symm.trans hf
        clear hf hd
        go_wp2
        go_ret
        exact ⟨rfl, hb0⟩
      · have HD := Lib.hid hd
        clear hd
        go_wp2
        go_roundw
        case rel => exact ⟨k + 1, by omega, by go_num, by rw [HST.out, HD.out], by first | rfl | trivial⟩
        case measure => simp [intOf]; omega
    · obtain rfl : k = L := by omega
      have hdl : digs l = true := by rw [List.take_of_length_le (by rw [HLL.out]; exact Nat.le_refl _)] at hdk; exact hdk
      have hn := HNB.out.symm.trans (natB_of_digs hdl)
      have HN := Lib.hid hn
      clear hn hdl hdk
      rcases hl : l with _ | ⟨c, r⟩
      · have hk := HLL.out
        rw [hl] at hk
        obtain rfl : k = 0 := by simpa using hk.symm
        have q1 : (s.toList == [48]) = false := by rw [ByteArray.toList_eq, HS.out, hl]; rfl
        have q2 : (s.toList == []) = true := by rw [ByteArray.toList_eq, HS.out, hl]; rfl
        obtain rfl : nb = false := by rw [HN.out, hl]; rfl
        clear hk hl
        go_wp2
        go_ret
        exact ⟨rfl, hb0⟩
      · have hk := HLL.out
        rw [hl] at hk
        obtain ⟨b1, hb1⟩ : ∃ b1, ((c :: r) == [48]) = b1 := ⟨_, rfl⟩
        have q1 : (s.toList == [48]) = b1 := by rw [ByteArray.toList_eq, HS.out, hl]; exact hb1
        have q2 : (s.toList == []) = false := by rw [ByteArray.toList_eq, HS.out, hl]; rfl
        have h0s : 0 < s.size := by rw [hL, ← HLL.out, hl]; simp
        have h0I : (0 : Int) < (k : Int) := by omega
        have hby := byte_of HS.out h0s (c := c) (by rw [hl]; rfl)
        obtain ⟨b2, hb2⟩ : ∃ b2, ((c.toNat : Int) == 48) = b2 := ⟨_, rfl⟩
        have hb3 : (c == 48) = b2 := by
          rw [← hb2, Bool.eq_iff_iff, beq_iff_eq, beq_iff_eq]
          refine ⟨fun e => by subst e; rfl, fun e => UInt8.toNat_inj.1 (by have : c.toNat = 48 := by omega
                                                                           rw [this]; rfl)⟩
        have hres : ((c :: r) == [48] || (!((c :: r) == []) && !((c :: r).head? == some 48))) = (b1 || !b2) := by
          rw [hb1, ← hb3]
          simp
        obtain rfl : nb = (b1 || !b2) := by rw [HN.out, hl, hres]
        clear hres hk hl hb1 hb3
        cases b1 <;> cases b2
        all_goals
          have hb4 : ((c.toNat : Int) != 48) = _ := congrArg (!·) hb2
          go_wp2
          go_ret
          refine ⟨?_, hb0⟩
          first | rfl | exact congrArg (fun b => Ending.returned (Value.bool b)) hb4

theorem numL_take_succ {l : List UInt8} {k : Nat} {c : UInt8} (hc : l[k]? = some c) : numL (l.take (k + 1)) = numL (l.take k) * 10 + (c.toNat - 48) := by
  obtain ⟨hk, e⟩ := List.getElem?_eq_some_iff.1 hc
  rw [List.take_succ_eq_append_getElem hk, e, numL_snoc]
theorem digs_at {l : List UInt8} (h : digs l = true) {k : Nat} {c : UInt8} (hc : l[k]? = some c) : 48 ≤ c.toNat ∧ c.toNat ≤ 57 := by
  rw [← isDig_iff]
  exact List.all_eq_true.1 h c (List.mem_of_getElem? hc)
theorem digs_take {l : List UInt8} (h : digs l = true) (k : Nat) : digs (l.take k) = true := by
  have h2 : digs l = (digs (l.take k) && digs (l.drop k)) := by rw [← digs_append, List.take_append_drop]
  rw [h, eq_comm, Bool.and_eq_true] at h2
  exact h2.1
theorem digs_drop {l : List UInt8} (h : digs l = true) (k : Nat) : digs (l.drop k) = true := by
  have h2 : digs l = (digs (l.take k) && digs (l.drop k)) := by rw [← digs_append, List.take_append_drop]
  rw [h, eq_comm, Bool.and_eq_true] at h2
  exact h2.2

set_option maxRecDepth 100000 in
set_option maxHeartbeats 2000000 in
theorem block_any {u : Value} {xs : List Int} {a : Option Addr} {cap : Nat} {w : World} (A : Arg w u xs a cap) (hx : xs.length ≤ 64) {s : ByteArray} {l : List UInt8} (hs : s.data.toList = l) (hd : digs l = true) (h9 : l.length ≤ 9) :
    Calls Try.prog 66 #[u, .string s] w fun e w' => ∃ r zs, e = .returned r ∧ Res w.heap.size w' r zs (val xs * ((10 ^ l.length : Nat) : Int) + (numL l : Int)) ∧ Below w.heap.size w w' := by
  have hz := size_of hs
  obtain ⟨L, hL⟩ : ∃ L, s.size = L := ⟨_, rfl⟩
  have hll : l.length = L := by omega
  have HLL := Lib.hid hll
  have HS := Lib.hid hs
  have HD := Lib.hid hd
  have hsL : s.size ≤ L := by omega
  have hLs : L ≤ s.size := by omega
  have hL9 : L ≤ 9 := by omega
  rw [hll]
  clear hz hs hd h9 hll
  go_enter Try.func66, Try.ntmps66
  go_wp2_with fail
  go_loopw [5, 6, 10] (fun sc bl i wr => ∃ k : Nat, k ≤ L ∧ sc = .int .u64 ((10 ^ k : Nat) : Int) ∧ bl = .int .u64 ((numL (l.take k) : Nat) : Int) ∧ i = .int .i64 (k : Int) ∧ wr = w) (fun _ _ i _ => L - (intOf i).toNat)
  case atStart => exact ⟨0, Nat.zero_le _, rfl, rfl, rfl, rfl⟩
  case round =>
    obtain ⟨k, hk, rfl, rfl, rfl, rfl⟩ := hrel
    have hnl := numL_lt (digs_take HD.out k)
    rw [List.length_take, HLL.out, Nat.min_eq_left hk] at hnl
    have hp9 : 10 ^ k ≤ 10 ^ 9 := Nat.pow_le_pow_right (by omega) (by omega)
    obtain ⟨p, hp⟩ : ∃ p, 10 ^ k = p := ⟨_, rfl⟩
    obtain ⟨b, hb⟩ : ∃ b, numL (l.take k) = b := ⟨_, rfl⟩
    rw [hp] at hnl hp9 ⊢
    rw [hb] at hnl ⊢
    have HP := Lib.hid hp
    have HB := Lib.hid hb
    have hp9' : p ≤ 1000000000 := by simpa using hp9
    clear hp9 hp hb
    by_cases hlt : k < L
    · obtain ⟨c, hc⟩ : ∃ c, l[k]? = some c := ⟨l[k]'(by rw [HLL.out]; exact hlt), List.getElem?_eq_getElem _⟩
      obtain ⟨c0, c1⟩ := digs_at HD.out hc
      have hby := byte_of HS.out (k := k) (by omega) hc
      have hst := numL_take_succ hc
      rw [HB.out] at hst
      obtain ⟨d, hdd⟩ : ∃ d : Int, (c.toNat : Int) - 48 = d := ⟨_, rfl⟩
      have w1 : IntKind.u8.wrap ((c.toNat : Int) - 48) = d := by rw [hdd]; simp only [IntKind.wrap, IntKind.signed, IntKind.bits]; simp; omega
      have w2 : IntKind.u64.wrap d = d := wrap_u64 (by omega) (by omega)
      have w3 : IntKind.u64.wrap ((p : Int) * 10) = (p : Int) * 10 := wrap_u64 (by omega) (by omega)
      have w4 : IntKind.u64.wrap ((b : Int) * 10) = (b : Int) * 10 := wrap_u64 (by omega) (by omega)
      have w5 : IntKind.u64.wrap ((b : Int) * 10 + d) = (b : Int) * 10 + d := wrap_u64 (by omega) (by omega)
      have hst2 : ((numL (l.take (k + 1)) : Nat) : Int) = (b : Int) * 10 + d := by rw [hst]; omega
      have HST := Lib.hid hst2
      have hkI : (k : Int) < (L : Int) := by omega
      clear hst hst2 hdd hc
      go_wp2_with fail
      go_roundw
      case rel => exact ⟨k + 1, by omega, by rw [Nat.pow_succ, HP.out]; congr 1, by rw [HST.out], by go_num, by first | rfl | trivial⟩
      case measure => simp [intOf]; omega
    · obtain rfl : k = L := by omega
      rw [List.take_of_length_le (by rw [HLL.out]; exact Nat.le_refl _)] at HB
      rename World => W0
      go_wp2_with fail
      refine (ofN_any (p : Int) _ (by omega) (by omega)).mono ?_
      rintro e v1 ⟨r1, z1, rfl, q1, n1, hb1⟩
      have hs1 := hb1.size
      obtain ⟨a1, c1, rfl, q1', A1⟩ := q1.slice
      have AA := A.later hb1
      go_wp2_with fail
      refine (mul_res AA A1 (by omega) (by omega)).mono ?_
      rintro e v2 ⟨r2, z2, rfl, q2, n2, hb2⟩
      have hs2 := hb2.size
      have eq2 := q2.eq
      rw [q1'.eq] at eq2
      obtain ⟨a2, c2, rfl, q2', A2⟩ := q2.slice
      go_wp2_with fail
      refine (ofN_any (b : Int) _ (by omega) (by omega)).mono ?_
      rintro e v3 ⟨r3, z3, rfl, q3, n3, hb3⟩
      have hs3 := hb3.size
      obtain ⟨a3, c3, rfl, q3', A3⟩ := q3.slice
      have A2' := A2.later hb3
      go_wp2_with fail
      refine (add_res A2' A3 (by omega) (by omega)).mono ?_
      rintro e v4 ⟨r4, z4, rfl, q4, n4, hb4⟩
      have hs4 := hb4.size
      have eq4 := q4.eq
      rw [eq2, q3'.eq] at eq4
      go_wp2_with fail
      go_ret
      have hbx : Below W0.heap.size W0 v4 := hb1.trans ((hb2.trans ((hb3.trans (hb4.mono (by omega))).mono (by omega))).mono (by omega))
      refine ⟨r4, z4, rfl, ⟨q4.num.mono (by omega), q4.wf, q4.full, ?_⟩, hbx⟩
      rw [eq4, HP.out, HB.out]

theorem p2_limbs (k : Nat) : (4294967296 : Nat) ^ k = p2 (32 * k) := by
  unfold p2
  rw [Nat.pow_mul]
theorem lim_limbs : (4294967296 : Nat) ^ 32 = lim1024 := p2_limbs 32
theorem lim_lt {zs : List Int} {n : Nat} (hw : Wf zs) (hf : trimN zs zs.length = zs.length) (he : val zs = (n : Int)) : zs.length ≤ 32 ↔ n < lim1024 := by
  have e : ((4294967296 ^ 32 : Nat) : Int) = 4294967296 ^ 32 := by rw [Int.natCast_pow]; rfl
  refine ⟨fun h => ?_, fun h => ?_⟩
  · have h1 := val_lt hw
    have h2 : (4294967296 : Int) ^ zs.length ≤ 4294967296 ^ 32 := by rw [pow_limb, pow_limb]; exact two_mono (by omega)
    rw [he] at h1
    rw [← lim_limbs]
    exact Int.ofNat_lt.1 (by rw [e]; exact Int.lt_of_lt_of_le h1 h2)
  · refine full_len hw hf ?_
    rw [he, ← e, lim_limbs]
    exact Int.ofNat_lt.2 h
theorem numL_take_le (l : List UInt8) (k : Nat) : numL (l.take k) ≤ numL l := by
  have h := numL_append (l.take k) (l.drop k)
  rw [List.take_append_drop] at h
  have hp : 0 < 10 ^ (l.drop k).length := Nat.pow_pos (by omega)
  have := Nat.le_mul_of_pos_right (numL (l.take k)) hp
  omega
theorem numL_take_add (l : List UInt8) (k n : Nat) : numL (l.take (k + n)) = numL (l.take k) * 10 ^ ((l.drop k).take n).length + numL ((l.drop k).take n) := by
  rw [List.take_add, numL_append]

/-- what is read of digits, up to the limit -/
def ParsedN (base : Nat) (w : World) (r : Value) (l : List UInt8) : Prop :=
  ∃ zs, Res base w r zs (if codeN l = 0 then (numL l : Int) else 0) ∧ zs.length ≤ 32
def strLen (v : Value) : Nat := match v with | .string s => s.size | _ => 0

set_option maxRecDepth 100000 in
set_option maxHeartbeats 2000000 in
theorem value_any {s : ByteArray} {l : List UInt8} (hs : s.data.toList = l) (hn : natB l = true) (w : World) (hm : s.size ≤ 9223372036854775807) :
    Calls Try.prog 41 #[.string s] w fun e w' => ∃ r, e = .returned (.tuple #[r, .int .i64 (codeN l)]) ∧ ParsedN w.heap.size w' r l ∧ Below w.heap.size w w' := by
  have hz := size_of hs
  have hd := ((natB_iff l).1 hn).1
  obtain ⟨L, hL⟩ : ∃ L, l.length = L := ⟨_, rfl⟩
  obtain ⟨cd, hcd⟩ : ∃ cd, codeN l = cd := ⟨_, rfl⟩
  have HCD := Lib.hid hcd
  have HN := Lib.hid hn
  have HD := Lib.hid hd
  have HL := Lib.hid hL
  have HS := Lib.hid hs
  have hLm : L ≤ 9223372036854775807 := by omega
  rw [hcd]
  clear hz hd hcd hn hL hs hm
  go_enter Try.func41, Try.ntmps41
  go_wp2_with fail
  go_loopw [0, 4] (fun sv av wr => ∃ (k : Nat) (t : ByteArray) (zs : List Int) (ad : Option Addr) (cap : Nat), k ≤ L ∧ sv = .string t ∧ t.data.toList = l.drop k ∧ av = .slice ad zs.length cap ∧
      Res w.heap.size wr (.slice ad zs.length cap) zs ((numL (l.take k) : Nat) : Int) ∧ zs.length ≤ 32 ∧ Below w.heap.size w wr) (fun sv _ _ => strLen sv)
  case atStart => exact ⟨0, s, [], none, 0, Nat.zero_le _, rfl, HS.out, rfl, Res.nil _ _, by simp, Below.refl _ _⟩
  case round =>
    obtain ⟨k, t, zs, ad, cap, hk, rfl, ht, rfl, q, h32, hb⟩ := hrel
    have htl := size_of ht
    rw [List.length_drop, HL.out] at htl
    have HT := Lib.hid ht
    obtain ⟨R, hR⟩ : ∃ R, t.size = R := ⟨_, rfl⟩
    have hkR : k + R = L := by omega
    clear ht htl
    by_cases hgo : 0 < R
    · obtain ⟨n, hnn⟩ : ∃ n : Nat, n = min R 9 := ⟨_, rfl⟩
      have hn9 : n ≤ 9 := by omega
      have hnR : n ≤ R := by omega
      have hn0 : 0 < n := by omega
      have hmin : min (R : Int) 9 = (n : Int) := by omega
      have hRI : (0 : Int) < (R : Int) := by omega
      have hnt : (n : Int) ≤ (t.size : Int) := by omega
      have htn : n ≤ t.size := by omega
      have hA := (Res.at_ q).2
      clear hnn
      have hcall := block_any (s := t.extract 0 n) hA (by omega : zs.length ≤ 64) (bytes_to HT.out n) (digs_take (digs_drop HD.out k) n) (by rw [List.length_take]; omega)
      have hdl : ((l.drop k).take n).length = n := by rw [List.length_take, List.length_drop, HL.out]; omega
      have hsum := numL_take_add l k n
      rw [hdl] at hsum hcall
      go_wp2_with fail
      refine hcall.mono ?_
      rintro e w2 ⟨r2, z2, rfl, q2, hb2⟩
      have hs1 := hb.size
      have hs2 := hb2.size
      have eq2 : val z2 = ((numL (l.take (k + n)) : Nat) : Int) := by rw [q2.eq, q.eq, hsum]; simp
      have hB2 : Below w.heap.size w w2 := hb.trans (hb2.mono hs1)
      have q3 : Res w.heap.size w2 r2 z2 ((numL (l.take (k + n)) : Nat) : Int) := ⟨q2.num.mono hs1, q2.wf, q2.full, eq2⟩
      obtain ⟨a3, c3, rfl, q4, A4⟩ := q3.slice
      have hlim := lim_lt q3.wf q3.full eq2
      obtain ⟨M, hM⟩ : ∃ M, z2.length = M := ⟨_, rfl⟩
      have HM := Lib.hid hM
      rw [hM] at hlim ⊢
      clear hcall hsum eq2 q2 q hM A4 q3
      by_cases hbig : M ≤ 32
      · have hb32 : ¬ ((32 : Int) < (M : Int)) := by omega
        have hb33 : (M : Int) ≤ 32 := by omega
        go_wp2_with fail
        go_roundw
        case rel =>
          refine ⟨k + n, _, z2, a3, c3, by omega, rfl, ?_, by rw [HM.out], q4, by rw [HM.out]; exact hbig, hB2⟩
          rw [← hR, bytes_from HT.out n, List.drop_drop]
        case measure =>
          show (t.extract n R).size < t.size
          rw [ByteArray.size_extract]
          omega
      · have hb32 : (32 : Int) < (M : Int) := by omega
        have hge : ¬ numL l < lim1024 := fun h => hbig (hlim.2 (Nat.lt_of_le_of_lt (numL_take_le l (k + n)) h))
        have hc := HCD.out.symm.trans (codeN_long HN.out hge)
        subst hc
        clear hge hlim q4
        go_wp2_with fail
        go_ret2
        refine ⟨_, rfl, ⟨[], ?_, by simp⟩, hB2⟩
        rw [if_neg (by rw [HCD.out]; decide)]
        exact Res.nil _ _
    · obtain rfl : R = 0 := by omega
      obtain rfl : k = L := by omega
      have heq := q.eq
      rw [List.take_of_length_le (by rw [HL.out]; exact Nat.le_refl _)] at q heq
      have hlt := (lim_lt q.wf q.full heq).1 h32
      have hc := HCD.out.symm.trans (codeN_ok HN.out hlt)
      subst hc
      have HQ := Lib.hid q
      clear heq hlt q
      go_wp2_with fail
      go_ret2
      refine ⟨_, rfl, ⟨zs, ?_, h32⟩, hb⟩
      rw [if_pos HCD.out]
      exact HQ.out

set_option maxRecDepth 100000 in
set_option maxHeartbeats 2000000 in
theorem parse4_any {s : ByteArray} {l : List UInt8} (hs : s.data.toList = l) (w : World) (hm : s.size ≤ 9223372036854775807) :
    Calls Try.prog 17 #[.string s] w fun e w' => ∃ r, e = .returned (.tuple #[r, .int .i64 (codeN l)]) ∧ ParsedN w.heap.size w' r l ∧ Below w.heap.size w w' := by
  have hnum := isNumber_any hs w hm
  obtain ⟨nb, hnb⟩ : ∃ nb, natB l = nb := ⟨_, rfl⟩
  obtain ⟨cd, hcd⟩ : ∃ cd, codeN l = cd := ⟨_, rfl⟩
  have hval := fun (h : natB l = true) w => value_any hs h w hm
  rw [hnb] at hnum hval
  rw [hcd] at hval ⊢
  have HNB := Lib.hid hnb
  have HCD := Lib.hid hcd
  clear hnb hcd hs hm
  go_enter Try.func17, Try.ntmps17
  go_wp2_with fail
  refine hnum.mono ?_
  rintro e w1 ⟨rfl, hb1⟩
  have hs1 := hb1.size
  cases nb
  · have hc := HCD.out.symm.trans (codeN_bad HNB.out)
    subst hc
    clear hval hnum
    go_wp2_with fail
    go_ret2
    refine ⟨_, rfl, ⟨[], ?_, by simp⟩, hb1⟩
    rw [if_neg (by rw [HCD.out]; decide)]
    exact Res.nil _ _
  · have hv := hval rfl w1
    clear hval hnum
    go_wp2_with fail
    refine hv.mono ?_
    rintro e w2 ⟨r, rfl, ⟨zs, q, hz⟩, hb2⟩
    clear hv
    go_wp2_with fail
    go_ret2
    exact ⟨r, rfl, ⟨zs, q.mono hs1, hz⟩, hb1.trans (hb2.mono hs1)⟩

set_option maxRecDepth 100000 in
set_option maxHeartbeats 2000000 in
theorem isOne_any {u : Value} {xs : List Int} {a : Option Addr} {cap : Nat} {w : World} (A : Arg w u xs a cap) (hx : xs.length ≤ 35184372088832) :
    Calls Try.prog 46 #[u] w fun e w' => e = .returned (.bool (decide (val xs = 1))) ∧ Below w.heap.size w w' := by
  obtain ⟨ob, hob⟩ : ∃ ob, decide (val xs = 1) = ob := ⟨_, rfl⟩
  have HOB := Lib.hid hob
  rw [hob]
  clear hob
  go_enter Try.func46, Try.ntmps46
  go_wp2_with fail
  refine (ofN_any 1 _ (by omega) (by omega)).mono ?_
  rintro e w1 ⟨r1, z1, rfl, q1, n1, hb1⟩
  have hs1 := hb1.size
  obtain ⟨a1, c1, rfl, q1', A1⟩ := q1.slice
  have AA := A.later hb1
  go_wp2_with fail
  refine (cmp_res AA A1 hx (by omega)).mono ?_
  rintro e w2 ⟨rfl, hb2⟩
  rw [q1'.eq]
  obtain ⟨sg, hsg⟩ : ∃ sg, sign (val xs) 1 = sg := ⟨_, rfl⟩
  rw [hsg]
  have h0 : (sg == 0) = ob := by
    rw [← HOB.out, ← hsg]
    unfold sign
    by_cases h1 : val xs < 1
    · simp [h1]; omega
    · by_cases h2 : val xs = 1
      · simp [h2]
      · simp [h1, h2]; try omega
  have hB := hb1.trans (hb2.mono hs1)
  clear hsg
  cases ob
  all_goals
    go_wp2_with fail
    go_ret
    exact ⟨rfl, hB⟩
end Go.Proofs.Ytokinmmnoiacdaa
