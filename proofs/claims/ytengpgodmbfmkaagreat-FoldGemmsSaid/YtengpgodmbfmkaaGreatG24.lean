/-
  Part 24 of 39: contracts and what they rest on (TMay, TWhole, TCode1, FMath, FPos).
-/
import Derived.Test.YtengpgodmbfmkaaGreatG22
import Derived.Test.YtengpgodmbfmkaaGreatG23
namespace Go.Proofs.YtengpgodmbfmkaaGreat
set_option linter.unusedVariables false
set_option linter.unusedSimpArgs false
set_option maxRecDepth 100000
set_option maxHeartbeats 40000000
section
open Go.RowKit
theorem sameSh_any {u v : Value} {xs ys : List Int} {a b : Option Addr} {ca cb : Nat} {w : World} (A : ArgS w u xs a ca) (B : ArgS w v ys b cb) (hx : xs.length ≤ 140737488355328) :
 Calls Tryz.prog 81 #[u, v] w fun e w' => e = .returned (.bool (decide (xs = ys))) ∧ Below w.heap.size w w' := by
 have HA := Lib.hid A
 have HB := Lib.hid B
 obtain rfl := A.is
 obtain rfl := B.is
 obtain ⟨L, hL⟩ : ∃ L, xs.length = L := ⟨_, rfl⟩
 obtain ⟨M, hM⟩ : ∃ M, ys.length = M := ⟨_, rfl⟩
 obtain ⟨d, hd⟩ : ∃ d, decide (xs = ys) = d := ⟨_, rfl⟩
 have HL := Lib.hid hL
 have HM := Lib.hid hM
 have HD := Lib.hid hd
 rw [hL] at hx
 rw [hL, hM, hd]
 clear A B hL hM hd
 by_cases hlm : L = M
 · subst hlm
   have hne : ((L : Int) != (L : Int)) = false := by simp
   go_enter Tryz.func81, Tryz.ntmps81
   go_wp2
   go_loopw [5] (fun i wr => ∃ k : Nat, i = .int .i64 (k : Int) ∧ k ≤ L ∧ xs.take k = ys.take k ∧ Below w.heap.size w wr) (fun i _ => L - (intOf i).toNat)
   case atStart => exact ⟨0, rfl, Nat.zero_le _, rfl, Below.refl _ _⟩
   case round =>
    obtain ⟨k, rfl, hkL, hp, hb⟩ := hrel
    have HP := Lib.hid hp
    clear hp
    by_cases hlt : k < L
    · obtain ⟨b1, o1, rfl, hc1⟩ := (HA.out.later hb).at (i := k) (by rw [HL.out]; exact hlt)
      obtain ⟨b2, o2, rfl, hc2⟩ := (HB.out.later hb).at (i := k) (by rw [HM.out]; exact hlt)
      have e1 := take_next (xs := xs) (k := k) (by rw [HL.out]; exact hlt)
      have e2 := take_next (xs := ys) (k := k) (by rw [HM.out]; exact hlt)
      obtain ⟨x, hx⟩ : ∃ x, xs.getD k 0 = x := ⟨_, rfl⟩
      obtain ⟨y, hy⟩ : ∃ y, ys.getD k 0 = y := ⟨_, rfl⟩
      rw [hx] at hc1 e1
      rw [hy] at hc2 e2
      have E1 := Lib.hid e1
      have E2 := Lib.hid e2
      have HX := Lib.hid hx
      have HY := Lib.hid hy
      have hin : 0 ≤ (k : Int) ∧ (k : Int) < (L : Int) := by omega
      have hltI : (k : Int) < (L : Int) := by omega
      clear hx hy e1 e2
      by_cases hxy : x = y
      · subst hxy
        have hn : (x != x) = false := by simp
        go_wp2
        go_quiet (fail)
        go_wp2
        go_roundw
        case rel => exact ⟨k + 1, by go_num, by omega, by rw [E1.out, E2.out, HP.out], hb.trans (belowS_drew _ _ _)⟩
        case measure => simp [intOf]; omega
      · obtain rfl : d = false := by
         rw [← HD.out, decide_eq_false_iff_not]
         intro h
         apply hxy
         rw [← HX.out, ← HY.out, h]
        have hn : (x != y) = true := by simpa using hxy
        go_wp2
        go_quiet (fail)
        go_wp2
        go_ret
        exact ⟨rfl, hb.trans (belowS_drew _ _ _)⟩
    · obtain rfl : k = L := by omega
      obtain rfl : d = true := by
       rw [← HD.out, decide_eq_true_iff]
       have := HP.out
       rwa [take_all HL.out, take_all HM.out] at this
      have hltI : ¬ (k : Int) < (k : Int) := by omega
      go_wp2
      go_ret
      exact ⟨rfl, hb⟩
 · obtain rfl : d = false := by
    rw [← HD.out, decide_eq_false_iff_not]
    intro h
    apply hlm
    rw [← HL.out, ← HM.out, h]
   have hne : ((L : Int) != (M : Int)) = true := by simp; omega
   go_enter Tryz.func81, Tryz.ntmps81
   go_wp2
   go_ret
   exact ⟨rfl, Below.refl _ _⟩
def okQ (q : Q3) : Bool := validB q.neg q.num q.den q.rat
def mayT (s : List Int) (qs : List Q3) : Int := if mayC s ≠ 0 then mayC s else if (qs.length : Int) ≠ countS s then 13 else if qs.all okQ = true then 0 else 6
theorem mayT_shape {s : List Int} {qs : List Q3} (h : mayC s ≠ 0) : mayT s qs = mayC s := by unfold mayT; rw [if_pos h]
theorem mayT_len {s : List Int} {qs : List Q3} (h : mayC s = 0) (h2 : (qs.length : Int) ≠ countS s) : mayT s qs = 13 := by unfold mayT; rw [if_neg (by rw [h]; simp), if_pos h2]
theorem mayT_bad {s : List Int} {qs : List Q3} (h : mayC s = 0) (h2 : (qs.length : Int) = countS s) {q : Q3} (hq : q ∈ qs) (h3 : okQ q = false) : mayT s qs = 6 := by
 unfold mayT
 rw [if_neg (by rw [h]; simp), if_neg (by rw [h2]; simp), if_neg]
 intro e
 rw [List.all_eq_true] at e
 rw [e q hq] at h3
 cases h3
theorem mayT_ok {s : List Int} {qs : List Q3} (h : mayC s = 0) (h2 : (qs.length : Int) = countS s) (h3 : ∀ q ∈ qs, okQ q = true) : mayT s qs = 0 := by
 unfold mayT
 rw [if_neg (by rw [h]; simp), if_neg (by rw [h2]; simp), if_pos (List.all_eq_true.2 h3)]
theorem mayT_any {w : World} {v : Value} {s : List Int} {qs : List Q3} {a b : Option Addr} {ca cb : Nat} (T : TensQ w v s qs a ca b cb) (hq : qs.length ≤ 1000000000)
 (hl : ∀ q ∈ qs, q.num.length ≤ 134217728 ∧ q.den.length ≤ 134217728) :
 Calls Tryz.prog 15 #[v] w fun e w' => e = .returned (.int .i64 (mayT s qs)) ∧ Below w.heap.size w w' := by
 have HT := Lib.hid T
 obtain rfl := T.is
 obtain ⟨W, hW⟩ : ∃ W, (w.alloc (.cells #[.slice a s.length ca, .slice b qs.length cb] 26)) = W := ⟨_, rfl⟩
 have R0 : Row W w.heap.size 26 #[.slice a s.length ca, .slice b qs.length cb] := by rw [← hW]; exact Row.new _ _ _
 have hBW : Below w.heap.size w W := by rw [← hW]; exact (Below.refl _ _).alloc (by simp) _
 obtain ⟨c, hc⟩ : ∃ c, mayT s qs = c := ⟨_, rfl⟩
 have HC := Lib.hid hc
 obtain ⟨m, hm⟩ : ∃ m, mayC s = m := ⟨_, rfl⟩
 have HM := Lib.hid hm
 obtain ⟨t, ht⟩ : ∃ t, countS s = t := ⟨_, rfl⟩
 have HTT := Lib.hid ht
 have q1 := mayR6_any (HT.out.sh.later hBW)
 have q2 := fun X (hX : Below W.heap.size W X) => countR6_any ((HT.out.sh.later hBW).later hX)
 rw [hm] at q1
 rw [ht] at q2
 rw [hc]
 obtain ⟨p0, p1, _, _⟩ := R0.two
 clear T hc hm ht
 have mkS : ∀ X, Below W.heap.size W X → X.cell? ⟨w.heap.size, 0, none⟩ = some (.slice a s.length ca) ∧ X.cell? ⟨w.heap.size, 1, none⟩ = some (.slice b qs.length cb) ∧ Below W.heap.size W X := fun X h => ⟨(R0.later h).cell 0, (R0.later h).cell 1, h⟩
 by_cases h0 : m = 0
 · subst h0
   by_cases hlen : (qs.length : Int) = t
   · have hne : ((qs.length : Int) != t) = false := by simpa using hlen
     have HLN := Lib.hid hlen
     clear hlen
     go_enter Tryz.func15, Tryz.ntmps15
     go_wp2_with (go_at_call 46; refine q1.mono ?_; rintro e w1 ⟨rfl, rfl⟩)
     go_region_held3 (fun X => X.cell? ⟨w.heap.size, 0, none⟩ = some (.slice a s.length ca) ∧ X.cell? ⟨w.heap.size, 1, none⟩ = some (.slice b qs.length cb) ∧ Below W.heap.size W X)
      (((refine mkS _ ?_; (repeat' (first | exact Below.refl _ _ | refine Below.drew ?_)))))
      ((go_at_call 47; (with_reducible refine (q2 _ (show Below W.heap.size W _ by (repeat' (first | exact Below.refl _ _ | refine Below.drew ?_)))).mono ?_); rintro e w' ⟨rfl, rfl⟩))
     clear hne q1 hW
     go_wp2
     go_loopw [4] (fun i wr => ∃ k : Nat, i = .int .i64 (k : Int) ∧ k ≤ qs.length ∧ (∀ q ∈ qs.take k, okQ q = true) ∧ Below W.heap.size W wr) (fun i _ => qs.length - (intOf i).toNat)
     case atStart => exact ⟨0, rfl, Nat.zero_le _, fun q h => by simp at h, by first | exact Below.refl _ _ | exact (Below.refl _ _).drew⟩
     case round =>
      obtain ⟨k, rfl, hk, hall, hb⟩ := hrel
      have r0 := R0.later hb
      obtain ⟨c00, c01, _, _⟩ := r0.two
      have HALL := Lib.hid hall
      clear hall
      by_cases hlt : k < qs.length
      · have hbw := hBW.trans (hb.mono hBW.size)
        obtain ⟨bb, o, x0, x1, x2, q, hbo, hqk, e0, e1, e2, hraw⟩ := (HT.out.el.later hbw (fun v x _ k => k.later hbw)).at hlt
        have hmem := List.mem_of_getElem? hqk
        subst hbo
        obtain ⟨u1, u2, k1, k2, hx, A1, B1, _, _⟩ := hraw
        simp only [Value.agg.injEq, Array.mk.injEq, List.cons.injEq, and_true] at hx
        obtain ⟨rfl, rfl, rfl⟩ := hx
        have hcall := mayR_any (m1 := q.neg) A1 B1 (hl q hmem).1 (hl q hmem).2 (Nat.le_refl _)
        have hltI : (k : Int) < (qs.length : Int) := by omega
        have HQK := Lib.hid hqk
        clear hqk
        have hokd : okQ q = validB q.neg q.num q.den (ratOf q.neg (val q.num) (val q.den)) := rfl
        by_cases hok : okQ q = true
        · rw [← hokd, if_pos hok] at hcall
          have HOK := Lib.hid hok
          clear hok hokd
          go_wp2_with (go_at_call 48; refine hcall.mono ?_; rintro e w2 ⟨rfl, hb2⟩)
          go_roundw
          case rel =>
           refine ⟨k + 1, by go_num, by omega, fun y hy => ?_, hb.trans (hb2.mono hb.size)⟩
           rw [take_nextL HQK.out] at hy
           rcases List.mem_append.1 hy with h | h
           · exact HALL.out y h
           · rw [List.mem_singleton.1 h]; exact HOK.out
          case measure => simp [intOf]; omega
        · have hok2 : okQ q = false := by simpa using hok
          rw [← hokd, if_neg hok] at hcall
          have hcc := mayT_bad HM.out (by rw [HTT.out]; exact HLN.out) hmem hok2
          obtain rfl : c = 6 := by rw [← HC.out]; exact hcc
          clear hok hok2 hokd hcc
          go_wp2_with (go_at_call 48; refine hcall.mono ?_; rintro e w2 ⟨rfl, hb2⟩)
          go_ret
          exact ⟨rfl, hBW.trans ((hb.trans (hb2.mono hb.size)).mono hBW.size)⟩
      · obtain rfl : k = qs.length := by omega
        have hltI : ¬ (qs.length : Int) < (qs.length : Int) := by omega
        have hcc := mayT_ok HM.out (by rw [HTT.out]; exact HLN.out) (by have h := HALL.out; rwa [List.take_length] at h)
        obtain rfl : c = 0 := by rw [← HC.out]; exact hcc
        clear hcc
        go_wp2
        go_ret
        exact ⟨rfl, hBW.trans (hb.mono hBW.size)⟩
   · have hne : ((qs.length : Int) != t) = true := by simpa using hlen
     have hcc := mayT_len HM.out (by rw [HTT.out]; exact hlen)
     obtain rfl : c = 13 := by rw [← HC.out]; exact hcc
     clear hlen hcc
     go_enter Tryz.func15, Tryz.ntmps15
     go_wp2_with (go_at_call 46; refine q1.mono ?_; rintro e w1 ⟨rfl, rfl⟩)
     go_region_held3 (fun X => X.cell? ⟨w.heap.size, 0, none⟩ = some (.slice a s.length ca) ∧ X.cell? ⟨w.heap.size, 1, none⟩ = some (.slice b qs.length cb) ∧ Below W.heap.size W X)
      (((refine mkS _ ?_; (repeat' (first | exact Below.refl _ _ | refine Below.drew ?_)))))
      ((go_at_call 47; (with_reducible refine (q2 _ (show Below W.heap.size W _ by (repeat' (first | exact Below.refl _ _ | refine Below.drew ?_)))).mono ?_); rintro e w' ⟨rfl, rfl⟩))
     go_wp2
     go_ret
     exact ⟨rfl, by first | exact hBW | exact hBW.drew⟩
 · have hcc := mayT_shape (s := s) (qs := qs) (by rw [HM.out]; exact h0)
   obtain rfl : c = m := by rw [← HC.out, hcc]; exact HM.out
   have hne : (c != 0) = true := by simpa using h0
   clear hcc q2
   go_enter Tryz.func15, Tryz.ntmps15
   go_wp2_with (go_at_call 46; refine q1.mono ?_; rintro e w1 ⟨rfl, rfl⟩)
   go_ret
   exact ⟨rfl, hBW⟩
end
section
open Go.RowKit
theorem intRR_any (k : Int) (w : World) (h0 : -9223372036854775808 ≤ k) (h1 : k ≤ 9223372036854775807) :
 Calls Tryz.prog 31 #[.int .i64 k] w fun e w' => ∃ r, e = .returned r ∧ ResR w.heap.size w' r (intQ k) 6 ∧ Below w.heap.size w w' := by
 obtain ⟨i1, i2, i3⟩ := intQ_parts k
 obtain ⟨m1, hm1⟩ : ∃ m, decide (k < 0) = m := ⟨_, rfl⟩
 rw [hm1] at i1
 have I1 := Lib.hid i1
 have I2 := Lib.hid i2
 have I3 := Lib.hid i3
 clear i1 i2 i3
 obtain ⟨W, hW⟩ : ∃ W, (w.alloc (.cells #[.bool false, .slice none 0 0, .slice none 0 0] 58)) = W := ⟨_, rfl⟩
 have R0 : Row W (w.heap.size) 58 #[.bool false, .slice none 0 0, .slice none 0 0] := by rw [← hW]; exact (Row.new _ _ _)
 have hBW : Below w.heap.size w W := by rw [← hW]; exact ((Below.refl _ _).alloc (by (try simp) <;> omega) _)
 have hsW : w.heap.size + 1 ≤ W.heap.size := by rw [← hW]; simp
 go_enter Tryz.func31, Tryz.ntmps31
 go_wp2_with fail
 refine (sizeR_any k _ h0 h1).mono ?_
 rintro e w1 ⟨r1, rfl, z1, q1, l1, hb1⟩
 have hs1 := hb1.size
 obtain ⟨ad1, cp1, rfl, q1, A1⟩ := q1.slice
 have v1 : valD z1 = (((intQ k).num.natAbs : Nat) : Int) := by rw [q1.eq, I2.out]
 have V1 := Lib.hid v1
 have hb2 : Below w1.heap.size w1 (w1.alloc (.cells #[.int .i64 1] 3)) := (Below.refl _ _).alloc (Nat.le_refl _) _
 have L := digit_lit (Row.new w1 3 #[.int .i64 1]) (by omega)
 have P2 := (R0.later hb1).later hb2
 have A2 := A1.later hb2
 have Q1 := Lib.hid q1
 clear v1 q1 hW
 obtain ⟨q0, q1, q2, h0', h1', h2'⟩ := (R0.later hb1).three
 obtain ⟨u0, u1, u2, g0, g1, g2⟩ := P2.three
 go_wp2_with fail
 refine bodyPost_ret (v := .agg #[.bool m1, .slice ad1 z1.length cp1, .slice (some ⟨w1.heap.size, 0, none⟩) 1 1]) (by simp [results, Tryz.results31, go_sem, u0, u1, u2]) rfl ⟨_, rfl, ⟨z1, [1], ad1, some ⟨w1.heap.size, 0, none⟩, cp1, 1, by rw [I1.out]; rfl, ?_, ?_, l1, by simp⟩, ?_⟩
 · exact (((Q1.out.mono (by omega)).later hb2).far P2 (by decide) (kept3 _ _ _)).eqTo V1.out
 · rw [I3.out]; exact (ResD.one w1 (by omega)).far P2 (by decide) (kept3 _ _ _)
 · exact below_set3 ((hBW.trans (hb1.mono (by omega))).trans (hb2.mono (by omega))) (by omega) _ _ _
def ResT (base : Nat) (w : World) (v : Value) (s : List Int) (L : List Rat) (m : Nat) : Prop :=
 ∃ (a b : Option Addr) (ca cb : Nat), v = .agg #[.slice a s.length ca, .slice b L.length cb] ∧ ResS base w (.slice a s.length ca) s ∧ RowO base 54 (fun W v x => ResQ base W v x m) w (.slice b L.length cb) L
theorem ResT.later {base : Nat} {w w' : World} {v : Value} {s : List Int} {L : List Rat} {m : Nat} (h : ResT base w v s L m) (hb : Below w.heap.size w w') : ResT base w' v s L m := by
 obtain ⟨a, b, ca, cb, rfl, h1, h2⟩ := h
 exact ⟨a, b, ca, cb, rfl, h1.later hb, h2.later hb (fun v x h => h.later hb)⟩
theorem ResT.mono {base base' : Nat} {w : World} {v : Value} {s : List Int} {L : List Rat} {m : Nat} (h : ResT base w v s L m) (hb : base' ≤ base) : ResT base' w v s L m := by
 obtain ⟨a, b, ca, cb, rfl, h1, h2⟩ := h
 exact ⟨a, b, ca, cb, rfl, h1.mono hb, h2.mono hb (fun v x h => h.mono hb)⟩
theorem ResT.far {base : Nat} {w w' : World} {v : Value} {s : List Int} {L : List Rat} {m g : Nat} {t : TypeId} {cs : Array Value} (h : ResT base w v s L m) (R : Row w g t cs) (h1 : t ≠ 3) (h2 : t ≠ 144) (h3 : t ≠ 54) (hk : ∀ k, k ≠ g → w'.heap[k]? = w.heap[k]?) : ResT base w' v s L m := by
 obtain ⟨a, b, ca, cb, rfl, k1, k2⟩ := h
 exact ⟨a, b, ca, cb, rfl, k1.far R h1 hk, k2.far R h3 hk (fun v x h => h.far R h2 hk)⟩
end
section
open Go.RowKit Go.Shelf
attribute [local go_sem] Oper.semAt_some
theorem allU_in (n l Bs n₀ : Nat) (ad : Option Addr) (xs : List Int) (cap : Nat) (hm : xs.length ≤ 35184372088832) (hcap : xs.length ≤ cap) (hb : xs ≠ [] → ∀ a, ad = some a → a.block < n₀) (J Jx : List (Fin xs.length) → World → Prop)
 (hY : ∀ pre x W, J pre W → pre.length < xs.length → YieldAt Fence.wide (n - 1) Tryz.prog l (limbV xs x) W fun e W' =>
   (e = .returned (.bool true) ∧ J (pre ++ [x]) W' ∧ Below n₀ W W') ∨ (e = .returned (.bool false) ∧ Jx (pre ++ [x]) W'))
 (W : World) (hBs : W.cell? ⟨Bs, 0, none⟩ = some (.slice ad xs.length cap)) (hl : Lim W ad xs) (h0 : J [] W) :
 CallsIn Fence.wide n Tryz.prog 196 #[.func (.yield l) #[] #[], .pointer (some ⟨Bs, 0, none⟩)] W fun e W' => (∃ v, e = .returned v) ∧
  ((∃ ys, Upto ys xs.length ∧ J ys W') ∨ (∃ pre, (∃ k, k ≤ xs.length ∧ Upto pre k) ∧ Jx pre W')) := by
 refine callsIn_of_wp Tryz.func196 rfl trivial ?_ rfl
 simp only [Tryz.ntmps196, List.size_toArray, List.length_cons, List.length_nil, Nat.reduceAdd, Nat.reduceSub, Array.replicate_succ, Array.replicate_zero, List.push_toArray, List.append_toArray, List.nil_append, List.cons_append]
 gi_wp2_with fail
 gi_loopw [4, 7] (fun _ i wr => ∃ (k : Nat) (pre : List (Fin xs.length)), k ≤ xs.length ∧ i = .int .i64 k ∧ Upto pre k ∧ J pre wr ∧ Below n₀ W wr)
  (fun _ i _ => xs.length - (intOf i).toNat)
 case atStart => exact ⟨0, [], Nat.zero_le _, rfl, rfl, h0, Below.refl _ _⟩
 case round =>
  obtain ⟨k, pre, hk, rfl, hup, hJs, hnx⟩ := hrel
  by_cases hlt : k < xs.length
  · rcases hl with rfl | ⟨b, off, rfl, hc⟩
    · simp at hlt
    · obtain ⟨fn, tmps, assign, body, hy, hR⟩ := hY pre ⟨k, hlt⟩ wr hJs (by rw [hup.length]; exact hlt)
      simp only [limbV] at hy
      have hcx := (hnx.cell (p := ⟨b, off + k, none⟩) (hb (by rintro rfl; simp at hlt) ⟨b, off, none⟩ rfl)).trans (hc k (by omega))
      have ej : xs[k]?.getD 0 = xs[k] := by simp [hlt]
      rw [ej] at hy
      clear hc ej
      gi_wp2
      refine ⟨(fun h => by cases h), hR.mono ?_⟩
      rintro e W3 (⟨rfl, hJ3, hk3⟩ | ⟨rfl, hJx3⟩)
      · gi_wp2
        go_roundw
        case rel => exact ⟨k + 1, _, by omega, by go_num, hup.snoc hlt, hJ3, hnx.trans hk3⟩
        case measure => simp [intOf]; omega
      · gi_wp2
        refine bodyPost_ret (results_none rfl _ _ _) rfl ?_
        exact ⟨⟨_, rfl⟩, .inr ⟨_, ⟨k + 1, by omega, hup.snoc hlt⟩, hJx3⟩⟩
  · obtain rfl : k = xs.length := by omega
    gi_wp2
    go_end0
    exact ⟨⟨_, rfl⟩, .inl ⟨_, hup, hJs⟩⟩
theorem allU_stops (n Bs n₀ : Nat) (ad : Option Addr) (xs : List Int) (cap : Nat) (hm : xs.length ≤ 35184372088832) (hcap : xs.length ≤ cap) (hb : xs ≠ [] → ∀ a, ad = some a → a.block < n₀) (w : World) (hBs : Bs < w.heap.size)
 (hc : w.cell? ⟨Bs, 0, none⟩ = some (.slice ad xs.length cap)) (hl : Lim w ad xs) :
 SeqStopsK Fence.wide n Tryz.prog 196 #[.pointer (some ⟨Bs, 0, none⟩)] (limbV xs (n := xs.length)) (Below n₀) (fun ys => Upto ys xs.length) (fun pre => ∃ k, k ≤ xs.length ∧ Upto pre k) xs.length w := fun l J Jx W hW _ _ hY h0 =>
 allU_in n l Bs n₀ ad xs cap hm hcap hb J Jx hY W ((hW.cell (p := ⟨Bs, 0, none⟩) hBs).trans hc) (hl.later hW) h0
theorem allU_any (ad : Option Addr) (n cap : Nat) (w : World) :
 Calls Tryz.prog 190 #[.slice ad n cap] w fun e w' => e = .returned (.func (.func 196) #[] #[.pointer (some ⟨w.heap.size, 0, none⟩)]) ∧ w' = w.alloc (.cells #[.slice ad n cap] 194) := by
 go_enter Tryz.func190, Tryz.ntmps190
 go_wp2
 go_ret
 exact ⟨rfl, rfl⟩
theorem allI_in (n l Bs n₀ : Nat) (ad : Option Addr) (xs : List Int) (cap : Nat) (hm : xs.length ≤ 17592186044416) (hcap : xs.length ≤ cap) (hb : xs ≠ [] → ∀ a, ad = some a → a.block < n₀) (J Jx : List (Fin xs.length) → World → Prop)
 (hY : ∀ pre x W, J pre W → pre.length < xs.length → YieldAt Fence.wide (n - 1) Tryz.prog l (numV xs x) W fun e W' =>
   (e = .returned (.bool true) ∧ J (pre ++ [x]) W' ∧ Below n₀ W W') ∨ (e = .returned (.bool false) ∧ Jx (pre ++ [x]) W'))
 (W : World) (hBs : W.cell? ⟨Bs, 0, none⟩ = some (.slice ad xs.length cap)) (hl : LimS W ad xs) (h0 : J [] W) :
 CallsIn Fence.wide n Tryz.prog 195 #[.func (.yield l) #[] #[], .pointer (some ⟨Bs, 0, none⟩)] W fun e W' => (∃ v, e = .returned v) ∧
  ((∃ ys, Upto ys xs.length ∧ J ys W') ∨ (∃ pre, (∃ k, k ≤ xs.length ∧ Upto pre k) ∧ Jx pre W')) := by
 refine callsIn_of_wp Tryz.func195 rfl trivial ?_ rfl
 simp only [Tryz.ntmps195, List.size_toArray, List.length_cons, List.length_nil, Nat.reduceAdd, Nat.reduceSub, Array.replicate_succ, Array.replicate_zero, List.push_toArray, List.append_toArray, List.nil_append, List.cons_append]
 gi_wp2_with fail
 gi_loopw [4, 7] (fun _ i wr => ∃ (k : Nat) (pre : List (Fin xs.length)), k ≤ xs.length ∧ i = .int .i64 k ∧ Upto pre k ∧ J pre wr ∧ Below n₀ W wr)
  (fun _ i _ => xs.length - (intOf i).toNat)
 case atStart => exact ⟨0, [], Nat.zero_le _, rfl, rfl, h0, Below.refl _ _⟩
 case round =>
  obtain ⟨k, pre, hk, rfl, hup, hJs, hnx⟩ := hrel
  by_cases hlt : k < xs.length
  · rcases hl with rfl | ⟨b, off, rfl, hc⟩
    · simp at hlt
    · obtain ⟨fn, tmps, assign, body, hy, hR⟩ := hY pre ⟨k, hlt⟩ wr hJs (by rw [hup.length]; exact hlt)
      simp only [numV] at hy
      have hcx := (hnx.cell (p := ⟨b, off + k, none⟩) (hb (by rintro rfl; simp at hlt) ⟨b, off, none⟩ rfl)).trans (hc k (by omega))
      have ej : xs[k]?.getD 0 = xs[k] := by simp [hlt]
      rw [ej] at hy
      clear hc ej
      gi_wp2
      refine ⟨(fun h => by cases h), hR.mono ?_⟩
      rintro e W3 (⟨rfl, hJ3, hk3⟩ | ⟨rfl, hJx3⟩)
      · gi_wp2
        go_roundw
        case rel => exact ⟨k + 1, _, by omega, by go_num, hup.snoc hlt, hJ3, hnx.trans hk3⟩
        case measure => simp [intOf]; omega
      · gi_wp2
        refine bodyPost_ret (results_none rfl _ _ _) rfl ?_
        exact ⟨⟨_, rfl⟩, .inr ⟨_, ⟨k + 1, by omega, hup.snoc hlt⟩, hJx3⟩⟩
  · obtain rfl : k = xs.length := by omega
    gi_wp2
    go_end0
    exact ⟨⟨_, rfl⟩, .inl ⟨_, hup, hJs⟩⟩
theorem allI_stops (n Bs n₀ : Nat) (ad : Option Addr) (xs : List Int) (cap : Nat) (hm : xs.length ≤ 17592186044416) (hcap : xs.length ≤ cap) (hb : xs ≠ [] → ∀ a, ad = some a → a.block < n₀) (w : World) (hBs : Bs < w.heap.size)
 (hc : w.cell? ⟨Bs, 0, none⟩ = some (.slice ad xs.length cap)) (hl : LimS w ad xs) :
 SeqStopsK Fence.wide n Tryz.prog 195 #[.pointer (some ⟨Bs, 0, none⟩)] (numV xs (n := xs.length)) (Below n₀) (fun ys => Upto ys xs.length) (fun pre => ∃ k, k ≤ xs.length ∧ Upto pre k) xs.length w := fun l J Jx W hW _ _ hY h0 =>
 allI_in n l Bs n₀ ad xs cap hm hcap hb J Jx hY W ((hW.cell (p := ⟨Bs, 0, none⟩) hBs).trans hc) (hl.later hW) h0
theorem allI_any (ad : Option Addr) (n cap : Nat) (w : World) :
 Calls Tryz.prog 189 #[.slice ad n cap] w fun e w' => e = .returned (.func (.func 195) #[] #[.pointer (some ⟨w.heap.size, 0, none⟩)]) ∧ w' = w.alloc (.cells #[.slice ad n cap] 192) := by
 go_enter Tryz.func189, Tryz.ntmps189
 go_wp2
 go_ret
 exact ⟨rfl, rfl⟩
theorem allQ_any (ad : Option Addr) (n cap : Nat) (w : World) :
 Calls Tryz.prog 68 #[.slice ad n cap] w fun e w' => e = .returned (.func (.func 107) #[] #[.pointer (some ⟨w.heap.size, 0, none⟩)]) ∧ w' = w.alloc (.cells #[.slice ad n cap] 96) := by
 go_enter Tryz.func68, Tryz.ntmps68
 go_wp2
 go_ret
 exact ⟨rfl, rfl⟩
theorem allQ_stops (n Bs n₀ : Nat) (ad : Option Addr) (es : List E3) (cap : Nat) (hm : es.length ≤ 1000000000000) (hcap : es.length ≤ cap) (w : World) (hn₀ : n₀ ≤ w.heap.size) (hBs : Bs < w.heap.size)
 (hc : w.cell? ⟨Bs, 0, none⟩ = some (.slice ad es.length cap)) (hl : LimE w ad es n₀) (hsh : ShE es) :
 SeqStopsK Fence.wide n Tryz.prog 107 #[.pointer (some ⟨Bs, 0, none⟩)] (ratAt es (n := es.length)) (Below n₀) (fun ys => Upto ys es.length) (fun pre => ∃ k, k ≤ es.length ∧ Upto pre k) es.length w := fun l J Jx W hW hJ _ hY h0 =>
 allQ_in n l Bs n₀ ad es cap hm hcap J Jx (fun pre A B hj hb => hJ pre A B none hj ⟨hb.os, hb.tape, hb.output, hb.size, fun k hk _ => hb.block k hk⟩ (fun _ h => by cases h)) hY W (Nat.le_trans hn₀ hW.size) ((hW.cell (p := ⟨Bs, 0, none⟩) hBs).trans hc) (hl.below (hW.mono hn₀)) hsh h0
end
section
def totL : List Rat → Rat
 | [] => 0
 | x :: xs => x + totL xs
theorem totL_append (a b : List Rat) : totL (a ++ b) = totL a + totL b := by
 induction a with
 | nil => simp only [List.nil_append, totL]; grind
 | cons x a ih => simp only [List.cons_append, totL, ih]; grind
theorem totL_one (x : Rat) : totL [x] = x := by simp only [totL]; grind
def sumK (f : Nat → Rat) : Nat → Rat
 | 0 => 0
 | n + 1 => sumK f n + f n
theorem sumK_congr {f g : Nat → Rat} {n : Nat} (h : ∀ k, k < n → f k = g k) : sumK f n = sumK g n := by
 induction n with
 | zero => rfl
 | succ n ih => simp only [sumK]; rw [ih fun k hk => h k (by omega), h n (by omega)]
theorem totL_range (f : Nat → Rat) (n : Nat) : totL ((List.range n).map f) = sumK f n := by
 induction n with
 | zero => rfl
 | succ n ih => rw [List.range_succ, List.map_append, totL_append, ih]; simp only [List.map_cons, List.map_nil, totL_one, sumK]
def partL (fm : Nat → Nat) (L : List Rat) (i : Nat) : Nat → List Rat
 | 0 => []
 | k + 1 => partL fm L i k ++ (if fm k = i then [L.getD k 0] else [])
theorem partL_len (fm : Nat → Nat) (L : List Rat) (i k : Nat) : (partL fm L i k).length ≤ k := by
 induction k with
 | zero => simp [partL]
 | succ k ih => simp only [partL, List.length_append]; split <;> simp <;> omega
theorem partL_ne {fm : Nat → Nat} (L : List Rat) {i k p : Nat} (hp : p < k) (h : fm p = i) : 1 ≤ (partL fm L i k).length := by
 induction k with
 | zero => omega
 | succ k ih =>
   simp only [partL, List.length_append]
   by_cases e : p = k
   · subst e; rw [if_pos h]; simp
   · have := ih (by omega); omega
def gathL (fm : Nat → Nat) (n m : Nat) (L : List Rat) : List Rat := (List.range m).map fun i => totL (partL fm L i n)
theorem gathL_len (fm : Nat → Nat) (n m : Nat) (L : List Rat) : (gathL fm n m L).length = m := by simp [gathL]
theorem dropL_congr {xs ys axes : List Int} {j : Nat} (h : ∀ i, i < j → xs.getD i 0 = ys.getD i 0) : dropL xs axes j = dropL ys axes j := by
 induction j with
 | zero => rfl
 | succ j ih => simp only [dropL]; rw [ih fun i hi => h i (by omega), h j (by omega)]
theorem dropL_len (s xs axes : List Int) (j : Nat) : (dropL xs axes j).length = (dropL s axes j).length := by
 induction j with
 | zero => rfl
 | succ j ih => simp only [dropL, List.length_append, ih]; split <;> rfl
theorem inS_snoc10 {s xs : List Int} (h : inS s xs) {d x : Int} (h0 : 0 ≤ x) (h1 : x < d) : inS (s ++ [d]) (xs ++ [x]) := by
 induction s generalizing xs with
 | nil => cases xs with
   | nil => exact ⟨⟨h0, h1⟩, trivial⟩
   | cons => exact h.elim
 | cons e s ih => cases xs with
   | nil => exact h.elim
   | cons y xs => exact ⟨h.1, ih h.2⟩
theorem place_snoc10 {s xs : List Int} (h : s.length = xs.length) (d x : Int) : placeS (s ++ [d]) (xs ++ [x]) = placeS s xs * d + x := by
 induction s generalizing xs with
 | nil =>
   cases xs with
   | nil => simp [placeS, prodS]
   | cons => simp at h
 | cons a s ih => cases xs with
   | nil => simp at h
   | cons y xs =>
     simp only [List.cons_append, placeS]
     rw [ih (by simpa using h), prodS_append]
     simp only [prodS, Int.mul_one]
     rw [Int.add_mul, Int.mul_assoc, Int.add_assoc]
theorem dropL_in {s xs : List Int} (axes : List Int) (h : inS s xs) {j : Nat} (hj : j ≤ s.length) : inS (dropL s axes j) (dropL xs axes j) := by
 induction j with
 | zero => exact trivial
 | succ j ih =>
   have h2 := inS_at h (i := j) (by omega)
   simp only [dropL]
   split
   · rw [List.append_nil, List.append_nil]; exact ih (by omega)
   · exact inS_snoc10 (ih (by omega)) h2.1 h2.2
theorem dropS_in {s xs : List Int} (axes : List Int) (h : inS s xs) : inS (dropS s axes) (dropS xs axes) := by
 unfold dropS
 rw [inS_length h]
 exact dropL_in axes h (Nat.le_refl _)
theorem dropL_onto {s axes : List Int} (hp : posS s) {j : Nat} (hj : j ≤ s.length) : ∀ t, inS (dropL s axes j) t → ∃ xs, inS (s.take j) xs ∧ dropL xs axes j = t := by
 induction j with
 | zero =>
   intro t ht
   cases t with
   | nil => exact ⟨[], trivial, rfl⟩
   | cons => exact ht.elim
 | succ j ih =>
   intro t ht
   have hd := hp.getD (i := j) (by omega)
   have et : s.take (j + 1) = s.take j ++ [s.getD j 0] := by
    rw [List.take_add_one, List.getElem?_eq_getElem (show j < s.length by omega), List.getD_eq_getElem?_getD, List.getElem?_eq_getElem (show j < s.length by omega)]; rfl
   have hlt : (s.take j).length = j := by rw [List.length_take]; omega
   have key : ∀ xs (x : Int), inS (s.take j) xs → dropL (xs ++ [x]) axes j = dropL xs axes j := fun xs x hx => by
    have hl := inS_length hx
    refine dropL_congr fun i hi => ?_
    rw [List.getD_eq_getElem?_getD, List.getElem?_append_left (by omega), ← List.getD_eq_getElem?_getD]
   have key2 : ∀ xs (x : Int), inS (s.take j) xs → (xs ++ [x]).getD j 0 = x := fun xs x hx => by
    have hl := inS_length hx
    rw [List.getD_eq_getElem?_getD, List.getElem?_append_right (by omega), hl, hlt, Nat.sub_self]; rfl
   by_cases hm : (j : Int) ∈ axes
   · simp only [dropL, if_pos hm, List.append_nil] at ht ⊢
     obtain ⟨xs, h1, h2⟩ := ih (by omega) t ht
     exact ⟨xs ++ [0], by rw [et]; exact inS_snoc10 h1 (by omega) (by omega), by rw [key xs 0 h1, h2]⟩
   · simp only [dropL, if_neg hm] at ht ⊢
     have hl := inS_length ht
     rw [List.length_append] at hl
     obtain ⟨t1, x, rfl⟩ : ∃ t1 x, t = t1 ++ [x] := by
      rcases List.eq_nil_or_concat t with e | ⟨t1, x, e⟩
      · rw [e] at hl; simp at hl
      · exact ⟨t1, x, by rw [e, List.concat_eq_append]⟩
     have hl1 : t1.length = (dropL s axes j).length := by simp at hl; omega
     have hin : inS (dropL s axes j) t1 ∧ 0 ≤ x ∧ x < s.getD j 0 := by
      refine ⟨inS_of hl1 fun i hi => ?_, ?_⟩
      · have := inS_at ht (i := i) (by simp; omega)
        rw [List.getD_eq_getElem?_getD, List.getElem?_append_left (by omega), ← List.getD_eq_getElem?_getD, List.getD_eq_getElem?_getD (l := dropL s axes j ++ _), List.getElem?_append_left hi, ← List.getD_eq_getElem?_getD] at this
        exact this
      · have := inS_at ht (i := t1.length) (by simp; omega)
        rw [List.getD_eq_getElem?_getD, List.getElem?_append_right (Nat.le_refl _), Nat.sub_self, List.getD_eq_getElem?_getD (l := dropL s axes j ++ _), List.getElem?_append_right (by omega), hl1, Nat.sub_self] at this
        exact this
     obtain ⟨xs, h1, h2⟩ := ih (by omega) t1 hin.1
     exact ⟨xs ++ [x], by rw [et]; exact inS_snoc10 h1 hin.2.1 hin.2.2, by rw [key xs x h1, key2 xs x h1, h2]⟩
theorem dropS_onto {s axes t : List Int} (hp : posS s) (h : inS (dropS s axes) t) : ∃ xs, inS s xs ∧ dropS xs axes = t := by
 obtain ⟨xs, h1, h2⟩ := dropL_onto hp (Nat.le_refl _) t h
 rw [List.take_length] at h1
 refine ⟨xs, h1, ?_⟩
 unfold dropS
 rw [inS_length h1]
 exact h2
def toF (s axes : List Int) (p : Nat) : Nat := (placeS (dropS s axes) (dropS (idxS s (p : Int)) axes)).toNat
def cntF (s : List Int) : Nat := (prodS s).toNat
theorem OkS.cnt {s : List Int} (h : OkS s) : (cntF s : Int) = prodS s ∧ 1 ≤ cntF s ∧ cntF s ≤ 1024 := by
 have h1 := prodS_pos h.pos
 have h2 := h.few
 unfold cntF
 omega
theorem toF_in {s : List Int} (axes : List Int) (ok : OkS s) {p : Nat} (hp : p < cntF s) : inS (dropS s axes) (dropS (idxS s (p : Int)) axes) ∧ (toF s axes p : Int) = placeS (dropS s axes) (dropS (idxS s (p : Int)) axes) ∧ toF s axes p < cntF (dropS s axes) := by
 have hc := ok.cnt
 have hc2 := (drop_ok axes ok).cnt
 have h1 := dropS_in axes (place_idx ok.pos (n := (p : Int)) (by omega) (by omega)).1
 have h2 := place_range h1
 refine ⟨h1, ?_, ?_⟩
 · unfold toF; omega
 · unfold toF; omega
theorem toF_onto {s : List Int} (axes : List Int) (ok : OkS s) {i : Nat} (hi : i < cntF (dropS s axes)) : ∃ p, p < cntF s ∧ toF s axes p = i := by
 have okd := drop_ok axes ok
 have hc := okd.cnt
 have hc1 := ok.cnt
 have h4 := place_idx okd.pos (n := (i : Int)) (by omega) (by omega)
 obtain ⟨xs, h5, h6⟩ := dropS_onto ok.pos h4.1
 have h7 := place_range h5
 refine ⟨(placeS s xs).toNat, by omega, ?_⟩
 unfold toF
 rw [show (((placeS s xs).toNat : Nat) : Int) = placeS s xs by omega, idx_place h5, h6, h4.2]
 omega
def sumF (s axes : List Int) (L : List Rat) : List Rat := gathL (toF s axes) (cntF s) (cntF (dropS s axes)) L
theorem sumF_len (s axes : List Int) (L : List Rat) : (sumF s axes L).length = cntF (dropS s axes) := gathL_len _ _ _ _
theorem place_grown {f t xs : List Int} (h : fitC f t = 0) (hx : inS t xs) : placeS (dropS t (grownS f t)) (dropS xs (grownS f t)) = placeS f (bcI f (t.length - f.length) xs) ∧ (dropS t (grownS f t)).length ≤ f.length := by
 have hl := fit_len h
 obtain ⟨okf, okt, _⟩ := fitC_is h
 have hxl := inS_length hx
 have hg : ∀ j : Nat, (j : Int) ∈ grownS f t ↔ j < t.length ∧ backS f (t.length - j) ≠ backS t (t.length - j) := fun j => by
  rw [show grownS f t = grownL f t t.length from if_pos h]
  have key : ∀ n : Nat, (j : Int) ∈ grownL f t n ↔ j < n ∧ backS f (t.length - j) ≠ backS t (t.length - j) := fun n => by
   induction n with
   | zero => simp [grownL]
   | succ n ih =>
     simp only [grownL, List.mem_append, ih]
     by_cases e : backS f (t.length - n) = backS t (t.length - n)
     · rw [if_pos e]
       constructor
       · rintro (⟨h1, h2⟩ | h1)
         · exact ⟨by omega, h2⟩
         · cases h1
       · rintro ⟨h1, h2⟩
         exact .inl ⟨by have : j ≠ n := fun e2 => h2 (e2 ▸ e); omega, h2⟩
     · rw [if_neg e]
       constructor
       · rintro (⟨h1, h2⟩ | h1)
         · exact ⟨by omega, h2⟩
         · have e2 : j = n := by have := List.mem_singleton.1 h1; omega
           subst e2
           exact ⟨by omega, e⟩
       · rintro ⟨h1, h2⟩
         by_cases e2 : j = n
         · subst e2; exact .inr (by simp)
         · exact .inl ⟨by omega, h2⟩
  exact key t.length
 obtain ⟨G, hG⟩ : ∃ G, grownS f t = G := ⟨_, rfl⟩
 rw [hG] at hg ⊢
 obtain ⟨k, hk⟩ : ∃ k, t.length - f.length = k := ⟨_, rfl⟩
 have key : ∀ j, j ≤ t.length → placeS (dropL t G j) (dropL xs G j) = placeS (f.take (j - k)) ((bcI f k xs).take (j - k)) ∧ (dropL t G j).length ≤ j - k := fun j => by
  induction j with
  | zero => intro _; simp [dropL, placeS]
  | succ j ih =>
    intro hj
    obtain ⟨h1, h2⟩ := ih (by omega)
    have htj := okt.pos.getD (i := j) (by omega)
    have hxj := inS_at hx (i := j) (by omega)
    have ebt : backS t (t.length - j) = t.getD j 0 := by unfold backS; rw [if_neg (by omega), show t.length - (t.length - j) = j by omega]
    simp only [dropL]
    by_cases hjk : j < k
    · have ebf : backS f (t.length - j) = 0 := by unfold backS; rw [if_pos (by omega)]
      rw [if_pos ((hg j).2 ⟨by omega, by rw [ebf, ebt]; omega⟩), if_pos ((hg j).2 ⟨by omega, by rw [ebf, ebt]; omega⟩), List.append_nil, List.append_nil, h1, show j - k = 0 by omega, show j + 1 - k = 0 by omega]
      exact ⟨by simp [placeS], by omega⟩
    · obtain ⟨i, hi⟩ : ∃ i, j - k = i := ⟨_, rfl⟩
      have hif : i < f.length := by omega
      have ebf : backS f (t.length - j) = f.getD i 0 := by unfold backS; rw [if_neg (by omega), show f.length - (t.length - j) = i by omega]
      have hbl : (bcI f k xs).length = f.length := bcI_len f k xs
      have hfit := fit_at h hif
      rw [hk, show k + i = j by omega] at hfit
      have tk : ∀ l : List Int, l.length = f.length → l.take (i + 1) = l.take i ++ [l.getD i 0] := fun l hll => by
       rw [List.take_add_one, List.getElem?_eq_getElem (show i < l.length by omega), List.getD_eq_getElem?_getD, List.getElem?_eq_getElem (show i < l.length by omega)]; rfl
      rw [show j + 1 - k = i + 1 by omega, tk f rfl, tk _ hbl, place_snoc10 (by rw [List.length_take, List.length_take, hbl])]
      rw [hi] at h1 h2
      have hb := bcI_at f k xs hif
      rw [show k + i = j by omega] at hb
      by_cases e : f.getD i 0 = t.getD j 0
      · have hn : ¬ (j : Int) ∈ G := fun hm => ((hg j).1 hm).2 (by rw [ebf, ebt, e])
        rw [if_neg hn, if_neg hn, place_snoc10 (dropL_len xs t G j), h1, hb, e, Int.emod_eq_of_lt hxj.1 hxj.2]
        exact ⟨rfl, by simp; omega⟩
      · have hm : (j : Int) ∈ G := (hg j).2 ⟨by omega, by rw [ebf, ebt]; exact e⟩
        have e1 := hfit.resolve_right e
        rw [if_pos hm, if_pos hm, List.append_nil, List.append_nil, h1, hb, e1, Int.emod_one, Int.mul_one, Int.add_zero]
        exact ⟨rfl, by omega⟩
 obtain ⟨h1, h2⟩ := key t.length (Nat.le_refl _)
 rw [show t.length - k = f.length by omega, List.take_length] at h1
 rw [show (bcI f k xs).take f.length = bcI f k xs from by rw [← bcI_len f k xs, List.take_length]] at h1
 unfold dropS
 rw [hxl, hk]
 exact ⟨h1, by omega⟩
def mmF (a b c : Nat) (X Y : List Rat) : List Rat := (List.range (a * c)).map fun n => sumK (fun k => X.getD (b * (n / c) + k) 0 * Y.getD (c * k + n % c) 0) b
theorem mmF_len (a b c : Nat) (X Y : List Rat) : (mmF a b c X Y).length = a * c := by simp [mmF]
theorem mat_lt {a c i j : Nat} (hi : i < a) (hj : j < c) : c * i + j < a * c := by
 have h : c * (i + 1) ≤ c * a := Nat.mul_le_mul_left c hi
 rw [Nat.mul_succ, Nat.mul_comm c a] at h
 omega
theorem mat_div {c i j : Nat} (hj : j < c) : (c * i + j) / c = i ∧ (c * i + j) % c = j := by
 have hc : 0 < c := by omega
 refine ⟨?_, ?_⟩
 · rw [Nat.mul_add_div hc, Nat.div_eq_of_lt hj, Nat.add_zero]
 · rw [Nat.mul_add_mod, Nat.mod_eq_of_lt hj]
theorem mmF_next (a b c : Nat) (X Y : List Rat) {i j : Nat} (hj : j < c) : (List.range (c * i + j + 1)).map (fun n => sumK (fun k => X.getD (b * (n / c) + k) 0 * Y.getD (c * k + n % c) 0) b) =
 (List.range (c * i + j)).map (fun n => sumK (fun k => X.getD (b * (n / c) + k) 0 * Y.getD (c * k + n % c) 0) b) ++ [sumK (fun k => X.getD (b * i + k) 0 * Y.getD (c * k + j) 0) b] := by
 rw [List.range_succ, List.map_append]
 simp only [List.map_cons, List.map_nil, (mat_div hj).1, (mat_div hj).2]
def plusF (t f : List Int) (X Z : List Rat) : List Rat := (List.range (cntF t)).map fun n => X.getD n 0 + elV f Z (bcI f (t.length - f.length) (idxS t (n : Int)))
theorem plusF_len (t f : List Int) (X Z : List Rat) : (plusF t f X Z).length = cntF t := by simp [plusF]
end
section
open Go.RowKit
theorem position1_any {w : World} {s ys : List Int} {a d b : Option Addr} {ca cd cb g1 g2 g3 : Nat} {n : Nat} (c1 : w.cell? ⟨g1, 0, none⟩ = some (.slice a s.length ca)) (c2 : w.cell? ⟨g2, 0, none⟩ = some (.slice d (dropS s ys).length cd)) (c3 : w.cell? ⟨g3, 0, none⟩ = some (.slice b ys.length cb))
 (A : ArgS w (.slice a s.length ca) s a ca) (na : a = none → ca = 0) (D : ArgS w (.slice d (dropS s ys).length cd) (dropS s ys) d cd) (nd : d = none → cd = 0) (B : ArgS w (.slice b ys.length cb) ys b cb) (nb : b = none → cb = 0) (ok : OkS s) (hn : n < cntF s) (hy : ys.length ≤ 1000000) :
 Calls Tryz.prog 127 #[.int .i64 (n : Int), .pointer (some ⟨g1, 0, none⟩), .pointer (some ⟨g2, 0, none⟩), .pointer (some ⟨g3, 0, none⟩)] w fun e w' => e = .returned (.int .i64 (toF s ys n : Int)) ∧ Below w.heap.size w w' := by
 have hc := ok.cnt
 have hrk := ok.rank
 have okd := drop_ok ys ok
 have hrd := okd.rank
 obtain ⟨hin, hto, _⟩ := toF_in ys ok hn
 have hidx : idxC s (n : Int) = 0 := idxC_in (mayC_ok ok) (by omega) (by omega)
 have hiv : idxV s (n : Int) = idxS s (n : Int) := idxV_in hidx
 have hi := fun (X : World) (hX : Below w.heap.size w X) => indexS_any (n : Int) (A.later hX) na (by omega) (by omega) (by omega)
 rw [hidx, hiv] at hi
 have hlen : (idxS s (n : Int)).length = s.length := idx_length _ _
 obtain ⟨xs, hxs⟩ : ∃ xs, idxS s (n : Int) = xs := ⟨_, rfl⟩
 rw [hxs] at hi hin hto hlen
 have hoc : offC (dropS s ys) (dropS xs ys) = 0 := offC_in (mayC_ok okd) hin
 have hov : offV (dropS s ys) (dropS xs ys) = (toF s ys n : Int) := by rw [offV_in (mayC_ok okd) hin, hto]
 obtain ⟨L, hL⟩ : ∃ L, dropS s ys = L := ⟨_, rfl⟩
 obtain ⟨zs, hzs⟩ : ∃ zs, dropS xs ys = zs := ⟨_, rfl⟩
 have hzl : zs.length ≤ 4 := by rw [← hzs]; exact Nat.le_trans (dropL_le xs ys _) (by omega)
 obtain ⟨m, hm⟩ : ∃ m : Int, (toF s ys n : Int) = m := ⟨_, rfl⟩
 rw [hL] at D c2 hoc hov hrd
 rw [hzs] at hoc hov
 rw [hm] at hov ⊢
 have HZS := Lib.hid hzs
 have HOC := Lib.hid hoc
 have HOV := Lib.hid hov
 have HD := Lib.hid D
 have HB := Lib.hid B
 have HND := Lib.hid nd
 have HNB := Lib.hid nb
 obtain ⟨ll, hll⟩ : ∃ n, L.length = n := ⟨_, rfl⟩
 rw [hll] at c2
 have HLL := Lib.hid hll
 obtain ⟨yl, hyl⟩ : ∃ n, ys.length = n := ⟨_, rfl⟩
 rw [hyl] at c3
 have HYL := Lib.hid hyl
 have hi0 := hi w (Below.refl _ _)
 clear hm hzs hoc hov hL hxs hidx hiv hi D B nd nb hin hto hll hyl hc
 go_enter Tryz.func127, Tryz.ntmps127
 go_wp2_with fail
 refine hi0.mono ?_
 rintro e w1 ⟨r1, rfl, R1, hb1⟩
 obtain ⟨a1, k1, rfl, R1', A1, n1⟩ := R1.slice
 obtain ⟨xl, hxl⟩ : ∃ n, xs.length = n := ⟨_, rfl⟩
 have HXL := Lib.hid hxl
 have HA1 := Lib.hid A1
 have HN1 := Lib.hid n1
 rw [hxl]
 clear R1 R1' A1 n1 hxl hi0
 have mkS : ∀ X, Below w1.heap.size w1 X → X.cell? ⟨g2, 0, none⟩ = some (.slice d ll cd) ∧ X.cell? ⟨g3, 0, none⟩ = some (.slice b yl cb) ∧ Below w1.heap.size w1 X := fun X h => ⟨((hb1.trans (h.mono hb1.size)).cell (World.block_lt_of_cell? _ _ c2)).trans c2, ((hb1.trans (h.mono hb1.size)).cell (World.block_lt_of_cell? _ _ c3)).trans c3, h⟩
 have B0 : Below w1.heap.size w1 w1.drew := (Below.refl _ _).drew
 go_wp2_with fail
 refine wp_region_held (S := (fun X => X.cell? ⟨g2, 0, none⟩ = some (.slice d ll cd) ∧ X.cell? ⟨g3, 0, none⟩ = some (.slice b yl cb) ∧ Below w1.heap.size w1 X)) (by kernel_rfl) ?_
 have hHeld := mkS _ B0
 refine todo [0, 1, 2] ?_
 iterate 3
  refine todoH (v := ?_) rfl (by kernel_rfl) (fun _ _ _ h => h) (by assumption) (Or.inl ⟨by rfl, ?_⟩) ?_
  rotate_left
  · intro w hSw; (try dsimp only at hSw); go_simp; (try with_reducible rfl)
  try simp only [Act.put, nA, nB, nC, nD, nE, nF]
 refine todone ?_
 refine wpAnyH_ready (rs := [3]) (by kernel_rfl) (by simp) ?_
 refine AllReadyH.cons rfl (fun K hK => ?sp1c3) AllReadyH.nil
 go_simp
 refine (dropC_any (show ArgS _ (.slice a1 xl k1) xs a1 k1 by have h := HA1.out.later B0; rwa [HXL.out] at h) (show ArgS _ (.slice b yl cb) ys b cb by have h := HB.out.later (hb1.trans (B0.mono hb1.size)); rwa [HYL.out] at h) HN1.out HNB.out (by have := HXL.out; omega) (by have := HYL.out; omega)).mono ?_
 rintro e y1 ⟨r2, rfl, R2, hy⟩
 have B1 : Below w1.heap.size w1 y1 := B0.trans (hy.mono B0.size)
 have D1 := hy
 clear hy
 rw [HZS.out] at R2
 obtain ⟨a2, k2, rfl, R2p, A2, n2⟩ := R2.slice
 obtain ⟨zl, hzl2⟩ : ∃ n, zs.length = n := ⟨_, rfl⟩
 rw [hzl2] at A2 ⊢
 have HZL := Lib.hid hzl2
 clear R2 R2p hzl2
 go_simp
 refine hK.out _ _ ?kp1c3 (fun hHeld => ?mp1c3)
 case kp1c3 =>
  try dsimp only
  exact mkS _ B1
 clear hK K
 try simp only [Act.put, nD, nE, nF]
 refine wpAnyH_ready (rs := [4]) (by kernel_rfl) (by simp) ?_
 refine AllReadyH.cons rfl (fun K hK => ?sp2c4) AllReadyH.nil
 go_simp
 refine (offsetS_any (show ArgS y1 (.slice d ll cd) L d cd by have h := HD.out.later (hb1.trans (B1.mono hb1.size)); rwa [HLL.out] at h) (show ArgS y1 (.slice a2 zl k2) zs a2 k2 by have h := A2; have e := HZL.out; rwa [← e] at h ⊢) HND.out n2 (by have := HLL.out; omega) (by omega)).mono ?_
 rintro e y2 ⟨rfl, hy⟩
 have B2 : Below w1.heap.size w1 y2 := B1.trans (hy.mono B1.size)
 have D2 := hy
 clear hy
 rw [HOC.out, HOV.out]
 go_simp
 refine hK.out _ _ ?kp2c4 (fun hHeld => ?mp2c4)
 case kp2c4 =>
  try dsimp only
  exact mkS _ B2
 clear hK K
 try simp only [Act.put, nD, nE, nF]
 refine todo [5, 6, 7, 8, 9] ?_
 iterate 5
  refine todoH (v := ?_) rfl (by kernel_rfl) (fun _ _ _ h => h) (by assumption) (Or.inl ⟨by rfl, ?_⟩) ?_
  rotate_left
  · intro w hSw; (try dsimp only at hSw); go_simp; (try with_reducible rfl)
  try simp only [Act.put, nA, nB, nC, nD, nE, nF]
 refine todone ?_
 refine wpAnyH_done (by kernel_rfl) ?_ _
 go_wp2_with fail
 go_ret
 exact ⟨rfl, hb1.trans (B2.mono hb1.size)⟩
structure PosC (base : Nat) (w : World) (s ys : List Int) (a b d : Option Addr) (ca cb cd g1 g2 g3 : Nat) : Prop where
 r1 : Row w g1 23 #[.slice a s.length ca]
 r2 : Row w g2 23 #[.slice d (dropS s ys).length cd]
 r3 : Row w g3 22 #[.slice b ys.length cb]
 res : ResS base w (.slice d (dropS s ys).length cd) (dropS s ys)
 l1 : base ≤ g1
 l2 : base ≤ g2
 l3 : base ≤ g3
theorem PosC.later {base : Nat} {w w' : World} {s ys : List Int} {a b d : Option Addr} {ca cb cd g1 g2 g3 : Nat} (h : PosC base w s ys a b d ca cb cd g1 g2 g3) (hb : Below w.heap.size w w') : PosC base w' s ys a b d ca cb cd g1 g2 g3 :=
 ⟨h.r1.later hb, h.r2.later hb, h.r3.later hb, h.res.later hb, h.l1, h.l2, h.l3⟩
theorem ResS.keptT {base g : Nat} {w w' : World} {u : Value} {zs : List Int} {t : TypeId} {cs : Array Value} (h : ResS base w u zs) (R : Row w g t cs) (ht : t ≠ 3) (k : Kept g w w') : ResS base w' u zs := by
 obtain ⟨⟨h1, h2⟩, h3⟩ := h
 refine ⟨⟨h1, ?_⟩, h3⟩
 rcases h2 with h2 | ⟨g', cap, cur, rfl, hb, hg, hr⟩
 · exact .inl h2
 · refine .inr ⟨g', cap, cur, rfl, hb, (k.block g' (lt_of_block hg) ?_).trans hg, hr⟩
   rintro rfl
   have e := hg.symm.trans R
   injection e with e
   injection e with _ e
   exact ht e.symm
theorem PosC.kept {base g : Nat} {w w' : World} {s ys : List Int} {a b d : Option Addr} {ca cb cd g1 g2 g3 : Nat} {t : TypeId} {cs : Array Value} (h : PosC base w s ys a b d ca cb cd g1 g2 g3) (R : Row w g t cs) (ht : t ≠ 3) (k : Kept g w w') (hg : g < base) : PosC base w' s ys a b d ca cb cd g1 g2 g3 :=
 ⟨h.r1.kept k (by have := h.l1; omega), h.r2.kept k (by have := h.l2; omega), h.r3.kept k (by have := h.l3; omega), h.res.keptT R ht k, h.l1, h.l2, h.l3⟩
theorem position_any {w : World} {s ys : List Int} {a b : Option Addr} {ca cb : Nat} (A : ArgS w (.slice a s.length ca) s a ca) (na : a = none → ca = 0) (B : ArgS w (.slice b ys.length cb) ys b cb) (nb : b = none → cb = 0) (hs : s.length ≤ 1000000) (hy : ys.length ≤ 1000000) :
 Calls Tryz.prog 85 #[.slice a s.length ca, .slice b ys.length cb] w fun e w' => ∃ g1 g2 g3 d cd, e = .returned (.func (.func 127) #[] #[.pointer (some ⟨g1, 0, none⟩), .pointer (some ⟨g2, 0, none⟩), .pointer (some ⟨g3, 0, none⟩)]) ∧
  PosC w.heap.size w' s ys a b d ca cb cd g1 g2 g3 ∧ Below w.heap.size w w' := by
 obtain ⟨W, hW⟩ : ∃ W, ((w.alloc (.cells #[.slice a s.length ca] 23)).alloc (.cells #[.slice b ys.length cb] 22)) = W := ⟨_, rfl⟩
 have R0 : Row W w.heap.size 23 #[.slice a s.length ca] := by rw [← hW]; exact (Row.new _ _ _).alloc _
 have R1 : Row W (w.heap.size + 1) 22 #[.slice b ys.length cb] := by rw [← hW]; have h := Row.new (w.alloc (.cells #[.slice a s.length ca] 23)) 22 #[.slice b ys.length cb]; simp only [World.size_alloc] at h; exact h
 have hBW : Below w.heap.size w W := by rw [← hW]; exact ((Below.refl _ _).alloc (Nat.le_refl _) _).alloc (by simp) _
 have hsW : w.heap.size ≤ W.heap.size := hBW.size
 have hd := dropC_any (A.later hBW) (B.later hBW) na nb (by omega) (by omega)
 have hmf : ∀ (fn : Fn) (first cap : Array Value) (w : World), (Instr.makeFunc fn first cap).run Tryz.prog w = .ok (.func fn first cap) w := fun _ _ _ _ => rfl
 obtain ⟨L, hL⟩ : ∃ L, dropS s ys = L := ⟨_, rfl⟩
 rw [hL] at hd
 have HL := Lib.hid hL
 obtain ⟨sl, hsl⟩ : ∃ n, s.length = n := ⟨_, rfl⟩
 obtain ⟨yl, hyl⟩ : ∃ n, ys.length = n := ⟨_, rfl⟩
 have HSL := Lib.hid hsl
 have HYL := Lib.hid hyl
 rw [hsl] at R0 hW hd ⊢
 rw [hyl] at R1 hW hd ⊢
 have c0 := R0.cell 0
 have c1 := R1.cell 0
 clear A B hL hsl hyl
 go_enter Tryz.func85, Tryz.ntmps85
 (try rw [hW])
 go_wp2_with fail
 (try rw [hW])
 clear hW
 refine hd.mono ?_
 rintro e w1 ⟨r1, rfl, R2, hb1⟩
 obtain ⟨d, cd, rfl, R2', -, -⟩ := R2.slice
 obtain ⟨ll, hll⟩ : ∃ n, L.length = n := ⟨_, rfl⟩
 have HLL := Lib.hid hll
 rw [hll] at R2' ⊢
 clear R2 hll hd
 have s1 := hb1.size
 obtain ⟨V, hV⟩ : ∃ V, w1.alloc (.cells #[.slice d ll cd] 23) = V := ⟨_, rfl⟩
 have RV : Row V w1.heap.size 23 #[.slice d ll cd] := by rw [← hV]; exact Row.new _ _ _
 have bV : Below w1.heap.size w1 V := by rw [← hV]; exact (Below.refl _ _).alloc (Nat.le_refl _) _
 have hd1 : Below W.heap.size W V := hb1.trans (bV.mono s1)
 have P0 := R0.later hd1
 have P1 := R1.later hd1
 have PR := (R2'.later bV).mono hsW
 have HRV := Lib.hid RV
 clear c0 c1
 go_wp2_with fail
 (try rw [hV])
 go_ret
 refine ⟨_, _, _, d, cd, rfl, ⟨?_, ?_, ?_, ?_, Nat.le_refl _, by omega, by omega⟩, hBW.trans (hd1.mono hsW)⟩
 · rw [HSL.out]; exact P0
 · rw [HL.out, HLL.out]; exact HRV.out
 · rw [HYL.out]; exact P1
 · rw [HL.out, HLL.out]; exact PR
end
end Go.Proofs.YtengpgodmbfmkaaGreat
