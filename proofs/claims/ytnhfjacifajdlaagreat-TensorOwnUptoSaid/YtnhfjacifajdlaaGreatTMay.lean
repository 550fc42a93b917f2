/-
  The reference of layer 7: SameShape, May.
-/
import Derived.Test.YtnhfjacifajdlaaGreatTBack
import Derived.BigQuiet
namespace Go.Proofs.YtnhfjacifajdlaaGreat
open Go.RowKit
set_option linter.unusedVariables false
set_option linter.unusedSimpArgs false

set_option maxRecDepth 100000 in
set_option maxHeartbeats 2000000 in
theorem sameSh_any {u v : Value} {xs ys : List Int} {a b : Option Addr} {ca cb : Nat} {w : World} (A : ArgS w u xs a ca) (B : ArgS w v ys b cb) (hx : xs.length ≤ 140737488355328) :
    Calls Tryz.prog 36 #[u, v] w fun e w' => e = .returned (.bool (decide (xs = ys))) ∧ Below w.heap.size w w' := by
  have HA := Lib.hid A
  have HB := Lib.hid B
  obtain rfl := A.is
  obtain rfl := B.is
  obtain ⟨L, hL⟩ : ∃ L, xs.length = L := ⟨_, rfl⟩
  obtain ⟨M, hM⟩ : ∃ M, ys.length = M := ⟨_, rfl⟩
  obtain ⟨d, hd⟩ : ∃ d, decide (xs = ys) = d := ⟨_, rfl⟩
  have HL := Lib.hid hL
  have HM := Lib.hid hM
  have HD := Lib.hid hd
  rw [hL] at hx
  rw [hL, hM, hd]
  clear A B hL hM hd
  by_cases hlm : L = M
  · subst hlm
    have hne : ((L : Int) != (L : Int)) = false := by simp
    go_enter Tryz.func36, Tryz.ntmps36
    go_wp2
    go_loopw [5] (fun i wr => ∃ k : Nat, i = .int .i64 (k : Int) ∧ k ≤ L ∧ xs.take k = ys.take k ∧ Below w.heap.size w wr) (fun i _ => L - (intOf i).toNat)
    case atStart => exact ⟨0, rfl, Nat.zero_le _, rfl, Below.refl _ _⟩
    case round =>
      obtain ⟨k, rfl, hkL, hp, hb⟩ := hrel
      have HP := Lib.hid hp
      clear hp
      by_cases hlt : k < L
      · obtain ⟨b1, o1, rfl, hc1⟩ := (HA.out.later hb).at (i := k) (by rw [HL.out]; exact hlt)
        obtain ⟨b2, o2, rfl, hc2⟩ := (HB.out.later hb).at (i := k) (by rw [HM.out]; exact hlt)
        have e1 := take_next (xs := xs) (k := k) (by rw [HL.out]; exact hlt)
        have e2 := take_next (xs := ys) (k := k) (by rw [HM.out]; exact hlt)
        obtain ⟨x, hx⟩ : ∃ x, xs.getD k 0 = x := ⟨_, rfl⟩
        obtain ⟨y, hy⟩ : ∃ y, ys.getD k 0 = y := ⟨_, rfl⟩
        rw [hx] at hc1 e1
        rw [hy] at hc2 e2
        have E1 := Lib.hid e1
        have E2 := Lib.hid e2
        have HX := Lib.hid hx
        have HY := Lib.hid hy
        have hin : 0 ≤ (k : Int) ∧ (k : Int) < (L : Int) := by omega
        have hltI : (k : Int) < (L : Int) := by omega
        clear hx hy e1 e2
        by_cases hxy : x = y
        · subst hxy
          have hn : (x != x) = false := by simp
          go_wp2
          go_quiet (fail)
          go_wp2
          go_roundw
          case rel => exact ⟨k + 1, by go_num, by omega, by rw [E1.out, E2.out, HP.out], hb.trans (belowS_drew _ _ _)⟩
          case measure => simp [intOf]; omega
        · obtain rfl : d = false := by
            rw [← HD.out, decide_eq_false_iff_not]
            intro h
            apply hxy
            rw [← HX.out, ← HY.out, h]
          have hn : (x != y) = true := by simpa using hxy
          go_wp2
          go_quiet (fail)
          go_wp2
          go_ret
          exact ⟨rfl, hb.trans (belowS_drew _ _ _)⟩
      · obtain rfl : k = L := by omega
        obtain rfl : d = true := by
          rw [← HD.out, decide_eq_true_iff]
          have := HP.out
          rwa [take_all HL.out, take_all HM.out] at this
        have hltI : ¬ (k : Int) < (k : Int) := by omega
        go_wp2
        go_ret
        exact ⟨rfl, hb⟩
  · obtain rfl : d = false := by
      rw [← HD.out, decide_eq_false_iff_not]
      intro h
      apply hlm
      rw [← HL.out, ← HM.out, h]
    have hne : ((L : Int) != (M : Int)) = true := by simp; omega
    go_enter Tryz.func36, Tryz.ntmps36
    go_wp2
    go_ret
    exact ⟨rfl, Below.refl _ _⟩

/-- is an element valid? -/
def okQ (q : Q3) : Bool := validB q.neg q.num q.den q.rat
/-- why a tensor is not valid: 0, or an error -/
def mayT (s : List Int) (qs : List Q3) : Int := if mayC s ≠ 0 then mayC s else if (qs.length : Int) ≠ countS s then 13 else if qs.all okQ = true then 0 else 6
theorem mayT_shape {s : List Int} {qs : List Q3} (h : mayC s ≠ 0) : mayT s qs = mayC s := by unfold mayT; rw [if_pos h]
theorem mayT_len {s : List Int} {qs : List Q3} (h : mayC s = 0) (h2 : (qs.length : Int) ≠ countS s) : mayT s qs = 13 := by unfold mayT; rw [if_neg (by rw [h]; simp), if_pos h2]
theorem mayT_bad {s : List Int} {qs : List Q3} (h : mayC s = 0) (h2 : (qs.length : Int) = countS s) {q : Q3} (hq : q ∈ qs) (h3 : okQ q = false) : mayT s qs = 6 := by
  unfold mayT
  rw [if_neg (by rw [h]; simp), if_neg (by rw [h2]; simp), if_neg]
  intro e
  rw [List.all_eq_true] at e
  rw [e q hq] at h3
  cases h3
theorem mayT_ok {s : List Int} {qs : List Q3} (h : mayC s = 0) (h2 : (qs.length : Int) = countS s) (h3 : ∀ q ∈ qs, okQ q = true) : mayT s qs = 0 := by
  unfold mayT
  rw [if_neg (by rw [h]; simp), if_neg (by rw [h2]; simp), if_pos (List.all_eq_true.2 h3)]

set_option maxRecDepth 100000 in
set_option maxHeartbeats 4000000 in
theorem mayT_any {w : World} {v : Value} {s : List Int} {qs : List Q3} {a b : Option Addr} {ca cb : Nat} (T : TensQ w v s qs a ca b cb) (hq : qs.length ≤ 1000000000)
    (hl : ∀ q ∈ qs, q.num.length ≤ 134217728 ∧ q.den.length ≤ 134217728) :
    Calls Tryz.prog 13 #[v] w fun e w' => e = .returned (.int .i64 (mayT s qs)) ∧ Below w.heap.size w w' := by
  have HT := Lib.hid T
  obtain rfl := T.is
  obtain ⟨W, hW⟩ : ∃ W, (w.alloc (.cells #[.slice a s.length ca, .slice b qs.length cb] 26)) = W := ⟨_, rfl⟩
  have R0 : Row W w.heap.size 26 #[.slice a s.length ca, .slice b qs.length cb] := by rw [← hW]; exact Row.new _ _ _
  have hBW : Below w.heap.size w W := by rw [← hW]; exact (Below.refl _ _).alloc (by simp) _
  obtain ⟨c, hc⟩ : ∃ c, mayT s qs = c := ⟨_, rfl⟩
  have HC := Lib.hid hc
  obtain ⟨m, hm⟩ : ∃ m, mayC s = m := ⟨_, rfl⟩
  have HM := Lib.hid hm
  obtain ⟨t, ht⟩ : ∃ t, countS s = t := ⟨_, rfl⟩
  have HTT := Lib.hid ht
  have q1 := mayR6_any (HT.out.sh.later hBW)
  have q2 := fun X (hX : Below W.heap.size W X) => countR6_any ((HT.out.sh.later hBW).later hX)
  rw [hm] at q1
  rw [ht] at q2
  rw [hc]
  obtain ⟨p0, p1, _, _⟩ := R0.two
  clear T hc hm ht
  have mkS : ∀ X, Below W.heap.size W X → X.cell? ⟨w.heap.size, 0, none⟩ = some (.slice a s.length ca) ∧ X.cell? ⟨w.heap.size, 1, none⟩ = some (.slice b qs.length cb) ∧ Below W.heap.size W X := fun X h => ⟨(R0.later h).cell 0, (R0.later h).cell 1, h⟩
  by_cases h0 : m = 0
  · subst h0
    by_cases hlen : (qs.length : Int) = t
    · have hne : ((qs.length : Int) != t) = false := by simpa using hlen
      have HLN := Lib.hid hlen
      clear hlen
      go_enter Tryz.func13, Tryz.ntmps13
      go_wp2_with (go_at_call 16; refine q1.mono ?_; rintro e w1 ⟨rfl, rfl⟩)
      go_region_held3 (fun X => X.cell? ⟨w.heap.size, 0, none⟩ = some (.slice a s.length ca) ∧ X.cell? ⟨w.heap.size, 1, none⟩ = some (.slice b qs.length cb) ∧ Below W.heap.size W X)
        (((refine mkS _ ?_; (repeat' (first | exact Below.refl _ _ | refine Below.drew ?_)))))
        ((go_at_call 17; (with_reducible refine (q2 _ (show Below W.heap.size W _ by (repeat' (first | exact Below.refl _ _ | refine Below.drew ?_)))).mono ?_); rintro e w' ⟨rfl, rfl⟩))
      clear hne q1 hW
      go_wp2
      go_loopw [4] (fun i wr => ∃ k : Nat, i = .int .i64 (k : Int) ∧ k ≤ qs.length ∧ (∀ q ∈ qs.take k, okQ q = true) ∧ Below W.heap.size W wr) (fun i _ => qs.length - (intOf i).toNat)
      case atStart => exact ⟨0, rfl, Nat.zero_le _, fun q h => by simp at h, by first | exact Below.refl _ _ | exact (Below.refl _ _).drew⟩
      case round =>
        obtain ⟨k, rfl, hk, hall, hb⟩ := hrel
        have r0 := R0.later hb
        obtain ⟨c00, c01, _, _⟩ := r0.two
        have HALL := Lib.hid hall
        clear hall
        by_cases hlt : k < qs.length
        · have hbw := hBW.trans (hb.mono hBW.size)
          obtain ⟨bb, o, x0, x1, x2, q, hbo, hqk, e0, e1, e2, hraw⟩ := (HT.out.el.later hbw (fun v x _ k => k.later hbw)).at hlt
          have hmem := List.mem_of_getElem? hqk
          subst hbo
          obtain ⟨u1, u2, k1, k2, hx, A1, B1, _, _⟩ := hraw
          simp only [Value.agg.injEq, Array.mk.injEq, List.cons.injEq, and_true] at hx
          obtain ⟨rfl, rfl, rfl⟩ := hx
          have hcall := mayR_any (m1 := q.neg) A1 B1 (hl q hmem).1 (hl q hmem).2 (Nat.le_refl _)
          have hltI : (k : Int) < (qs.length : Int) := by omega
          have HQK := Lib.hid hqk
          clear hqk
          have hokd : okQ q = validB q.neg q.num q.den (ratOf q.neg (val q.num) (val q.den)) := rfl
          by_cases hok : okQ q = true
          · rw [← hokd, if_pos hok] at hcall
            have HOK := Lib.hid hok
            clear hok hokd
            go_wp2_with (go_at_call 48; refine hcall.mono ?_; rintro e w2 ⟨rfl, hb2⟩)
            go_roundw
            case rel =>
              refine ⟨k + 1, by go_num, by omega, fun y hy => ?_, hb.trans (hb2.mono hb.size)⟩
              rw [take_nextL HQK.out] at hy
              rcases List.mem_append.1 hy with h | h
              · exact HALL.out y h
              · rw [List.mem_singleton.1 h]; exact HOK.out
            case measure => simp [intOf]; omega
          · have hok2 : okQ q = false := by simpa using hok
            rw [← hokd, if_neg hok] at hcall
            have hcc := mayT_bad HM.out (by rw [HTT.out]; exact HLN.out) hmem hok2
            obtain rfl : c = 6 := by rw [← HC.out]; exact hcc
            clear hok hok2 hokd hcc
            go_wp2_with (go_at_call 48; refine hcall.mono ?_; rintro e w2 ⟨rfl, hb2⟩)
            go_ret
            exact ⟨rfl, hBW.trans ((hb.trans (hb2.mono hb.size)).mono hBW.size)⟩
        · obtain rfl : k = qs.length := by omega
          have hltI : ¬ (qs.length : Int) < (qs.length : Int) := by omega
          have hcc := mayT_ok HM.out (by rw [HTT.out]; exact HLN.out) (by have h := HALL.out; rwa [List.take_length] at h)
          obtain rfl : c = 0 := by rw [← HC.out]; exact hcc
          clear hcc
          go_wp2
          go_ret
          exact ⟨rfl, hBW.trans (hb.mono hBW.size)⟩
    · have hne : ((qs.length : Int) != t) = true := by simpa using hlen
      have hcc := mayT_len HM.out (by rw [HTT.out]; exact hlen)
      obtain rfl : c = 13 := by rw [← HC.out]; exact hcc
      clear hlen hcc
      go_enter Tryz.func13, Tryz.ntmps13
      go_wp2_with (go_at_call 16; refine q1.mono ?_; rintro e w1 ⟨rfl, rfl⟩)
      go_region_held3 (fun X => X.cell? ⟨w.heap.size, 0, none⟩ = some (.slice a s.length ca) ∧ X.cell? ⟨w.heap.size, 1, none⟩ = some (.slice b qs.length cb) ∧ Below W.heap.size W X)
        (((refine mkS _ ?_; (repeat' (first | exact Below.refl _ _ | refine Below.drew ?_)))))
        ((go_at_call 17; (with_reducible refine (q2 _ (show Below W.heap.size W _ by (repeat' (first | exact Below.refl _ _ | refine Below.drew ?_)))).mono ?_); rintro e w' ⟨rfl, rfl⟩))
      go_wp2
      go_ret
      exact ⟨rfl, by first | exact hBW | exact hBW.drew⟩
  · have hcc := mayT_shape (s := s) (qs := qs) (by rw [HM.out]; exact h0)
    obtain rfl : c = m := by rw [← HC.out, hcc]; exact HM.out
    have hne : (c != 0) = true := by simpa using h0
    clear hcc q2
    go_enter Tryz.func13, Tryz.ntmps13
    go_wp2_with (go_at_call 16; refine q1.mono ?_; rintro e w1 ⟨rfl, rfl⟩)
    go_ret
    exact ⟨rfl, hBW⟩
end Go.Proofs.YtnhfjacifajdlaaGreat
