/-
  Layer 8's laws: the helpers few, is, told, first. (Made by wip/gen/gen_plaw0.py.)
-/
import Derived.Test.YtjcacmnmbbnffaaGreatPTwoB
import Derived.Test.YtjcacmnmbbnffaaGreatPRefA
import Derived.Test.YtjcacmnmbbnffaaGreatE6
namespace Go.Proofs.YtjcacmnmbbnffaaGreat
open Go.RowKit
set_option linter.unusedVariables false
set_option linter.unusedSimpArgs false

/-- has a tensor few elements, of few limbs? -/
def fewB (qs : List Q3) : Bool := decide (qs.length ≤ 64) && qs.all fun q => decide (q.num.length ≤ 6) && decide (q.den.length ≤ 6)
theorem fewB_true {qs : List Q3} (h : fewB qs = true) : qs.length ≤ 64 ∧ lensQ qs 6 := by
  unfold fewB at h
  rw [Bool.and_eq_true, decide_eq_true_iff, List.all_eq_true] at h
  refine ⟨h.1, fun q hq => ?_⟩
  have := h.2 q hq
  simpa using this
theorem fewB_ok {qs : List Q3} (h : qs.length ≤ 64) (h2 : ∀ (k : Nat) (q : Q3), qs[k]? = some q → q.num.length ≤ 6 ∧ q.den.length ≤ 6) : fewB qs = true := by
  unfold fewB
  rw [Bool.and_eq_true, decide_eq_true_iff, List.all_eq_true]
  refine ⟨h, fun q hq => ?_⟩
  obtain ⟨k, hk, rfl⟩ := List.mem_iff_getElem.1 hq
  have := h2 k _ (List.getElem?_eq_getElem hk)
  simpa using this
theorem fewB_bad {qs : List Q3} {k : Nat} {q : Q3} (h : qs[k]? = some q) (h2 : ¬ (q.num.length ≤ 6 ∧ q.den.length ≤ 6)) : fewB qs = false := by
  cases e : fewB qs with
  | false => rfl
  | true => exact absurd ((fewB_true e).2 q (List.mem_of_getElem? h)) h2
theorem fewB_long {qs : List Q3} (h : 64 < qs.length) : fewB qs = false := by
  cases e : fewB qs with
  | false => rfl
  | true => exact absurd (fewB_true e).1 (by omega)
set_option maxRecDepth 100000 in
set_option maxHeartbeats 8000000 in
theorem few_any {w : World} {v : Value} {s : List Int} {qs : List Q3} {a b : Option Addr} {ca cb : Nat} (T : TensQ w v s qs a ca b cb) :
    Calls Tryz.prog 11 #[v] w fun e w' => e = .returned (.bool (fewB qs)) ∧ Below w.heap.size w w' := by
  have HT := Lib.hid T
  obtain rfl := T.is
  obtain ⟨t, ht⟩ : ∃ t, fewB qs = t := ⟨_, rfl⟩
  rw [ht]
  have HTT := Lib.hid ht
  clear ht
  obtain ⟨W, hW⟩ : ∃ W, (w.alloc (.cells #[.slice a s.length ca, .slice b qs.length cb] 26)) = W := ⟨_, rfl⟩
  have R0 : Row W (w.heap.size) 26 #[.slice a s.length ca, .slice b qs.length cb] := by rw [← hW]; have h := Row.new w 26 #[.slice a s.length ca, .slice b qs.length cb]; (try simp only [World.size_alloc] at h); exact h
  have hBW : Below w.heap.size w W := by rw [← hW]; exact ((Below.refl _ _).alloc (by (try simp) <;> omega) _)
  have hsW : W.heap.size = w.heap.size + 1 := by rw [← hW]; simp
  obtain ⟨c0, c1, _, _⟩ := R0.two
  clear T
  by_cases hlong : 64 < qs.length
  · obtain rfl : t = false := by rw [← HTT.out]; exact fewB_long hlong
    have hI : (qs.length : Int) > 64 := by omega
    go_enter Tryz.func11, Tryz.ntmps11
    (try rw [hW])
    go_wp2
    go_ret
    exact ⟨rfl, hBW⟩
  · have hI : ¬ (qs.length : Int) > 64 := by omega
    have H0 := Lib.hid R0
    have HB := Lib.hid hBW
    go_enter Tryz.func11, Tryz.ntmps11
    (try rw [hW])
    go_wp2_with fail
    clear c0 c1 R0 hBW hsW hW
    go_loopw [3] (fun i wr => ∃ k : Nat, i = .int .i64 (k : Int) ∧ k ≤ qs.length ∧ (∀ (j : Nat) (q : Q3), j < k → qs[j]? = some q → q.num.length ≤ 6 ∧ q.den.length ≤ 6) ∧ Row wr w.heap.size 26 #[.slice a s.length ca, .slice b qs.length cb] ∧ Below w.heap.size w wr) (fun i _ => qs.length - (intOf i).toNat)
    case atStart => exact ⟨0, rfl, Nat.zero_le _, (fun j q hj => by omega), H0.out, HB.out⟩
    case round =>
      obtain ⟨k, rfl, hk, hall, r0, hb⟩ := hrel
      have HA := Lib.hid hall
      clear hall
      obtain ⟨c0, c1, _, _⟩ := r0.two
      by_cases hlt : k < qs.length
      · obtain ⟨bb, o, x0, x1, x2, q, hbo, hqk, e0, e1, e2, hraw⟩ := (HT.out.el.later hb (fun v x _ k => k.later hb)).at hlt
        subst hbo
        obtain ⟨u1, u2, j1, j2, hraw', _⟩ := id hraw
        simp only [Value.agg.injEq, Array.mk.injEq, List.cons.injEq, and_true] at hraw'
        obtain ⟨rfl, rfl, rfl⟩ := hraw'
        have hltI : (k : Int) < (qs.length : Int) := by omega
        have HQ := Lib.hid hqk
        clear hqk hraw
        obtain ⟨n1, hn1⟩ : ∃ n, q.num.length = n := ⟨_, rfl⟩
        obtain ⟨n2, hn2⟩ : ∃ n, q.den.length = n := ⟨_, rfl⟩
        have HN1 := Lib.hid hn1
        have HN2 := Lib.hid hn2
        rw [hn1] at e1
        rw [hn2] at e2
        clear hn1 hn2
        by_cases h1 : n1 ≤ 6
        · have h1I : ¬ (n1 : Int) > 6 := by omega
          by_cases h2 : n2 ≤ 6
          · have h2I : ¬ (n2 : Int) > 6 := by omega
            go_wp2
            go_roundw
            case rel =>
              refine ⟨k + 1, by go_num, by omega, fun j p hj hp => ?_, r0, hb⟩
              by_cases h : j = k
              · rw [h, HQ.out] at hp
                cases hp
                rw [HN1.out, HN2.out]
                exact ⟨h1, h2⟩
              · exact HA.out j p (by omega) hp
            case measure => simp [intOf]; omega
          · have h2I : (n2 : Int) > 6 := by omega
            obtain rfl : t = false := by rw [← HTT.out]; exact fewB_bad HQ.out (by rw [HN1.out, HN2.out]; omega)
            go_wp2
            go_ret
            exact ⟨rfl, hb⟩
        · have h1I : (n1 : Int) > 6 := by omega
          obtain rfl : t = false := by rw [← HTT.out]; exact fewB_bad HQ.out (by rw [HN1.out, HN2.out]; omega)
          go_wp2
          go_ret
          exact ⟨rfl, hb⟩
      · obtain rfl : k = qs.length := by omega
        have hltI : ¬ (qs.length : Int) < (qs.length : Int) := by omega
        obtain rfl : t = true := by
          rw [← HTT.out]
          exact fewB_ok (by omega) fun j q hq => HA.out j q (by rcases Nat.lt_or_ge j qs.length with g | g; exact g; rw [List.getElem?_eq_none g] at hq; cases hq) hq
        go_wp2
        go_ret
        exact ⟨rfl, hb⟩
/-- an answer: a tensor, or nothing and why -/
def Ans (base : Nat) (w : World) (r : Value) (c : Int) (s : List Int) (L : List Rat) (N : Nat) : Prop := (c = 0 ∧ ResT base w r s L N) ∨ (c ≠ 0 ∧ r = noTensor)
theorem Ans.later {base N : Nat} {w w' : World} {r : Value} {c : Int} {s : List Int} {L : List Rat} (h : Ans base w r c s L N) (hb : Below w.heap.size w w') : Ans base w' r c s L N := h.imp (fun h => ⟨h.1, h.2.later hb⟩) id
theorem Ans.mono {base base' N : Nat} {w : World} {r : Value} {c : Int} {s : List Int} {L : List Rat} (h : Ans base w r c s L N) (hb : base' ≤ base) : Ans base' w r c s L N := h.imp (fun h => ⟨h.1, h.2.mono hb⟩) id
theorem Ans.box {base N : Nat} {w : World} {r : Value} {c : Int} {s : List Int} {L : List Rat} (h : Ans base w r c s L N) : ∃ a b n m ca cb, r = .agg #[.slice a n ca, .slice b m cb] := by
  rcases h with ⟨_, a, b, ca, cb, rfl, _⟩ | ⟨_, rfl⟩
  · exact ⟨_, _, _, _, _, _, rfl⟩
  · exact ⟨_, _, _, _, _, _, rfl⟩
theorem One.ans {base N : Nat} {w : World} {e : Ending} {c : Int} {s : List Int} {L : List Rat} (h : One base w e c s L N) : ∃ a b n m ca cb, e = .returned (.tuple #[.agg #[.slice a n ca, .slice b m cb], .int .i64 c]) ∧ Ans base w (.agg #[.slice a n ca, .slice b m cb]) c s L N := h.shape
/-- a tensor's two cells -/
def BoxT (t : Value) : Prop := ∃ a b n m ca cb, t = .agg #[.slice a n ca, .slice b m cb]
theorem TenR.box {w : World} {v : Value} {s : List Int} {L : List Rat} {n : Nat} (h : TenR w v s L n) : BoxT v := by
  obtain ⟨a, ca, b, cb, h⟩ := h
  exact ⟨a, b, _, _, ca, cb, h.is⟩
theorem allBC_eq {s : List Int} {L : List Rat} {qs : List Q3} (h : qs.map Q3.rat = L) (hok : ∀ q ∈ qs, okQ q = true) : allBC (fun (x : Rat) (q : Q3) => validB q.neg q.num q.den x) s s L qs = true := by
  subst h
  refine allBC_yes rfl (by simp) fun k x q hx hq => ?_
  rw [List.getElem?_map, hq] at hx
  cases hx
  exact hok q (List.mem_of_getElem? hq)
set_option maxRecDepth 100000 in
set_option maxHeartbeats 8000000 in
theorem is_true8 {base n N : Nat} {w : World} {r t : Value} {s : List Int} {L : List Rat} (h : ResT base w r s L N) (ht : TenR w t s L n) (hs : s.length ≤ 17592186044416) (hL : L.length ≤ 1000000) (hn : n ≤ 1000000) (hN : N ≤ 1000000) :
    Calls Tryz.prog 45 #[r, .int .i64 0, t] w fun e w' => e = .returned (.bool true) ∧ Below w.heap.size w w' := by
  obtain ⟨qs, a, b, ca, cb, T, hqs, hl, hok⟩ := h.tens
  obtain ⟨a2, ca2, b2, cb2, U⟩ := ht
  have hlen : qs.length = L.length := by rw [← hqs]; simp
  obtain rfl := T.is
  obtain rfl := U.is
  obtain ⟨W, hW⟩ : ∃ W, ((w.alloc (.cells #[.slice a s.length ca, .slice b qs.length cb] 26)).alloc (.cells #[.slice a2 s.length ca2, .slice b2 L.length cb2] 36)) = W := ⟨_, rfl⟩
  have R0 : Row W (w.heap.size) 26 #[.slice a s.length ca, .slice b qs.length cb] := by rw [← hW]; have h := Row.new w 26 #[.slice a s.length ca, .slice b qs.length cb]; (try simp only [World.size_alloc] at h); exact (h.alloc _)
  have R1 : Row W (w.heap.size + 1) 36 #[.slice a2 s.length ca2, .slice b2 L.length cb2] := by rw [← hW]; have h := Row.new (w.alloc (.cells #[.slice a s.length ca, .slice b qs.length cb] 26)) 36 #[.slice a2 s.length ca2, .slice b2 L.length cb2]; (try simp only [World.size_alloc] at h); exact h
  have hBW : Below w.heap.size w W := by rw [← hW]; exact (((Below.refl _ _).alloc (by (try simp) <;> omega) _).alloc (by (try simp) <;> omega) _)
  have hsW : W.heap.size = w.heap.size + 1 + 1 := by rw [← hW]; simp
  have hi := isT_any (U.later hBW) (T.later hBW) (by omega) (by omega) (by omega) (by omega) (fun q hq => by have := hl q hq; omega)
  rw [allBC_eq hqs hok] at hi
  obtain ⟨c0, c1, _, _⟩ := R0.two
  obtain ⟨c2, c3, _, _⟩ := R1.two
  have HI := Lib.hid hi
  clear T U h hqs hl hok hlen hi
  go_enter Tryz.func45, Tryz.ntmps45
  (try rw [hW])
  go_wp2_with (go_at_call 89; refine HI.out.mono ?_; rintro e w1 ⟨rfl, hb1⟩)
  go_ret
  exact ⟨rfl, hBW.trans (hb1.mono (by omega))⟩
set_option maxRecDepth 100000 in
set_option maxHeartbeats 8000000 in
theorem told_any {base n N : Nat} {w : World} {r t : Value} {c : Int} {s : List Int} {L : List Rat} (h : Ans base w r c s L N) (hb : BoxT t) (ht : c = 0 → TenR w t s L n) (hs : s.length ≤ 17592186044416) (hL : L.length ≤ 1000000) (hn : n ≤ 1000000) (hN : N ≤ 1000000) :
    Calls Tryz.prog 16 #[r, .int .i64 c, t, .int .i64 c] w fun e w' => e = .returned (.bool true) ∧ Below w.heap.size w w' := by
  obtain ⟨a2, b2, n2, m2, ca2, cb2, rfl⟩ := hb
  obtain ⟨a, b, n1, m1, ca, cb, rfl⟩ := h.box
  obtain ⟨W, hW⟩ : ∃ W, ((w.alloc (.cells #[.slice a n1 ca, .slice b m1 cb] 26)).alloc (.cells #[.slice a2 n2 ca2, .slice b2 m2 cb2] 36)) = W := ⟨_, rfl⟩
  have R0 : Row W (w.heap.size) 26 #[.slice a n1 ca, .slice b m1 cb] := by rw [← hW]; have h := Row.new w 26 #[.slice a n1 ca, .slice b m1 cb]; (try simp only [World.size_alloc] at h); exact (h.alloc _)
  have R1 : Row W (w.heap.size + 1) 36 #[.slice a2 n2 ca2, .slice b2 m2 cb2] := by rw [← hW]; have h := Row.new (w.alloc (.cells #[.slice a n1 ca, .slice b m1 cb] 26)) 36 #[.slice a2 n2 ca2, .slice b2 m2 cb2]; (try simp only [World.size_alloc] at h); exact h
  have hBW : Below w.heap.size w W := by rw [← hW]; exact (((Below.refl _ _).alloc (by (try simp) <;> omega) _).alloc (by (try simp) <;> omega) _)
  have hsW : W.heap.size = w.heap.size + 1 + 1 := by rw [← hW]; simp
  obtain ⟨c0, c1, _, _⟩ := R0.two
  obtain ⟨c2, c3, _, _⟩ := R1.two
  rcases h with ⟨rfl, h⟩ | ⟨h0, h⟩
  · have hi := is_true8 (h.later hBW) ((ht rfl).later hBW) hs hL hn hN
    have HI := Lib.hid hi
    clear h ht hi
    go_enter Tryz.func16, Tryz.ntmps16
    (try rw [hW])
    go_wp2_with (go_at_call 45; refine HI.out.mono ?_; rintro e w1 ⟨rfl, hb1⟩)
    go_ret
    exact ⟨rfl, hBW.trans (hb1.mono (by omega))⟩
  · have hne : (c != 0) = true := by simp [h0]
    have hee : (c == c) = true := by simp
    simp only [noTensor, Value.agg.injEq, Array.mk.injEq, List.cons.injEq, Value.slice.injEq, and_true] at h
    obtain ⟨⟨rfl, rfl, rfl⟩, rfl, rfl, rfl⟩ := h
    have hem := emptyT_any (w := W) (.agg #[.slice none 0 0, .slice none 0 0]) none none 0 0 0 0 rfl
    have HM := Lib.hid hem
    clear ht h0 hem
    go_enter Tryz.func16, Tryz.ntmps16
    (try rw [hW])
    go_wp2_with (go_at_call 50; refine HM.out.mono ?_; rintro e w1 ⟨rfl, hb1⟩)
    go_ret
    exact ⟨rfl, hBW.trans (hb1.mono (by omega))⟩
def firstC (s1 s2 : List Int) (q1 q2 : List Q3) : Int := if mayT s1 q1 ≠ 0 then mayT s1 q1 else mayT s2 q2
set_option maxRecDepth 100000 in
set_option maxHeartbeats 8000000 in
theorem first_any {w : World} {u v : Value} {s1 s2 : List Int} {q1 q2 : List Q3} {a1 b1 a2 b2 : Option Addr} {ca1 cb1 ca2 cb2 : Nat} (T1 : TensQ w u s1 q1 a1 ca1 b1 cb1) (T2 : TensQ w v s2 q2 a2 ca2 b2 cb2) (h1 : q1.length ≤ 1000000) (h2 : q2.length ≤ 1000000) (l1 : lensQ q1 1000) (l2 : lensQ q2 1000) :
    Calls Tryz.prog 15 #[u, v] w fun e w' => e = .returned (.int .i64 (firstC s1 s2 q1 q2)) ∧ Below w.heap.size w w' := by
  have HT1 := Lib.hid T1
  have HT2 := Lib.hid T2
  obtain rfl := T1.is
  obtain rfl := T2.is
  obtain ⟨W, hW⟩ : ∃ W, ((w.alloc (.cells #[.slice a1 s1.length ca1, .slice b1 q1.length cb1] 26)).alloc (.cells #[.slice a2 s2.length ca2, .slice b2 q2.length cb2] 26)) = W := ⟨_, rfl⟩
  have R0 : Row W (w.heap.size) 26 #[.slice a1 s1.length ca1, .slice b1 q1.length cb1] := by rw [← hW]; have h := Row.new w 26 #[.slice a1 s1.length ca1, .slice b1 q1.length cb1]; (try simp only [World.size_alloc] at h); exact (h.alloc _)
  have R1 : Row W (w.heap.size + 1) 26 #[.slice a2 s2.length ca2, .slice b2 q2.length cb2] := by rw [← hW]; have h := Row.new (w.alloc (.cells #[.slice a1 s1.length ca1, .slice b1 q1.length cb1] 26)) 26 #[.slice a2 s2.length ca2, .slice b2 q2.length cb2]; (try simp only [World.size_alloc] at h); exact h
  have hBW : Below w.heap.size w W := by rw [← hW]; exact (((Below.refl _ _).alloc (by (try simp) <;> omega) _).alloc (by (try simp) <;> omega) _)
  have hsW : W.heap.size = w.heap.size + 1 + 1 := by rw [← hW]; simp
  have hm1 := mayT_any (HT1.out.later hBW) (by omega) (fun q hq => by have := l1 q hq; omega)
  have hm2 := fun (X : World) (hX : Below W.heap.size W X) => mayT_any (HT2.out.later (hBW.trans (hX.mono (by omega)))) (by omega) (fun q hq => by have := l2 q hq; omega)
  obtain ⟨m1, e1⟩ : ∃ m, mayT s1 q1 = m := ⟨_, rfl⟩
  obtain ⟨m2, e2⟩ : ∃ m, mayT s2 q2 = m := ⟨_, rfl⟩
  have hc : firstC s1 s2 q1 q2 = if m1 ≠ 0 then m1 else m2 := by unfold firstC; rw [e1, e2]
  rw [e1] at hm1
  rw [e2] at hm2
  obtain ⟨c0, c1, _, _⟩ := R0.two
  rw [hc]
  clear e1 e2 hc T1 T2
  by_cases h0 : m1 = 0
  · subst h0
    rw [if_neg (by simp)]
    go_enter Tryz.func15, Tryz.ntmps15
    (try rw [hW])
    go_wp2_with fail
    refine hm1.mono ?_
    rintro e w1 ⟨rfl, hb1⟩
    obtain ⟨d0, d1, _, _⟩ := (R1.later hb1).two
    go_wp2_with fail
    refine (hm2 _ hb1).mono ?_
    rintro e w2 ⟨rfl, hb2⟩
    go_wp2
    go_ret
    exact ⟨rfl, hBW.trans ((hb1.trans (hb2.mono hb1.size)).mono (by omega))⟩
  · have hne : (m1 != 0) = true := by simp [h0]
    rw [if_pos h0]
    go_enter Tryz.func15, Tryz.ntmps15
    (try rw [hW])
    go_wp2_with fail
    refine hm1.mono ?_
    rintro e w1 ⟨rfl, hb1⟩
    go_wp2
    go_ret
    exact ⟨rfl, hBW.trans (hb1.mono (by omega))⟩
end Go.Proofs.YtjcacmnmbbnffaaGreat
