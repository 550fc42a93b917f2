/-
  Contracts of the reference: digit, trim, Small, Add, Times.
-/
import Derived.Test.YteinfanfhgpciaaValD
namespace Go.Proofs.Yteinfanfhgpciaa
open Go.RowKit

theorem infoInt : (Try.prog.info? 3).map (fun i => (i.zero, i.size, i.bytes)) = some (some (.int .i64 0), 1, 8) := by kernel_rfl
theorem getD_wfD {xs : List Int} (h : WfD xs) (k : Nat) : 0 ≤ xs.getD k 0 ∧ xs.getD k 0 < 10000 := h.getD k

set_option maxHeartbeats 400000 in
theorem digit_any (ad : Option Addr) (xs : List Int) (cap k : Nat) (x : Int) (w : World) (hl : LimI w ad xs) (hm : xs.length ≤ 1099511627776) (hx : xs.getD k 0 = x) :
    Calls Try.prog 40 #[.slice ad xs.length cap, .int .i64 k] w fun e w' => e = .returned (.int .i64 x) ∧ w = w' := by
  subst hx
  by_cases hk : k < xs.length
  · rcases hl with rfl | ⟨b, off, rfl, hc⟩
    · simp at hk
    · have hck := hc k hk
      clear hc
      go_enter Try.func40, Try.ntmps40
      go_wp2
      go_ret
      refine ⟨?_, rfl⟩
      simp [hk]
  · go_enter Try.func40, Try.ntmps40
    go_wp2
    go_ret
    refine ⟨?_, rfl⟩
    simp [List.getElem?_eq_none (Nat.le_of_not_lt hk)]

set_option maxHeartbeats 400000 in
theorem trimD_any (ad : Option Addr) (xs : List Int) (cap : Nat) (w : World) (hl : LimI w ad xs) (hm : xs.length ≤ 1099511627776) (hcap : xs.length ≤ cap) :
    Calls Try.prog 48 #[.slice ad xs.length cap] w fun e w' => e = .returned (.slice ad (trimN xs xs.length) cap) ∧ w = w' := by
  go_enter Try.func48, Try.ntmps48
  go_wp2
  go_loop [3] (fun n => ∃ j : Nat, j ≤ xs.length ∧ n = .int .i64 j ∧ trimN xs j = trimN xs xs.length) (fun n => (intOf n).toNat)
  case atStart => exact ⟨xs.length, Nat.le_refl _, rfl, rfl⟩
  case round =>
    obtain ⟨j, hj, rfl, ht⟩ := hrel
    have HT := Lib.hid ht
    clear ht
    rcases j with _ | m
    · have h0 : trimN xs xs.length = 0 := HT.out.symm
      go_wp2
      go_ret
      exact ⟨rfl, rfl⟩
    · rcases hl with rfl | ⟨b, off, rfl, hc⟩
      · simp at hj
      · have hck := hc m (by omega)
        clear hc
        go_wp2
        · have hz : xs.getD m 0 = 0 := by
            have h : (xs[m]?.getD 0 == 0) = true := by assumption
            simpa using h
          go_round
          case rel => exact ⟨m, by omega, by go_num, by rw [← HT.out]; simp only [trimN]; rw [if_pos hz]⟩
          case measure => simp [intOf]
        · have hz : xs.getD m 0 ≠ 0 := by
            have h : (xs[m]?.getD 0 == 0) = false := by assumption
            simpa using h
          have ht : trimN xs xs.length = m + 1 := by rw [← HT.out]; simp only [trimN]; rw [if_neg hz]
          go_ret
          exact ⟨by rw [ht]; simp, rfl⟩
theorem trimD_num {base : Nat} {v : Value} {xs : List Int} {w : World} (h : NumI base w v xs) (hm : xs.length ≤ 1099511627776) :
    Calls Try.prog 48 #[v] w fun e w' => ∃ u, e = .returned u ∧ NumI base w u (trim xs) ∧ w = w' := by
  obtain ⟨ad, cap, rfl, hl, hc, _, _⟩ := h.read
  exact (trimD_any ad xs cap w hl hm hc).mono fun e w' ⟨he, hw⟩ => ⟨_, he, h.cut, hw⟩

theorem push_num {base : Nat} {w wr w1 : World} {v v' : Value} {ds : List Int} {d : Int} {o : Obj} (hb : Below base w wr) (hbase : base ≤ wr.heap.size) (hown : NumI base wr v ds)
    (hown' : w1.ownsRow base 3 1 v' (ds.length + 1) (ds.map (Value.int .i64) ++ [Value.int .i64 d])) (hgrow : (wr.alloc o).grownBy w1 v.ownBlock) : NumI base w1 v' (ds ++ [d]) ∧ Below base w w1 := by
  refine ⟨?_, (hb.alloc hbase o).grown hgrow (by simp; omega) (fun k hk => (hown.lt k hk).1)⟩
  unfold NumI
  rw [List.length_append, List.map_append]
  exact hown'

theorem full_snoc (l : List Int) {x : Int} (h : x ≠ 0) : trimN (l ++ [x]) (l ++ [x]).length = (l ++ [x]).length := by
  rw [List.length_append]
  show trimN (l ++ [x]) (l.length + 1) = l.length + 1
  unfold trimN
  rw [if_neg]
  simpa using h
theorem valD_snoc (l : List Int) (x : Int) : valD (l ++ [x]) = valD l + 10000 ^ l.length * x := by
  rw [val_appendD]
  simp [valD]
theorem WfD.snoc {l : List Int} (h : WfD l) {x : Int} (hx : 0 ≤ x ∧ x < 10000) : WfD (l ++ [x]) := h.append (WfD.cons hx WfD.nil)

/-- how far Small has come -/
def SmallI (len : Nat) (m : Int) : Prop := (len = 0 ∧ m < 1000000000000) ∨ (len = 1 ∧ m < 100000000) ∨ (len = 2 ∧ m < 10000) ∨ (len = 3 ∧ m = 0)

/-- a result of the reference: the number n, told in its one way -/
structure ResD (base : Nat) (w : World) (u : Value) (zs : List Int) (n : Int) : Prop where
  num : NumI base w u zs
  wf : WfD zs
  full : trimN zs zs.length = zs.length
  eq : valD zs = n
theorem ResD.later {base : Nat} {w w' : World} {u : Value} {zs : List Int} {n : Int} (h : ResD base w u zs n) (hb : Below w.heap.size w w') : ResD base w' u zs n := ⟨h.num.later hb, h.wf, h.full, h.eq⟩
theorem ResD.unique {base base' : Nat} {w w' : World} {u u' : Value} {zs zs' : List Int} {n : Int} (h : ResD base w u zs n) (h' : ResD base' w' u' zs' n) : zs = zs' :=
  canonD h.wf h'.wf h.full h'.full (h.eq.trans h'.eq.symm)

set_option maxHeartbeats 1000000 in
theorem small_any (N : Int) (w : World) (hN : 0 ≤ N) (hN2 : N < 1000000000000) :
    Calls Try.prog 17 #[.int .i64 N] w fun e w' => ∃ u, e = .returned u ∧ ∃ zs, ResD w.heap.size w' u zs N ∧ zs.length ≤ 3 ∧ Below w.heap.size w w' := by
  obtain ⟨i0, hi, hz0, hz1, hz2⟩ := info_parts infoInt
  go_enter Try.func17, Try.ntmps17
  go_wp2
  go_loopw [0, 3] (fun n s wr => ∃ (m : Int) (ds : List Int) (v : Value), n = .int .i64 m ∧ v = s ∧ 0 ≤ m ∧ SmallI ds.length m ∧ NumI w.heap.size wr v ds ∧ WfD ds ∧ valD ds + 10000 ^ ds.length * m = N ∧ (m = 0 → trimN ds ds.length = ds.length) ∧ Below w.heap.size w wr) (fun n _ _ => (intOf n).toNat)
  case atStart => exact ⟨N, [], _, rfl, rfl, hN, .inl ⟨rfl, hN2⟩, World.ownsRow_nil _ _ _ _, WfD.nil, by simp [valD], fun _ => rfl, Below.refl _ _⟩
  case round =>
    obtain ⟨m, ds, v, rfl, rfl, hm, hs, hown, hwf, hval, hfull, hb⟩ := hrel
    have hsz := hb.size
    have HV := Lib.hid hval
    have HF := Lib.hid hfull
    have HS := Lib.hid hs
    have HO := Lib.hid hown
    have hrow : wr.ownsRow w.heap.size 3 1 v ds.length (ds.map (Value.int .i64)) := hown
    have hlen : ds.length ≤ 3 := by rcases hs with h | h | h | h <;> omega
    have hm2 : m < 1000000000000 := by rcases hs with h | h | h | h <;> omega
    clear hval hfull hs hown
    by_cases hpos : 0 < m
    · go_wp2_with (at_builtin; refine wpList_append_own _ rfl _ _ 30 rfl w.heap.size 3 i0 (.int .i64 0) 1 8 Try.underlying30 hi hz0 hz1 hz2 rfl (by decide) _ _ _ rfl (hrow.alloc _) ⟨wr.heap.size, 0, none⟩ 1 1 [.int .i64 (m % 10000)] rfl rfl (cell_one_new _ _ _) (by simp [Value.oneCell']) (by unfold maxLen; omega) (by omega) (by simp; omega) ?_; intro v' w1 hown' hgrow _)
      go_roundw
      case rel =>
        obtain ⟨hn, hbw⟩ := push_num hb hsz HO.out hown' hgrow
        refine ⟨m / 10000, ds ++ [m % 10000], v', rfl, rfl, by omega, ?_, hn, hwf.snoc (by omega), ?_, fun h0 => full_snoc ds (by omega), hbw⟩
        · rw [List.length_append, List.length_singleton]
          rcases HS.out with h | h | h | h
          · exact .inr (.inl ⟨by omega, by omega⟩)
          · exact .inr (.inr (.inl ⟨by omega, by omega⟩))
          · exact .inr (.inr (.inr ⟨by omega, by omega⟩))
          · omega
        · rw [valD_snoc, List.length_append, List.length_singleton, Int.pow_succ]
          have h1 := HV.out
          have h2 : m % 10000 + 10000 * (m / 10000) = m := by omega
          generalize m % 10000 = r at *
          generalize m / 10000 = q at *
          generalize (10000 : Int) ^ ds.length = P at *
          grind
      case measure => simp [intOf]; omega
    · have h0 : m = 0 := by omega
      subst h0
      go_wp2
      go_ret
      exact ⟨_, rfl, ds, ⟨HO.out, hwf, (by have h := HF.out; simpa using h), by have := HV.out; simpa using this⟩, hlen, hb⟩
end Go.Proofs.Yteinfanfhgpciaa
