/-
  The reference of layer 6: Next, Indexes, Offset.
-/
import Derived.Test.YthlohkehacnolaaSRefD
import Derived.Test.YthlohkehacnolaaSPart
import Derived.Laws.AppendOwnNone
namespace Go.Proofs.Ythlohkehacnolaa
open Go.RowKit
set_option linter.unusedVariables false
set_option linter.unusedSimpArgs false

/-- append(nil, b..) -/
theorem step_copyS {ops : Array Oper} {rest : List Oper} {o : Oper} {a : Act} {w : World} {Q : Exit → Act → World → Prop} (hg : o.guard = none) (t : Nat) (T : TypeId) (hT : Try.prog.underlying T = some (.slice 3))
    (hop : o.op = Op.call { callee := Callee.builtin Builtin.append, args := #[Operand.const (.slice none 0 0), Operand.tmp t], argTypes := #[T, T] }) {xs : List Int} {ad : Option Addr} {cap : Nat} {u : Value} (hx : a.eval (.tmp t) = u)
    (hA : ArgS w u xs ad cap) (hn : ad = none → cap = 0) (hl : xs.length ≤ 17592186044416)
    (h : ∀ v' w1, ResS w.heap.size w1 v' xs → Below w.heap.size w w1 → wpList Try.prog ops Q rest (a.put o.dst v') w1) : wpList Try.prog ops Q (o :: rest) a w := by
  obtain ⟨i0, hi, hz0, hz1, hz2⟩ := info_parts infoS
  have hnil := World.ownsRow_nil w w.heap.size 3 1
  obtain ⟨rfl, lx, hle, wx⟩ := hA
  cases ad with
  | none =>
    have hc := hn rfl
    subst hc
    have hxs : xs = [] := List.eq_nil_of_length_eq_zero (by omega)
    subst hxs
    exact wpList_append_own_none hg (.const (.slice none 0 0)) (.tmp t) T hop w.heap.size 3 i0 1 hT hi (.slice none 0 0) 0 [] rfl hnil hx (h _ _ ⟨hnil, wx⟩ (Below.refl _ _))
  | some ad =>
    refine wpList_append_own w hg (.const (.slice none 0 0)) (.tmp t) T hop w.heap.size 3 i0 (.int .i64 0) 1 8 hT hi hz0 hz1 hz2 rfl (by decide) (.slice none 0 0) 0 [] rfl hnil ad xs.length cap (xs.map (Value.int .i64)) hx (by simp) (cells_argS (cap := cap) lx) (ints_oneCell _ _) (by unfold maxLen; omega) (by omega) (Nat.le_refl _) ?_
    intro v' w1 hown hgrow _
    refine h v' w1 ⟨?_, wx⟩ ((Below.refl _ w).grown hgrow (Nat.le_refl _) (fun k hk => by cases hk))
    unfold NumS
    simpa using hown

theorem zeros_wid (n : Nat) : Wid (List.replicate n 0) := fun x hx => by rw [List.eq_of_mem_replicate hx]; omega
theorem inS_wid {s xs : List Int} (h : inS s xs) (hs : Wid s) : Wid xs := by
  intro x hx
  obtain ⟨i, hi, rfl⟩ := List.getElem_of_mem hx
  have hl := inS_length h
  have h1 := inS_at h (i := i) (by omega)
  have h2 := hs.getD i
  have e : xs.getD i 0 = xs[i] := by simp [hi]
  rw [e] at h1
  omega
/-- the list behind the rounds of Next -/
theorem back_at {xs : List Int} {L m : Nat} (hl : xs.length = L) (hm : m < L) : (xs.take (m + 1) ++ List.replicate (L - (m + 1)) 0).length = L ∧ (xs.take (m + 1) ++ List.replicate (L - (m + 1)) (0 : Int)).getD m 0 = xs.getD m 0 ∧
    ∀ y : Int, (xs.take (m + 1) ++ List.replicate (L - (m + 1)) (0 : Int)).set m y = xs.take m ++ (y :: List.replicate (L - (m + 1)) 0) := by
  have h1 : (xs.take (m + 1)).length = m + 1 := by rw [List.length_take]; omega
  refine ⟨by rw [List.length_append, h1, List.length_replicate]; omega, ?_, fun y => ?_⟩
  · rw [List.getD_eq_getElem?_getD, List.getElem?_append_left (by omega), List.getElem?_take, if_pos (by omega), List.getD_eq_getElem?_getD]
  · rw [take_next (by omega), List.append_assoc, List.set_append_right _ _ (by rw [List.length_take]; omega), List.length_take, Nat.min_eq_left (by omega), Nat.sub_self]
    rfl

/-- what Next answers -/
def NextP (base : Nat) (w : World) (s xs : List Int) (r : Value) (t : Bool) : Prop := (∃ ys, nextS s xs = some ys ∧ t = true ∧ ResS base w r ys) ∨ (nextS s xs = none ∧ t = false)
def NextA (base : Nat) (w : World) (s xs : List Int) (e : Ending) : Prop := ∃ r t, e = .returned (.tuple #[r, .bool t]) ∧ NextP base w s xs r t
set_option maxRecDepth 100000 in
set_option maxHeartbeats 4000000 in
theorem nextR_any {u v : Value} {s xs : List Int} {a b : Option Addr} {ca cb : Nat} {w : World} (A : ArgS w u s a ca) (B : ArgS w v xs b cb) (hn : b = none → cb = 0) (ok : OkS s) (hin : inS s xs) :
    Calls Try.prog 43 #[u, v] w fun e w' => NextA w.heap.size w' s xs e ∧ Below w.heap.size w w' := by
  have HA := Lib.hid A
  have HB := Lib.hid B
  have HO := Lib.hid ok
  have HI := Lib.hid hin
  have hlen := inS_length hin
  have HN := Lib.hid hn
  have B' := B
  obtain rfl := A.is
  obtain rfl := B.is
  obtain ⟨L, hL⟩ : ∃ L, s.length = L := ⟨_, rfl⟩
  have hL2 : xs.length = L := by rw [hlen]; exact hL
  have HL := Lib.hid hL
  have HL2 := Lib.hid hL2
  have h4 : L ≤ 4 := by rw [← hL]; exact ok.rank
  rw [hL2] at B'
  rw [hL, hL2]
  clear A B ok hin hlen hn hL hL2
  go_enter Try.func43, Try.ntmps43
  go_wp2_with (at_builtin; refine step_copyS rfl _ 22 Try.underlying22 rfl rfl B' HN.out (by have := HL2.out; omega) ?_; intro r w1 R1 hb1)
  have hs1 := hb1.size
  rcases Nat.eq_zero_or_pos L with h0 | hpos
  · subst h0
    have e1 : s = [] := List.eq_nil_of_length_eq_zero HL.out
    have e2 : xs = [] := List.eq_nil_of_length_eq_zero HL2.out
    subst e1
    subst e2
    have HR := Lib.hid R1
    clear R1 B'
    go_wp2
    go_loop [7] (fun i => i = .int .i64 (-1)) (fun _ => 0)
    case atStart => first | rfl | trivial
    case round =>
      subst hrel
      go_wp2
      go_ret2
      exact ⟨⟨_, _, rfl, .inr ⟨rfl, rfl⟩⟩, hb1⟩
  · have hne : xs ≠ [] := by intro e; rw [e] at HL2; have := HL2.out; simp at this; omega
    obtain ⟨g, cap, rfl, hg, hcap, hP⟩ := R1.num.partS hne
    have hLI : (1 : Int) ≤ (L : Int) := by omega
    have hL4 : (L : Int) ≤ 4 := by omega
    have HCP := Lib.hid hcap
    have HP0 := Lib.hid hP
    have hLcap : (xs.length : Nat) = L := HL2.out
    rw [hLcap]
    clear R1 B' hne hP hcap hLcap
    go_wp2
    go_loopw [7] (fun i wr => ∃ j : Nat, i = .int .i64 ((j : Int) - 1) ∧ j ≤ L ∧ PartS wr g cap (xs.take j ++ List.replicate (L - j) 0) ∧ nextS (s.drop j) (xs.drop j) = none ∧ Below w.heap.size w wr) (fun i _ => (intOf i + 1).toNat)
    case atStart =>
      refine ⟨L, by go_num, Nat.le_refl _, ?_, ?_, hb1⟩
      · rw [take_all HL2.out, Nat.sub_self]; simpa using HP0.out
      · rw [List.drop_of_length_le (by rw [HL.out]; exact Nat.le_refl _)]; rfl
    case round =>
      obtain ⟨j, rfl, hjL, hp, hnx, hb⟩ := hrel
      have hsz := hb.size
      have HNX := Lib.hid hnx
      clear hnx
      rcases Nat.eq_zero_or_pos j with h0 | hj
      · subst h0
        have hi : (((0 : Nat) : Int) - 1) = -1 := by omega
        rw [hi]
        have HNX2 := Lib.hid (show nextS s xs = none by have := HNX.out; simpa using this)
        clear hp
        go_wp2
        go_ret2
        exact ⟨⟨_, _, rfl, .inr ⟨HNX2.out, rfl⟩⟩, hb⟩
      · obtain ⟨m, rfl⟩ : ∃ m, j = m + 1 := ⟨j - 1, by omega⟩
        have hi : (((m + 1 : Nat) : Int) - 1) = (m : Int) := by omega
        rw [hi]
        obtain ⟨l1, l2, l3⟩ := back_at (xs := xs) (L := L) (m := m) HL2.out (by omega)
        have hc := hp.cell m (by omega)
        have hf := hp.free m
        rw [l2] at hc
        obtain ⟨b1, o1, rfl, hc1⟩ := (HA.out.later hb).at (i := m) (by rw [HL.out]; omega)
        have hx := inS_at HI.out (i := m) (by rw [HL.out]; omega)
        have hle := getD_le_prod HO.out.pos (k := m) (by rw [HL.out]; omega)
        have hfew := HO.out.few
        have hnd := next_drop (s := s) (xs := xs) (by rw [HL.out, HL2.out]) (i := m) (by rw [HL.out]; omega) HNX.out
        obtain ⟨x, hxe⟩ : ∃ x, xs.getD m 0 = x := ⟨_, rfl⟩
        obtain ⟨d, hde⟩ : ∃ d, s.getD m 0 = d := ⟨_, rfl⟩
        rw [hxe] at hc hx hnd
        rw [hde] at hc1 hx hle hnd
        rw [HL.out] at hnd
        obtain ⟨hx0, hx1⟩ := hx
        have hdI : d ≤ 1024 := by omega
        have hmL : 0 ≤ (m : Int) ∧ (m : Int) < (L : Int) := by omega
        have hm0 : (0 : Int) ≤ (m : Int) := by omega
        have hmLI : (m : Int) < (L : Int) := by omega
        have HPT := Lib.hid hp
        have HL3 := Lib.hid l3
        have HL1 := Lib.hid l1
        have HND := Lib.hid hnd
        clear hxe hde hle hfew hnd hp l1 l2 l3
        by_cases hlt : x + 1 < d
        · have hset := HPT.out.set m (by rw [HL1.out]; omega) (x + 1)
          rw [HL3.out] at hset
          have hnext : nextS s xs = some (xs.take m ++ ((x + 1) :: List.replicate (L - (m + 1)) 0)) := by
            refine next_some (by rw [HL.out, HL2.out]) (by rw [HL.out]; omega) ?_
            rw [HND.out, if_pos hlt]
          have HSET := Lib.hid hset
          have HNE := Lib.hid hnext
          clear hset hnext
          go_wp2
          go_quiet (fail)
          go_wp2
          go_ret2
          refine ⟨⟨_, _, rfl, .inl ⟨_, HNE.out, rfl, ?_⟩⟩, ?_⟩
          · have hq : PartS ((wr.drewN nq).setCell ⟨g, m, none⟩ (.int .i64 (x + 1))) g cap (xs.take m ++ ((x + 1) :: List.replicate (L - (m + 1)) 0)) := by
              have h1 : PartS (wr.drewN nq) g cap (xs.take (m + 1) ++ List.replicate (L - (m + 1)) 0) := HPT.out.same rfl
              have h2 := h1.set m (by rw [HL1.out]; omega) (x + 1)
              rwa [HL3.out] at h2
            have hlen : (xs.take m ++ ((x + 1) :: List.replicate (L - (m + 1)) 0)).length = L := by
              have := HL1.out
              have h3 := congrArg List.length (HL3.out (x + 1))
              rw [List.length_set] at h3
              omega
            have hnum := hq.num hg HCP.out
            rw [hlen] at hnum
            refine ⟨hnum, ?_⟩
            have hw1 : Wid xs := HB.out.wf
            refine (hw1.take m).append ?_
            intro y hy
            rcases List.mem_cons.1 hy with h | h
            · omega
            · exact zeros_wid _ y h
          · exact (hb.trans (belowS_drew _ _ _)).setCell (p := ⟨g, m, none⟩) hg _
        · have hset := HPT.out.set m (by rw [HL1.out]; omega) 0
          rw [HL3.out] at hset
          go_wp2
          go_quiet (fail)
          go_wp2
          go_roundw
          case rel =>
            refine ⟨m, by go_num, by omega, ?_, by rw [HND.out, if_neg (by omega)], (hb.trans (belowS_drew _ _ _)).setCell (p := ⟨g, m, none⟩) hg _⟩
            have h1 : PartS (wr.drewN nq) g cap (xs.take (m + 1) ++ List.replicate (L - (m + 1)) 0) := HPT.out.same rfl
            have h2 := h1.set m (by rw [HL1.out]; omega) 0
            rw [HL3.out] at h2
            rw [show L - m = (L - (m + 1)) + 1 by omega, List.replicate_succ]
            exact h2
          case measure => simp [intOf] <;> omega
end Go.Proofs.Ythlohkehacnolaa
