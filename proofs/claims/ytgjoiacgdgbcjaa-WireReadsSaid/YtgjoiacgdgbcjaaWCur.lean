/-
  bytes.Clone; the cursor: New, At, Left, End, next, take.
-/
import Derived.Test.YtgjoiacgdgbcjaaWCat
import Derived.Lib.SliceRun
namespace Go.Proofs.Ytgjoiacgdgbcjaa
open Go.RowKit
set_option linter.unusedVariables false
set_option linter.unusedSimpArgs false

/-- a block known whole -/
def RowB (w : World) (g : Nat) (t : TypeId) (cs : Array Value) : Prop := w.heap[g]? = some (.cells cs t (0, 0))
theorem RowB.new (w : World) (t : TypeId) (cs : Array Value) : RowB (w.alloc (.cells cs t)) w.heap.size t cs := heap_alloc_new w _
theorem RowB.lt {w : World} {g : Nat} {t : TypeId} {cs : Array Value} (h : RowB w g t cs) : g < w.heap.size := lt_of_block h
theorem RowB.cell {w : World} {g : Nat} {t : TypeId} {cs : Array Value} (h : RowB w g t cs) (i : Nat) : w.cell? ⟨g, i, none⟩ = cs[i]? := cell_of_row w g i cs t (0, 0) h
theorem RowB.free {w : World} {g : Nat} {t : TypeId} {cs : Array Value} (h : RowB w g t cs) (i : Nat) : w.frozen? ⟨g, i, none⟩ = false := frozen_of_row w g i cs t h
theorem RowB.below {w w' : World} {g B : Nat} {t : TypeId} {cs : Array Value} (h : RowB w g t cs) (hb : Below B w w') (hg : g < B) : RowB w' g t cs := (hb.block g hg).trans h
theorem RowB.later {w w' : World} {g : Nat} {t : TypeId} {cs : Array Value} (h : RowB w g t cs) (hb : Below w.heap.size w w') : RowB w' g t cs := h.below hb h.lt
theorem RowB.set {w : World} {g : Nat} {t : TypeId} {cs : Array Value} (h : RowB w g t cs) (i : Nat) (u : Value) : RowB (w.setCell ⟨g, i, none⟩ u) g t (cs.setIfInBounds i u) := heap_setCell_same w g i cs t u h
theorem RowB.far {w : World} {g : Nat} {t : TypeId} {cs : Array Value} (h : RowB w g t cs) {p : Addr} (hp : g ≠ p.block) (u : Value) : RowB (w.setCell p u) g t cs := (Below.heap_setCell w p u g hp).trans h
theorem RowB.kept {w w' : World} {g r : Nat} {t : TypeId} {cs : Array Value} (h : RowB w g t cs) (k : KeptC r w w') (hg : g ≠ r) : RowB w' g t cs := (k.block g h.lt hg).trans h
theorem RowB.alloc {w : World} {g : Nat} {t : TypeId} {cs : Array Value} (h : RowB w g t cs) (o : Obj) : RowB (w.alloc o) g t cs := (Below.heap_alloc _ _ _ h.lt).trans h

set_option maxRecDepth 100000 in
set_option maxHeartbeats 2000000 in
theorem clone_any {u : Value} {xs : List Int} {ad : Option Addr} {cap : Nat} {w : World} (A : ArgB w u xs ad cap) (hn : ad = none → cap = 0) (hx : xs.length ≤ 140737488355328) :
    Calls Try.prog 34 #[u] w fun e w' => ∃ r, e = .returned r ∧ ResB w.heap.size w' r xs ∧ Below w.heap.size w w' := by
  obtain ⟨i0, hi, hz0, hz1, hz2⟩ := info_parts infoByte
  have q22 : ∀ (w : World) (a : Option Addr) (n c n' c' : Nat), (binOp .eql 22 (.slice a n c) (.slice none n' c')).run Try.prog w = .ok (.bool a.isNone) w := fun w a n c n' c' => Lib.run_eql_slice_nil w _ _ a n c n' c' Try.underlying22
  have HW := Lib.hid A.wf
  obtain ⟨rfl, lx, hle, wx⟩ := A
  clear wx
  cases ad with
  | none =>
    have hc := hn rfl
    subst hc
    obtain rfl : xs = [] := List.eq_nil_of_length_eq_zero (by omega)
    clear lx hle hn hx
    go_enter Try.func34, Try.ntmps34
    go_wp2
    go_ret
    exact ⟨_, rfl, ResB.nil _ _, Below.refl _ _⟩
  | some a =>
    have HC := Lib.hid (cells_argB (cap := cap) (lx.later ((Below.refl w.heap.size w).alloc (Nat.le_refl _) (.cells #[] 5))))
    clear lx hn
    go_enter Try.func34, Try.ntmps34
    go_wp2_with (at_builtin; refine wpList_append_own _ rfl _ _ 22 rfl w.heap.size 5 i0 (.int .u8 0) 1 1 Try.underlying22 hi hz0 hz1 hz2 rfl (by decide) _ _ _ rfl (World.ownsRow_made w #[] 0 (Nat.le_refl _) (Nat.zero_le _) rfl) a xs.length cap (xs.map (Value.int .u8)) rfl ?qc1 HC.out (ints_oneCell _ _) ?qc4 ?qc5 ?qc6 ?_)
    case qc1 => simp
    case qc4 => unfold maxLen; omega
    case qc5 => omega
    case qc6 => simp
    intro v' w1 hown hgrow hnil
    go_wp2
    go_ret
    refine ⟨v', rfl, ⟨?_, HW.out⟩, ?_⟩
    · unfold NumB; simpa using hown
    · exact ((Below.refl _ w).alloc (Nat.le_refl _) _).grown hgrow (by simp) (by intro k hk; simp [Value.ownBlock] at hk; omega)

/-- a cursor over the bytes b, that has read p of them: block g, and its bytes, are new since base -/
structure Cur (base : Nat) (w : World) (g : Nat) (b : List Int) (p : Nat) : Prop where
  new : base ≤ g
  row : ∃ ad cap, RowB w g 58 #[.slice ad b.length cap, .int .i64 (p : Int)] ∧ ResB base w (.slice ad b.length cap) b ∧ (∀ a, ad = some a → a.block ≠ g) ∧ (ad = none → cap = 0)
  le : p ≤ b.length
  few : b.length ≤ 140737488355328
theorem Cur.facts {base g p : Nat} {w : World} {b : List Int} (h : Cur base w g b p) : base ≤ g ∧ g < w.heap.size ∧ Byt b ∧ p ≤ b.length := by
  obtain ⟨ad, cap, R, N, _⟩ := h.row
  exact ⟨h.new, R.lt, N.wf, h.le⟩
theorem Cur.later {base g p : Nat} {w w' : World} {b : List Int} (h : Cur base w g b p) (hb : Below w.heap.size w w') : Cur base w' g b p := by
  obtain ⟨ad, cap, R, N, h1, h2⟩ := h.row
  exact ⟨h.new, ⟨ad, cap, R.later hb, N.later hb, h1, h2⟩, h.le, h.few⟩
theorem Cur.kept {base g r p : Nat} {w w' : World} {b : List Int} (h : Cur base w g b p) (k : KeptC r w w') (hr : r < base) : Cur base w' g b p := by
  obtain ⟨ad, cap, R, N, h1, h2⟩ := h.row
  have hg := h.new
  refine ⟨h.new, ⟨ad, cap, R.kept k (by omega), ⟨?_, N.wf⟩, h1, h2⟩, h.le, h.few⟩
  obtain ⟨n1, n2⟩ := N.num
  refine ⟨n1, ?_⟩
  rcases n2 with n2 | ⟨q, c, cur, e, hq, hh, hrest⟩
  · exact .inl n2
  · exact .inr ⟨q, c, cur, e, hq, (k.block q (lt_of_block hh) (by omega)).trans hh, hrest⟩
/-- the cursor stands elsewhere -/
theorem Cur.move {base g p : Nat} {w : World} {b : List Int} (h : Cur base w g b p) (q : Nat) (hq : q ≤ b.length) : Cur base (w.setCell ⟨g, 1, none⟩ (.int .i64 (q : Int))) g b q := by
  obtain ⟨ad, cap, R, N, h1, h2⟩ := h.row
  refine ⟨h.new, ⟨ad, cap, R.set 1 _, ⟨?_, N.wf⟩, h1, h2⟩, hq, h.few⟩
  obtain ⟨n1, n2⟩ := N.num
  refine ⟨n1, ?_⟩
  rcases n2 with n2 | ⟨q, c, cur, e, hq, hh, hrest⟩
  · exact .inl n2
  · simp only [Value.slice.injEq] at e
    have := h1 _ e.1
    exact .inr ⟨q, c, cur, by simp only [Value.slice.injEq]; exact e, hq, (Below.heap_setCell w _ _ q (by exact this)).trans hh, hrest⟩
/-- the byte ahead -/
theorem Cur.byte {base g p : Nat} {w : World} {b : List Int} (h : Cur base w g b p) (hp : p < b.length) : ∃ bl off cap, RowB w g 58 #[.slice (some ⟨bl, off, none⟩) b.length cap, .int .i64 (p : Int)] ∧ w.cell? ⟨bl, off + p, none⟩ = some (.int .u8 (b.getD p 0)) := by
  obtain ⟨ad, cap, R, N, h1, h2⟩ := h.row
  obtain ⟨ad', cap', e, l2, _⟩ := N.num.read
  simp only [Value.slice.injEq] at e
  obtain ⟨rfl, _, rfl⟩ := e
  rcases l2 with rfl | ⟨bl, off, rfl, hc⟩
  · simp at hp
  · exact ⟨bl, off, cap, R, hc p hp⟩

set_option maxHeartbeats 1000000 in
theorem newC_any {u : Value} {xs : List Int} {ad : Option Addr} {cap : Nat} {w : World} (A : ArgB w u xs ad cap) (hn : ad = none → cap = 0) (hx : xs.length ≤ 140737488355328) :
    Calls Try.prog 18 #[u] w fun e w' => ∃ g, e = .returned (.pointer (some ⟨g, 0, none⟩)) ∧ Cur w.heap.size w' g xs 0 ∧ Below w.heap.size w w' := by
  have hc := clone_any A hn hx
  have HX := Lib.hid hx
  obtain rfl := A.is
  clear A hx hn
  go_enter Try.func18, Try.ntmps18
  go_wp2_with fail
  refine hc.mono ?_
  rintro e w1 ⟨r, rfl, N, hb⟩
  obtain ⟨bd, cb, rfl, N', B, hbn⟩ := N.slice
  have hs := hb.size
  clear hc N
  go_wp2
  go_ret
  have hb2 := hb.alloc hs (.cells #[.slice bd xs.length cb, .int .i64 0] 58)
  refine ⟨w1.heap.size, rfl, ⟨hs, ⟨bd, cb, RowB.new _ _ _, N'.later ((Below.refl _ _).alloc (Nat.le_refl _) _), fun a ha => ?_, hbn⟩, Nat.zero_le _, HX.out⟩, hb2⟩
  subst ha
  have := N'.num.lt a.block rfl
  omega

theorem belowN (B : Nat) (w : World) (n : Nat) : Below B w (w.drewN n) := by
  induction n with
  | zero => exact Below.refl _ _
  | succ n ih => exact ih.trans (Below.drew (Below.refl _ _))
set_option maxRecDepth 100000 in
set_option maxHeartbeats 1000000 in
theorem leftW_any {base g p : Nat} {w : World} {b : List Int} (C : Cur base w g b p) :
    Calls Try.prog 22 #[.pointer (some ⟨g, 0, none⟩)] w fun e w' => e = .returned (.int .i64 ((b.length : Int) - p)) ∧ Below w.heap.size w w' := by
  obtain ⟨ad, cap, R, N, h1, h2⟩ := C.row
  have c0 := R.cell 0
  have c1 := R.cell 1
  have hle := C.le
  have hf := C.few
  simp only [List.getElem?_toArray, List.getElem?_cons_zero, List.getElem?_cons_succ] at c0 c1
  obtain ⟨L, hL⟩ : ∃ L, b.length = L := ⟨_, rfl⟩
  rw [hL] at c0 hle hf ⊢
  have hw : IntKind.i64.wrap ((L : Int) - (p : Int)) = (L : Int) - (p : Int) := IntWalk.i64_in _ (by omega)
  clear R N h1 h2 C hL
  go_enter Try.func22, Try.ntmps22
  go_wp2
  go_quiet (fail)
  go_wp2
  go_ret
  exact ⟨rfl, belowN _ _ _⟩
theorem atW_any {base g p : Nat} {w : World} {b : List Int} (C : Cur base w g b p) :
    Calls Try.prog 25 #[.pointer (some ⟨g, 0, none⟩)] w fun e w' => e = .returned (.int .i64 (p : Int)) ∧ w = w' := by
  obtain ⟨ad, cap, R, N, h1, h2⟩ := C.row
  have c1 := R.cell 1
  simp only [List.getElem?_toArray, List.getElem?_cons_zero, List.getElem?_cons_succ] at c1
  clear R N h1 h2 C
  go_enter Try.func25, Try.ntmps25
  go_wp2
  go_ret
  exact ⟨rfl, rfl⟩
theorem endW_any {base g p : Nat} {w : World} {b : List Int} (C : Cur base w g b p) :
    Calls Try.prog 23 #[.pointer (some ⟨g, 0, none⟩)] w fun e w' => e = .returned (.int .i64 (if p < b.length then 5 else 0)) ∧ Below w.heap.size w w' := by
  have hl := leftW_any C
  have hle := C.le
  obtain ⟨L, hL⟩ : ∃ L, b.length = L := ⟨_, rfl⟩
  rw [hL] at hle hl ⊢
  clear hL C
  by_cases hlt : p < L
  · rw [if_pos hlt]
    have hgt : 0 < (L : Int) - (p : Int) := by omega
    go_enter Try.func23, Try.ntmps23
    go_wp2_with (go_at_call 22; refine hl.mono ?_; rintro e w1 ⟨rfl, hb⟩)
    go_ret
    exact ⟨rfl, hb⟩
  · rw [if_neg hlt]
    have hgt : ¬ 0 < (L : Int) - (p : Int) := by omega
    go_enter Try.func23, Try.ntmps23
    go_wp2_with (go_at_call 22; refine hl.mono ?_; rintro e w1 ⟨rfl, hb⟩)
    go_ret
    exact ⟨rfl, hb⟩
end Go.Proofs.Ytgjoiacgdgbcjaa
