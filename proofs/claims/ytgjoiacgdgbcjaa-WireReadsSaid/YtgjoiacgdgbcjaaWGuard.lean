/-
  wire.guarded at its instances: a reader, and the way back. (Made by wip/gen/gen_wguard.py.)
-/
import Derived.Test.YtgjoiacgdgbcjaaWNum
import Derived.Defers
namespace Go.Proofs.Ytgjoiacgdgbcjaa
open Go.RowKit
set_option linter.unusedVariables false
set_option linter.unusedSimpArgs false

theorem KeptC.later {g : Nat} {a w w' : World} (h : KeptC g a w) (hb : Below w.heap.size w w') : KeptC g a w' := h.trans (KeptC.ofBelow g hb)
/-- a store into a block that is new -/
theorem KeptC.fresh {g : Nat} {a w : World} (h : KeptC g a w) (k i : Nat) (v : Value) (hk : a.heap.size ≤ k) : KeptC g a (w.setCell ⟨k, i, none⟩ v) := by
  have s := KeptC.setCell w k i v
  exact ⟨s.os.trans h.os, s.tape.trans h.tape, s.output.trans h.output, Nat.le_trans h.size s.size, fun j hj hg => (s.block j (Nat.lt_of_lt_of_le hj h.size) (by omega)).trans (h.block j hj hg)⟩
theorem ResB.keptC {base g : Nat} {w w' : World} {u : Value} {xs : List Int} (h : ResB base w u xs) (k : KeptC g w w') (hg : g < base) : ResB base w' u xs := by
  refine ⟨?_, h.wf⟩
  obtain ⟨h1, h2⟩ := h.num
  refine ⟨h1, ?_⟩
  rcases h2 with h2 | ⟨r, cap, cur, rfl, hr, hh, hc, hm, hs, ht⟩
  · exact .inl h2
  · exact .inr ⟨r, cap, cur, rfl, hr, (k.block r (lt_of_block hh) (by omega)).trans hh, hc, hm, hs, ht⟩
/-- a store into a block of another type leaves a cursor alone -/
theorem Cur.aside {base g p k : Nat} {w : World} {b : List Int} {ty : TypeId} {cs : Array Value} (h : Cur base w g b p) (R' : RowB w k ty cs) (ht : ty ≠ 5) (i : Nat) (v : Value) (h1 : g ≠ k) : Cur base (w.setCell ⟨k, i, none⟩ v) g b p := by
  obtain ⟨ad, cap, R, N, n1, n2⟩ := h.row
  refine ⟨h.new, ⟨ad, cap, R.far h1 v, ⟨?_, N.wf⟩, n1, n2⟩, h.le, h.few⟩
  obtain ⟨m1, m2⟩ := N.num
  refine ⟨m1, ?_⟩
  rcases m2 with m2 | ⟨q, c, cur, e, hq, hh, hrest⟩
  · exact .inl m2
  · refine .inr ⟨q, c, cur, e, hq, (Below.heap_setCell w _ _ q fun hqk => ?_).trans hh, hrest⟩
    have hqk' : q = k := hqk
    subst hqk'
    have := R'.symm.trans hh
    simp at this
    exact ht this.2
theorem Cur.at1 {base g p : Nat} {w : World} {b : List Int} (h : Cur base w g b p) : w.cell? ⟨g, 1, none⟩ = some (.int .i64 (p : Int)) ∧ w.frozen? ⟨g, 1, none⟩ = false := by
  obtain ⟨ad, cap, R, N, n1, n2⟩ := h.row
  exact ⟨(R.cell 1).trans rfl, R.free 1⟩

set_option maxRecDepth 100000 in
set_option maxHeartbeats 1000000 in
theorem backB_any {ne ns nc g : Nat} {p c : Int} {x : Value} (u : FrameMode) (w : World) (h1 : w.cell? ⟨ne, 0, none⟩ = some (.int .i64 c)) (h2 : w.cell? ⟨ns, 0, none⟩ = some (.int .i64 p)) (h3 : w.cell? ⟨nc, 0, none⟩ = some (.pointer (some ⟨g, 0, none⟩))) (h4 : w.cell? ⟨g, 1, none⟩ = some x) (h5 : w.frozen? ⟨g, 1, none⟩ = false) :
    CallsD Try.prog 54 #[.pointer (some ⟨ne, 0, none⟩), .pointer (some ⟨ns, 0, none⟩), .pointer (some ⟨nc, 0, none⟩)] u w fun e u' w' => u' = u ∧ (e = .returned (.tuple #[]) ∧ w' = if c = 0 then w else w.setCell ⟨g, 1, none⟩ (.int .i64 p)) := by
  by_cases h0 : c = 0
  · subst h0
    rw [if_pos rfl]
    go_enter_d Try.func54, Try.ntmps54
    go_wp2
    go_end0
    exact ⟨rfl, rfl⟩
  · rw [if_neg h0]
    have hn : (c != 0) = true := by simpa using h0
    go_enter_d Try.func54, Try.ntmps54
    go_wp2
    go_end0
    exact ⟨rfl, rfl⟩

set_option maxRecDepth 100000 in
set_option maxHeartbeats 1000000 in
theorem backU_any {ne ns nc g : Nat} {p c : Int} {x : Value} (u : FrameMode) (w : World) (h1 : w.cell? ⟨ne, 0, none⟩ = some (.int .i64 c)) (h2 : w.cell? ⟨ns, 0, none⟩ = some (.int .i64 p)) (h3 : w.cell? ⟨nc, 0, none⟩ = some (.pointer (some ⟨g, 0, none⟩))) (h4 : w.cell? ⟨g, 1, none⟩ = some x) (h5 : w.frozen? ⟨g, 1, none⟩ = false) :
    CallsD Try.prog 48 #[.pointer (some ⟨ne, 0, none⟩), .pointer (some ⟨ns, 0, none⟩), .pointer (some ⟨nc, 0, none⟩)] u w fun e u' w' => u' = u ∧ (e = .returned (.tuple #[]) ∧ w' = if c = 0 then w else w.setCell ⟨g, 1, none⟩ (.int .i64 p)) := by
  by_cases h0 : c = 0
  · subst h0
    rw [if_pos rfl]
    go_enter_d Try.func48, Try.ntmps48
    go_wp2
    go_end0
    exact ⟨rfl, rfl⟩
  · rw [if_neg h0]
    have hn : (c != 0) = true := by simpa using h0
    go_enter_d Try.func48, Try.ntmps48
    go_wp2
    go_end0
    exact ⟨rfl, rfl⟩

set_option maxRecDepth 100000 in
set_option maxHeartbeats 1000000 in
theorem backI_any {ne ns nc g : Nat} {p c : Int} {x : Value} (u : FrameMode) (w : World) (h1 : w.cell? ⟨ne, 0, none⟩ = some (.int .i64 c)) (h2 : w.cell? ⟨ns, 0, none⟩ = some (.int .i64 p)) (h3 : w.cell? ⟨nc, 0, none⟩ = some (.pointer (some ⟨g, 0, none⟩))) (h4 : w.cell? ⟨g, 1, none⟩ = some x) (h5 : w.frozen? ⟨g, 1, none⟩ = false) :
    CallsD Try.prog 49 #[.pointer (some ⟨ne, 0, none⟩), .pointer (some ⟨ns, 0, none⟩), .pointer (some ⟨nc, 0, none⟩)] u w fun e u' w' => u' = u ∧ (e = .returned (.tuple #[]) ∧ w' = if c = 0 then w else w.setCell ⟨g, 1, none⟩ (.int .i64 p)) := by
  by_cases h0 : c = 0
  · subst h0
    rw [if_pos rfl]
    go_enter_d Try.func49, Try.ntmps49
    go_wp2
    go_end0
    exact ⟨rfl, rfl⟩
  · rw [if_neg h0]
    have hn : (c != 0) = true := by simpa using h0
    go_enter_d Try.func49, Try.ntmps49
    go_wp2
    go_end0
    exact ⟨rfl, rfl⟩

set_option maxRecDepth 100000 in
set_option maxHeartbeats 1000000 in
theorem backS_any {ne ns nc g : Nat} {p c : Int} {x : Value} (u : FrameMode) (w : World) (h1 : w.cell? ⟨ne, 0, none⟩ = some (.int .i64 c)) (h2 : w.cell? ⟨ns, 0, none⟩ = some (.int .i64 p)) (h3 : w.cell? ⟨nc, 0, none⟩ = some (.pointer (some ⟨g, 0, none⟩))) (h4 : w.cell? ⟨g, 1, none⟩ = some x) (h5 : w.frozen? ⟨g, 1, none⟩ = false) :
    CallsD Try.prog 51 #[.pointer (some ⟨ne, 0, none⟩), .pointer (some ⟨ns, 0, none⟩), .pointer (some ⟨nc, 0, none⟩)] u w fun e u' w' => u' = u ∧ (e = .returned (.tuple #[]) ∧ w' = if c = 0 then w else w.setCell ⟨g, 1, none⟩ (.int .i64 p)) := by
  by_cases h0 : c = 0
  · subst h0
    rw [if_pos rfl]
    go_enter_d Try.func51, Try.ntmps51
    go_wp2
    go_end0
    exact ⟨rfl, rfl⟩
  · rw [if_neg h0]
    have hn : (c != 0) = true := by simpa using h0
    go_enter_d Try.func51, Try.ntmps51
    go_wp2
    go_end0
    exact ⟨rfl, rfl⟩

set_option maxRecDepth 100000 in
set_option maxHeartbeats 2000000 in
theorem nextG_any {base g p : Nat} {w : World} {b : List Int} (C : Cur base w g b p) (c : Int) (nx : Nat) (RP : World → Value → Prop)
    (hst : ∀ W W' q r, q < w.heap.size + 3 → RP W r → KeptC q W W' → RP W' r)
    (hread : ∀ W, Below w.heap.size w W → W.heap.size = w.heap.size + 3 → Calls Try.prog 46 #[.pointer (some ⟨g, 0, none⟩)] W fun e w' => ∃ r, e = .returned (.tuple #[r, .int .i64 c]) ∧ RP w' r ∧ (∃ q, Cur base w' g b q ∧ (c = 0 → q = nx)) ∧ KeptC g W w') :
    Calls Try.prog 45 #[.pointer (some ⟨g, 0, none⟩), .func (.func 46) #[.pointer (some ⟨g, 0, none⟩)] #[]] w fun e w' => ∃ r, e = .returned (.tuple #[r, .int .i64 c]) ∧ RP w' r ∧ Cur base w' g b (if c = 0 then nx else p) ∧ KeptC g w w' := by
  have hmf : ∀ (fn : Fn) (first cap : Array Value) (w : World), (Instr.makeFunc fn first cap).run Try.prog w = .ok (.func fn first cap) w := fun _ _ _ _ => rfl
  obtain ⟨ad, cap, R, N, k1, k2⟩ := C.row
  have hg := R.lt
  have hne : ¬ g = w.heap.size := by omega
  have hne1 : ¬ g = w.heap.size + 1 := by omega
  have hne2 : ¬ g = w.heap.size + 2 := by omega
  have c1 := ((R.alloc (.cells #[.pointer (some ⟨g, 0, none⟩)] 33)).alloc (.cells #[.int .i64 0] 35)).cell 1
  simp only [List.getElem?_toArray, List.getElem?_cons_zero, List.getElem?_cons_succ] at c1
  have HST := Lib.hid hst
  have HRD := Lib.hid hread
  have HC := Lib.hid C
  have hp := C.le
  have HP := Lib.hid hp
  obtain ⟨fp, hfp⟩ : ∃ fp, (if c = 0 then nx else p) = fp := ⟨_, rfl⟩
  rw [hfp]
  have HF := Lib.hid hfp
  clear hst hread C R N k1 k2 hp hfp
  go_enter_defers Try.func45, Try.ntmps45
  go_wp2_with fail
  obtain ⟨W3, hW3⟩ : ∃ W3, W3 = ((w.alloc (.cells #[.pointer (some ⟨g, 0, none⟩)] 33)).alloc (.cells #[.int .i64 0] 35)).alloc (.cells #[.int .i64 (p : Int)] 3) := ⟨_, rfl⟩
  have s1 : (w.alloc (.cells #[.pointer (some ⟨g, 0, none⟩)] 33)).heap.size = w.heap.size + 1 := by simp
  have s2 : ((w.alloc (.cells #[.pointer (some ⟨g, 0, none⟩)] 33)).alloc (.cells #[.int .i64 0] 35)).heap.size = w.heap.size + 1 + 1 := by simp
  have rc : RowB W3 w.heap.size 33 #[.pointer (some ⟨g, 0, none⟩)] := by rw [hW3]; exact ((RowB.new _ _ _).alloc _).alloc _
  have re : RowB W3 (w.heap.size + 1) 35 #[.int .i64 0] := by rw [hW3, ← s1]; exact (RowB.new _ _ _).alloc _
  have rs : RowB W3 (w.heap.size + 1 + 1) 3 #[.int .i64 (p : Int)] := by rw [hW3, ← s2]; exact RowB.new _ _ _
  have hb3 : Below w.heap.size w W3 := by rw [hW3]; exact (((Below.refl _ w).alloc (Nat.le_refl _) _).alloc (by simp) _).alloc (by simp; omega) _
  have hs3 : W3.heap.size = w.heap.size + 3 := by rw [hW3]; simp
  rw [← hW3]
  have HB3 := Lib.hid hb3
  have HS3 := Lib.hid hs3
  have h := HRD.out W3 hb3 hs3
  clear s1 s2 hW3 c1 hb3 hs3
  refine h.mono ?_
  rintro e w1 ⟨r, rfl, hr, ⟨q, C1, hq⟩, k1⟩
  have rc1 := rc.kept k1 (by omega)
  have re1 := re.kept k1 (by omega)
  have rs1 := rs.kept k1 (by omega)
  have e0 := re1.cell 0
  have e1 := re1.free 0
  simp only [List.getElem?_toArray, List.getElem?_cons_zero, List.getElem?_cons_succ] at e0
  have HR := Lib.hid hr
  have HK1 := Lib.hid k1
  have HC1 := Lib.hid C1
  have HQ := Lib.hid hq
  clear h rc re rs hr k1 C1 hq
  have C5 := HC1.out.aside re1 (by decide) 0 (.int .i64 c) (by omega)
  have re5 := re1.set 0 (.int .i64 c)
  have rs5 := rs1.far (p := ⟨w.heap.size + 1, 0, none⟩) (by simp) (.int .i64 c)
  have rc5 := rc1.far (p := ⟨w.heap.size + 1, 0, none⟩) (by simp) (.int .i64 c)
  have K5 : KeptC g w (w1.setCell ⟨w.heap.size + 1, 0, none⟩ (.int .i64 c)) := ((KeptC.ofBelow g (HB3.out.mono (Nat.le_refl _))).trans HK1.out).fresh _ _ _ (by omega)
  have P5 := HST.out _ _ (w.heap.size + 1) r (by omega) HR.out (KeptC.setCell w1 (w.heap.size + 1) 0 (.int .i64 c))
  have HS := Lib.hid (And.intro C5 (And.intro re5 (And.intro rs5 (And.intro rc5 (And.intro K5 P5)))))
  clear C5 re5 rs5 rc5 K5 P5 rc1 re1 rs1
  go_wp2_with fail
  obtain ⟨C5, re5, rs5, rc5, K5, P5⟩ := HS.out
  refine leaves_cons (f := 54) (args := #[.pointer (some ⟨w.heap.size + 1, 0, none⟩), .pointer (some ⟨w.heap.size + 1 + 1, 0, none⟩), .pointer (some ⟨w.heap.size, 0, none⟩)]) (by simp) (by simp [go_sem]) ?_
  refine (backB_any (ne := w.heap.size + 1) (ns := w.heap.size + 1 + 1) (nc := w.heap.size) (g := g) (p := (p : Int)) (c := c) .returning _ ((re5.cell 0).trans (by simp)) ((rs5.cell 0).trans rfl) ((rc5.cell 0).trans rfl) C5.at1.1 C5.at1.2).mono ?_
  rintro e u' w'' ⟨rfl, rfl, rfl⟩
  by_cases h0 : c = 0
  · subst h0
    obtain rfl : nx = fp := by rw [← HF.out, if_pos rfl]
    obtain rfl := HQ.out rfl
    have ce := (re5.cell 0).trans (show _ = some (.int .i64 0) by simp)
    rw [if_pos rfl]
    refine ⟨_, ?_, r, rfl, P5, C5, K5⟩
    simp [results, Try.results45, go_sem, ce]
  · obtain rfl : p = fp := by rw [← HF.out, if_neg h0]
    have ce := ((re5.far (p := ⟨g, 1, none⟩) (by simp; omega) (.int .i64 (p : Int))).cell 0).trans (show _ = some (.int .i64 c) by simp)
    rw [if_neg h0]
    refine ⟨_, ?_, r, rfl, HST.out _ _ g r (by omega) P5 (KeptC.setCell _ g 1 _), C5.move p HP.out, K5.trans (KeptC.setCell _ g 1 _)⟩
    simp [results, Try.results45, go_sem, ce]

set_option maxRecDepth 100000 in
set_option maxHeartbeats 2000000 in
theorem numG_any {base g p : Nat} {w : World} {b : List Int} (C : Cur base w g b p) (c : Int) (nx : Nat) (RP : World → Value → Prop)
    (hst : ∀ W W' q r, q < w.heap.size + 3 → RP W r → KeptC q W W' → RP W' r)
    (hread : ∀ W, Below w.heap.size w W → W.heap.size = w.heap.size + 3 → Calls Try.prog 36 #[.pointer (some ⟨g, 0, none⟩)] W fun e w' => ∃ r, e = .returned (.tuple #[r, .int .i64 c]) ∧ RP w' r ∧ (∃ q, Cur base w' g b q ∧ (c = 0 → q = nx)) ∧ KeptC g W w') :
    Calls Try.prog 35 #[.pointer (some ⟨g, 0, none⟩), .func (.func 36) #[.pointer (some ⟨g, 0, none⟩)] #[]] w fun e w' => ∃ r, e = .returned (.tuple #[r, .int .i64 c]) ∧ RP w' r ∧ Cur base w' g b (if c = 0 then nx else p) ∧ KeptC g w w' := by
  have hmf : ∀ (fn : Fn) (first cap : Array Value) (w : World), (Instr.makeFunc fn first cap).run Try.prog w = .ok (.func fn first cap) w := fun _ _ _ _ => rfl
  obtain ⟨ad, cap, R, N, k1, k2⟩ := C.row
  have hg := R.lt
  have hne : ¬ g = w.heap.size := by omega
  have hne1 : ¬ g = w.heap.size + 1 := by omega
  have hne2 : ¬ g = w.heap.size + 2 := by omega
  have c1 := ((R.alloc (.cells #[.pointer (some ⟨g, 0, none⟩)] 33)).alloc (.cells #[.int .i64 0] 35)).cell 1
  simp only [List.getElem?_toArray, List.getElem?_cons_zero, List.getElem?_cons_succ] at c1
  have HST := Lib.hid hst
  have HRD := Lib.hid hread
  have HC := Lib.hid C
  have hp := C.le
  have HP := Lib.hid hp
  obtain ⟨fp, hfp⟩ : ∃ fp, (if c = 0 then nx else p) = fp := ⟨_, rfl⟩
  rw [hfp]
  have HF := Lib.hid hfp
  clear hst hread C R N k1 k2 hp hfp
  go_enter_defers Try.func35, Try.ntmps35
  go_wp2_with fail
  obtain ⟨W3, hW3⟩ : ∃ W3, W3 = ((w.alloc (.cells #[.pointer (some ⟨g, 0, none⟩)] 33)).alloc (.cells #[.int .i64 0] 35)).alloc (.cells #[.int .i64 (p : Int)] 3) := ⟨_, rfl⟩
  have s1 : (w.alloc (.cells #[.pointer (some ⟨g, 0, none⟩)] 33)).heap.size = w.heap.size + 1 := by simp
  have s2 : ((w.alloc (.cells #[.pointer (some ⟨g, 0, none⟩)] 33)).alloc (.cells #[.int .i64 0] 35)).heap.size = w.heap.size + 1 + 1 := by simp
  have rc : RowB W3 w.heap.size 33 #[.pointer (some ⟨g, 0, none⟩)] := by rw [hW3]; exact ((RowB.new _ _ _).alloc _).alloc _
  have re : RowB W3 (w.heap.size + 1) 35 #[.int .i64 0] := by rw [hW3, ← s1]; exact (RowB.new _ _ _).alloc _
  have rs : RowB W3 (w.heap.size + 1 + 1) 3 #[.int .i64 (p : Int)] := by rw [hW3, ← s2]; exact RowB.new _ _ _
  have hb3 : Below w.heap.size w W3 := by rw [hW3]; exact (((Below.refl _ w).alloc (Nat.le_refl _) _).alloc (by simp) _).alloc (by simp; omega) _
  have hs3 : W3.heap.size = w.heap.size + 3 := by rw [hW3]; simp
  rw [← hW3]
  have HB3 := Lib.hid hb3
  have HS3 := Lib.hid hs3
  have h := HRD.out W3 hb3 hs3
  clear s1 s2 hW3 c1 hb3 hs3
  refine h.mono ?_
  rintro e w1 ⟨r, rfl, hr, ⟨q, C1, hq⟩, k1⟩
  have rc1 := rc.kept k1 (by omega)
  have re1 := re.kept k1 (by omega)
  have rs1 := rs.kept k1 (by omega)
  have e0 := re1.cell 0
  have e1 := re1.free 0
  simp only [List.getElem?_toArray, List.getElem?_cons_zero, List.getElem?_cons_succ] at e0
  have HR := Lib.hid hr
  have HK1 := Lib.hid k1
  have HC1 := Lib.hid C1
  have HQ := Lib.hid hq
  clear h rc re rs hr k1 C1 hq
  have C5 := HC1.out.aside re1 (by decide) 0 (.int .i64 c) (by omega)
  have re5 := re1.set 0 (.int .i64 c)
  have rs5 := rs1.far (p := ⟨w.heap.size + 1, 0, none⟩) (by simp) (.int .i64 c)
  have rc5 := rc1.far (p := ⟨w.heap.size + 1, 0, none⟩) (by simp) (.int .i64 c)
  have K5 : KeptC g w (w1.setCell ⟨w.heap.size + 1, 0, none⟩ (.int .i64 c)) := ((KeptC.ofBelow g (HB3.out.mono (Nat.le_refl _))).trans HK1.out).fresh _ _ _ (by omega)
  have P5 := HST.out _ _ (w.heap.size + 1) r (by omega) HR.out (KeptC.setCell w1 (w.heap.size + 1) 0 (.int .i64 c))
  have HS := Lib.hid (And.intro C5 (And.intro re5 (And.intro rs5 (And.intro rc5 (And.intro K5 P5)))))
  clear C5 re5 rs5 rc5 K5 P5 rc1 re1 rs1
  go_wp2_with fail
  obtain ⟨C5, re5, rs5, rc5, K5, P5⟩ := HS.out
  refine leaves_cons (f := 48) (args := #[.pointer (some ⟨w.heap.size + 1, 0, none⟩), .pointer (some ⟨w.heap.size + 1 + 1, 0, none⟩), .pointer (some ⟨w.heap.size, 0, none⟩)]) (by simp) (by simp [go_sem]) ?_
  refine (backU_any (ne := w.heap.size + 1) (ns := w.heap.size + 1 + 1) (nc := w.heap.size) (g := g) (p := (p : Int)) (c := c) .returning _ ((re5.cell 0).trans (by simp)) ((rs5.cell 0).trans rfl) ((rc5.cell 0).trans rfl) C5.at1.1 C5.at1.2).mono ?_
  rintro e u' w'' ⟨rfl, rfl, rfl⟩
  by_cases h0 : c = 0
  · subst h0
    obtain rfl : nx = fp := by rw [← HF.out, if_pos rfl]
    obtain rfl := HQ.out rfl
    have ce := (re5.cell 0).trans (show _ = some (.int .i64 0) by simp)
    rw [if_pos rfl]
    refine ⟨_, ?_, r, rfl, P5, C5, K5⟩
    simp [results, Try.results35, go_sem, ce]
  · obtain rfl : p = fp := by rw [← HF.out, if_neg h0]
    have ce := ((re5.far (p := ⟨g, 1, none⟩) (by simp; omega) (.int .i64 (p : Int))).cell 0).trans (show _ = some (.int .i64 c) by simp)
    rw [if_neg h0]
    refine ⟨_, ?_, r, rfl, HST.out _ _ g r (by omega) P5 (KeptC.setCell _ g 1 _), C5.move p HP.out, K5.trans (KeptC.setCell _ g 1 _)⟩
    simp [results, Try.results35, go_sem, ce]

set_option maxRecDepth 100000 in
set_option maxHeartbeats 2000000 in
theorem zigG_any {base g p : Nat} {w : World} {b : List Int} {ka kb : Nat} (C : Cur base w g b p) (c : Int) (nx : Nat) (RP : World → Value → Prop)
    (hst : ∀ W W' q r, q < w.heap.size + 3 → RP W r → KeptC q W W' → RP W' r)
    (hread : ∀ W, Below w.heap.size w W → W.heap.size = w.heap.size + 3 → Calls Try.prog 50 #[.pointer (some ⟨ka, 0, none⟩), .pointer (some ⟨kb, 0, none⟩)] W fun e w' => ∃ r, e = .returned (.tuple #[r, .int .i64 c]) ∧ RP w' r ∧ (∃ q, Cur base w' g b q ∧ (c = 0 → q = nx)) ∧ KeptC g W w') :
    Calls Try.prog 37 #[.pointer (some ⟨g, 0, none⟩), .func (.func 50) #[] #[.pointer (some ⟨ka, 0, none⟩), .pointer (some ⟨kb, 0, none⟩)]] w fun e w' => ∃ r, e = .returned (.tuple #[r, .int .i64 c]) ∧ RP w' r ∧ Cur base w' g b (if c = 0 then nx else p) ∧ KeptC g w w' := by
  have hmf : ∀ (fn : Fn) (first cap : Array Value) (w : World), (Instr.makeFunc fn first cap).run Try.prog w = .ok (.func fn first cap) w := fun _ _ _ _ => rfl
  obtain ⟨ad, cap, R, N, k1, k2⟩ := C.row
  have hg := R.lt
  have hne : ¬ g = w.heap.size := by omega
  have hne1 : ¬ g = w.heap.size + 1 := by omega
  have hne2 : ¬ g = w.heap.size + 2 := by omega
  have c1 := ((R.alloc (.cells #[.pointer (some ⟨g, 0, none⟩)] 33)).alloc (.cells #[.int .i64 0] 35)).cell 1
  simp only [List.getElem?_toArray, List.getElem?_cons_zero, List.getElem?_cons_succ] at c1
  have HST := Lib.hid hst
  have HRD := Lib.hid hread
  have HC := Lib.hid C
  have hp := C.le
  have HP := Lib.hid hp
  obtain ⟨fp, hfp⟩ : ∃ fp, (if c = 0 then nx else p) = fp := ⟨_, rfl⟩
  rw [hfp]
  have HF := Lib.hid hfp
  clear hst hread C R N k1 k2 hp hfp
  go_enter_defers Try.func37, Try.ntmps37
  go_wp2_with fail
  obtain ⟨W3, hW3⟩ : ∃ W3, W3 = ((w.alloc (.cells #[.pointer (some ⟨g, 0, none⟩)] 33)).alloc (.cells #[.int .i64 0] 35)).alloc (.cells #[.int .i64 (p : Int)] 3) := ⟨_, rfl⟩
  have s1 : (w.alloc (.cells #[.pointer (some ⟨g, 0, none⟩)] 33)).heap.size = w.heap.size + 1 := by simp
  have s2 : ((w.alloc (.cells #[.pointer (some ⟨g, 0, none⟩)] 33)).alloc (.cells #[.int .i64 0] 35)).heap.size = w.heap.size + 1 + 1 := by simp
  have rc : RowB W3 w.heap.size 33 #[.pointer (some ⟨g, 0, none⟩)] := by rw [hW3]; exact ((RowB.new _ _ _).alloc _).alloc _
  have re : RowB W3 (w.heap.size + 1) 35 #[.int .i64 0] := by rw [hW3, ← s1]; exact (RowB.new _ _ _).alloc _
  have rs : RowB W3 (w.heap.size + 1 + 1) 3 #[.int .i64 (p : Int)] := by rw [hW3, ← s2]; exact RowB.new _ _ _
  have hb3 : Below w.heap.size w W3 := by rw [hW3]; exact (((Below.refl _ w).alloc (Nat.le_refl _) _).alloc (by simp) _).alloc (by simp; omega) _
  have hs3 : W3.heap.size = w.heap.size + 3 := by rw [hW3]; simp
  rw [← hW3]
  have HB3 := Lib.hid hb3
  have HS3 := Lib.hid hs3
  have h := HRD.out W3 hb3 hs3
  clear s1 s2 hW3 c1 hb3 hs3
  refine h.mono ?_
  rintro e w1 ⟨r, rfl, hr, ⟨q, C1, hq⟩, k1⟩
  have rc1 := rc.kept k1 (by omega)
  have re1 := re.kept k1 (by omega)
  have rs1 := rs.kept k1 (by omega)
  have e0 := re1.cell 0
  have e1 := re1.free 0
  simp only [List.getElem?_toArray, List.getElem?_cons_zero, List.getElem?_cons_succ] at e0
  have HR := Lib.hid hr
  have HK1 := Lib.hid k1
  have HC1 := Lib.hid C1
  have HQ := Lib.hid hq
  clear h rc re rs hr k1 C1 hq
  have C5 := HC1.out.aside re1 (by decide) 0 (.int .i64 c) (by omega)
  have re5 := re1.set 0 (.int .i64 c)
  have rs5 := rs1.far (p := ⟨w.heap.size + 1, 0, none⟩) (by simp) (.int .i64 c)
  have rc5 := rc1.far (p := ⟨w.heap.size + 1, 0, none⟩) (by simp) (.int .i64 c)
  have K5 : KeptC g w (w1.setCell ⟨w.heap.size + 1, 0, none⟩ (.int .i64 c)) := ((KeptC.ofBelow g (HB3.out.mono (Nat.le_refl _))).trans HK1.out).fresh _ _ _ (by omega)
  have P5 := HST.out _ _ (w.heap.size + 1) r (by omega) HR.out (KeptC.setCell w1 (w.heap.size + 1) 0 (.int .i64 c))
  have HS := Lib.hid (And.intro C5 (And.intro re5 (And.intro rs5 (And.intro rc5 (And.intro K5 P5)))))
  clear C5 re5 rs5 rc5 K5 P5 rc1 re1 rs1
  go_wp2_with fail
  obtain ⟨C5, re5, rs5, rc5, K5, P5⟩ := HS.out
  refine leaves_cons (f := 49) (args := #[.pointer (some ⟨w.heap.size + 1, 0, none⟩), .pointer (some ⟨w.heap.size + 1 + 1, 0, none⟩), .pointer (some ⟨w.heap.size, 0, none⟩)]) (by simp) (by simp [go_sem]) ?_
  refine (backI_any (ne := w.heap.size + 1) (ns := w.heap.size + 1 + 1) (nc := w.heap.size) (g := g) (p := (p : Int)) (c := c) .returning _ ((re5.cell 0).trans (by simp)) ((rs5.cell 0).trans rfl) ((rc5.cell 0).trans rfl) C5.at1.1 C5.at1.2).mono ?_
  rintro e u' w'' ⟨rfl, rfl, rfl⟩
  by_cases h0 : c = 0
  · subst h0
    obtain rfl : nx = fp := by rw [← HF.out, if_pos rfl]
    obtain rfl := HQ.out rfl
    have ce := (re5.cell 0).trans (show _ = some (.int .i64 0) by simp)
    rw [if_pos rfl]
    refine ⟨_, ?_, r, rfl, P5, C5, K5⟩
    simp [results, Try.results37, go_sem, ce]
  · obtain rfl : p = fp := by rw [← HF.out, if_neg h0]
    have ce := ((re5.far (p := ⟨g, 1, none⟩) (by simp; omega) (.int .i64 (p : Int))).cell 0).trans (show _ = some (.int .i64 c) by simp)
    rw [if_neg h0]
    refine ⟨_, ?_, r, rfl, HST.out _ _ g r (by omega) P5 (KeptC.setCell _ g 1 _), C5.move p HP.out, K5.trans (KeptC.setCell _ g 1 _)⟩
    simp [results, Try.results37, go_sem, ce]

set_option maxRecDepth 100000 in
set_option maxHeartbeats 2000000 in
theorem takeG_any {base g p : Nat} {w : World} {b : List Int} {ka kb : Nat} (C : Cur base w g b p) (c : Int) (nx : Nat) (RP : World → Value → Prop)
    (hst : ∀ W W' q r, q < w.heap.size + 3 → RP W r → KeptC q W W' → RP W' r)
    (hread : ∀ W, Below w.heap.size w W → W.heap.size = w.heap.size + 3 → Calls Try.prog 43 #[.pointer (some ⟨ka, 0, none⟩), .pointer (some ⟨kb, 0, none⟩)] W fun e w' => ∃ r, e = .returned (.tuple #[r, .int .i64 c]) ∧ RP w' r ∧ (∃ q, Cur base w' g b q ∧ (c = 0 → q = nx)) ∧ KeptC g W w') :
    Calls Try.prog 40 #[.pointer (some ⟨g, 0, none⟩), .func (.func 43) #[] #[.pointer (some ⟨ka, 0, none⟩), .pointer (some ⟨kb, 0, none⟩)]] w fun e w' => ∃ r, e = .returned (.tuple #[r, .int .i64 c]) ∧ RP w' r ∧ Cur base w' g b (if c = 0 then nx else p) ∧ KeptC g w w' := by
  have hmf : ∀ (fn : Fn) (first cap : Array Value) (w : World), (Instr.makeFunc fn first cap).run Try.prog w = .ok (.func fn first cap) w := fun _ _ _ _ => rfl
  obtain ⟨ad, cap, R, N, k1, k2⟩ := C.row
  have hg := R.lt
  have hne : ¬ g = w.heap.size := by omega
  have hne1 : ¬ g = w.heap.size + 1 := by omega
  have hne2 : ¬ g = w.heap.size + 2 := by omega
  have c1 := ((R.alloc (.cells #[.pointer (some ⟨g, 0, none⟩)] 33)).alloc (.cells #[.int .i64 0] 35)).cell 1
  simp only [List.getElem?_toArray, List.getElem?_cons_zero, List.getElem?_cons_succ] at c1
  have HST := Lib.hid hst
  have HRD := Lib.hid hread
  have HC := Lib.hid C
  have hp := C.le
  have HP := Lib.hid hp
  obtain ⟨fp, hfp⟩ : ∃ fp, (if c = 0 then nx else p) = fp := ⟨_, rfl⟩
  rw [hfp]
  have HF := Lib.hid hfp
  clear hst hread C R N k1 k2 hp hfp
  go_enter_defers Try.func40, Try.ntmps40
  go_wp2_with fail
  obtain ⟨W3, hW3⟩ : ∃ W3, W3 = ((w.alloc (.cells #[.pointer (some ⟨g, 0, none⟩)] 33)).alloc (.cells #[.int .i64 0] 35)).alloc (.cells #[.int .i64 (p : Int)] 3) := ⟨_, rfl⟩
  have s1 : (w.alloc (.cells #[.pointer (some ⟨g, 0, none⟩)] 33)).heap.size = w.heap.size + 1 := by simp
  have s2 : ((w.alloc (.cells #[.pointer (some ⟨g, 0, none⟩)] 33)).alloc (.cells #[.int .i64 0] 35)).heap.size = w.heap.size + 1 + 1 := by simp
  have rc : RowB W3 w.heap.size 33 #[.pointer (some ⟨g, 0, none⟩)] := by rw [hW3]; exact ((RowB.new _ _ _).alloc _).alloc _
  have re : RowB W3 (w.heap.size + 1) 35 #[.int .i64 0] := by rw [hW3, ← s1]; exact (RowB.new _ _ _).alloc _
  have rs : RowB W3 (w.heap.size + 1 + 1) 3 #[.int .i64 (p : Int)] := by rw [hW3, ← s2]; exact RowB.new _ _ _
  have hb3 : Below w.heap.size w W3 := by rw [hW3]; exact (((Below.refl _ w).alloc (Nat.le_refl _) _).alloc (by simp) _).alloc (by simp; omega) _
  have hs3 : W3.heap.size = w.heap.size + 3 := by rw [hW3]; simp
  rw [← hW3]
  have HB3 := Lib.hid hb3
  have HS3 := Lib.hid hs3
  have h := HRD.out W3 hb3 hs3
  clear s1 s2 hW3 c1 hb3 hs3
  refine h.mono ?_
  rintro e w1 ⟨r, rfl, hr, ⟨q, C1, hq⟩, k1⟩
  have rc1 := rc.kept k1 (by omega)
  have re1 := re.kept k1 (by omega)
  have rs1 := rs.kept k1 (by omega)
  have e0 := re1.cell 0
  have e1 := re1.free 0
  simp only [List.getElem?_toArray, List.getElem?_cons_zero, List.getElem?_cons_succ] at e0
  have HR := Lib.hid hr
  have HK1 := Lib.hid k1
  have HC1 := Lib.hid C1
  have HQ := Lib.hid hq
  clear h rc re rs hr k1 C1 hq
  have C5 := HC1.out.aside re1 (by decide) 0 (.int .i64 c) (by omega)
  have re5 := re1.set 0 (.int .i64 c)
  have rs5 := rs1.far (p := ⟨w.heap.size + 1, 0, none⟩) (by simp) (.int .i64 c)
  have rc5 := rc1.far (p := ⟨w.heap.size + 1, 0, none⟩) (by simp) (.int .i64 c)
  have K5 : KeptC g w (w1.setCell ⟨w.heap.size + 1, 0, none⟩ (.int .i64 c)) := ((KeptC.ofBelow g (HB3.out.mono (Nat.le_refl _))).trans HK1.out).fresh _ _ _ (by omega)
  have P5 := HST.out _ _ (w.heap.size + 1) r (by omega) HR.out (KeptC.setCell w1 (w.heap.size + 1) 0 (.int .i64 c))
  have HS := Lib.hid (And.intro C5 (And.intro re5 (And.intro rs5 (And.intro rc5 (And.intro K5 P5)))))
  clear C5 re5 rs5 rc5 K5 P5 rc1 re1 rs1
  go_wp2_with fail
  obtain ⟨C5, re5, rs5, rc5, K5, P5⟩ := HS.out
  refine leaves_cons (f := 51) (args := #[.pointer (some ⟨w.heap.size + 1, 0, none⟩), .pointer (some ⟨w.heap.size + 1 + 1, 0, none⟩), .pointer (some ⟨w.heap.size, 0, none⟩)]) (by simp) (by simp [go_sem]) ?_
  refine (backS_any (ne := w.heap.size + 1) (ns := w.heap.size + 1 + 1) (nc := w.heap.size) (g := g) (p := (p : Int)) (c := c) .returning _ ((re5.cell 0).trans (by simp)) ((rs5.cell 0).trans rfl) ((rc5.cell 0).trans rfl) C5.at1.1 C5.at1.2).mono ?_
  rintro e u' w'' ⟨rfl, rfl, rfl⟩
  by_cases h0 : c = 0
  · subst h0
    obtain rfl : nx = fp := by rw [← HF.out, if_pos rfl]
    obtain rfl := HQ.out rfl
    have ce := (re5.cell 0).trans (show _ = some (.int .i64 0) by simp)
    rw [if_pos rfl]
    refine ⟨_, ?_, r, rfl, P5, C5, K5⟩
    simp [results, Try.results40, go_sem, ce]
  · obtain rfl : p = fp := by rw [← HF.out, if_neg h0]
    have ce := ((re5.far (p := ⟨g, 1, none⟩) (by simp; omega) (.int .i64 (p : Int))).cell 0).trans (show _ = some (.int .i64 c) by simp)
    rw [if_neg h0]
    refine ⟨_, ?_, r, rfl, HST.out _ _ g r (by omega) P5 (KeptC.setCell _ g 1 _), C5.move p HP.out, K5.trans (KeptC.setCell _ g 1 _)⟩
    simp [results, Try.results40, go_sem, ce]

set_option maxRecDepth 100000 in
set_option maxHeartbeats 2000000 in
theorem blockG_any {base g p : Nat} {w : World} {b : List Int} {ka kb : Nat} (C : Cur base w g b p) (c : Int) (nx : Nat) (RP : World → Value → Prop)
    (hst : ∀ W W' q r, q < w.heap.size + 3 → RP W r → KeptC q W W' → RP W' r)
    (hread : ∀ W, Below w.heap.size w W → W.heap.size = w.heap.size + 3 → Calls Try.prog 41 #[.pointer (some ⟨ka, 0, none⟩), .pointer (some ⟨kb, 0, none⟩)] W fun e w' => ∃ r, e = .returned (.tuple #[r, .int .i64 c]) ∧ RP w' r ∧ (∃ q, Cur base w' g b q ∧ (c = 0 → q = nx)) ∧ KeptC g W w') :
    Calls Try.prog 40 #[.pointer (some ⟨g, 0, none⟩), .func (.func 41) #[] #[.pointer (some ⟨ka, 0, none⟩), .pointer (some ⟨kb, 0, none⟩)]] w fun e w' => ∃ r, e = .returned (.tuple #[r, .int .i64 c]) ∧ RP w' r ∧ Cur base w' g b (if c = 0 then nx else p) ∧ KeptC g w w' := by
  have hmf : ∀ (fn : Fn) (first cap : Array Value) (w : World), (Instr.makeFunc fn first cap).run Try.prog w = .ok (.func fn first cap) w := fun _ _ _ _ => rfl
  obtain ⟨ad, cap, R, N, k1, k2⟩ := C.row
  have hg := R.lt
  have hne : ¬ g = w.heap.size := by omega
  have hne1 : ¬ g = w.heap.size + 1 := by omega
  have hne2 : ¬ g = w.heap.size + 2 := by omega
  have c1 := ((R.alloc (.cells #[.pointer (some ⟨g, 0, none⟩)] 33)).alloc (.cells #[.int .i64 0] 35)).cell 1
  simp only [List.getElem?_toArray, List.getElem?_cons_zero, List.getElem?_cons_succ] at c1
  have HST := Lib.hid hst
  have HRD := Lib.hid hread
  have HC := Lib.hid C
  have hp := C.le
  have HP := Lib.hid hp
  obtain ⟨fp, hfp⟩ : ∃ fp, (if c = 0 then nx else p) = fp := ⟨_, rfl⟩
  rw [hfp]
  have HF := Lib.hid hfp
  clear hst hread C R N k1 k2 hp hfp
  go_enter_defers Try.func40, Try.ntmps40
  go_wp2_with fail
  obtain ⟨W3, hW3⟩ : ∃ W3, W3 = ((w.alloc (.cells #[.pointer (some ⟨g, 0, none⟩)] 33)).alloc (.cells #[.int .i64 0] 35)).alloc (.cells #[.int .i64 (p : Int)] 3) := ⟨_, rfl⟩
  have s1 : (w.alloc (.cells #[.pointer (some ⟨g, 0, none⟩)] 33)).heap.size = w.heap.size + 1 := by simp
  have s2 : ((w.alloc (.cells #[.pointer (some ⟨g, 0, none⟩)] 33)).alloc (.cells #[.int .i64 0] 35)).heap.size = w.heap.size + 1 + 1 := by simp
  have rc : RowB W3 w.heap.size 33 #[.pointer (some ⟨g, 0, none⟩)] := by rw [hW3]; exact ((RowB.new _ _ _).alloc _).alloc _
  have re : RowB W3 (w.heap.size + 1) 35 #[.int .i64 0] := by rw [hW3, ← s1]; exact (RowB.new _ _ _).alloc _
  have rs : RowB W3 (w.heap.size + 1 + 1) 3 #[.int .i64 (p : Int)] := by rw [hW3, ← s2]; exact RowB.new _ _ _
  have hb3 : Below w.heap.size w W3 := by rw [hW3]; exact (((Below.refl _ w).alloc (Nat.le_refl _) _).alloc (by simp) _).alloc (by simp; omega) _
  have hs3 : W3.heap.size = w.heap.size + 3 := by rw [hW3]; simp
  rw [← hW3]
  have HB3 := Lib.hid hb3
  have HS3 := Lib.hid hs3
  have h := HRD.out W3 hb3 hs3
  clear s1 s2 hW3 c1 hb3 hs3
  refine h.mono ?_
  rintro e w1 ⟨r, rfl, hr, ⟨q, C1, hq⟩, k1⟩
  have rc1 := rc.kept k1 (by omega)
  have re1 := re.kept k1 (by omega)
  have rs1 := rs.kept k1 (by omega)
  have e0 := re1.cell 0
  have e1 := re1.free 0
  simp only [List.getElem?_toArray, List.getElem?_cons_zero, List.getElem?_cons_succ] at e0
  have HR := Lib.hid hr
  have HK1 := Lib.hid k1
  have HC1 := Lib.hid C1
  have HQ := Lib.hid hq
  clear h rc re rs hr k1 C1 hq
  have C5 := HC1.out.aside re1 (by decide) 0 (.int .i64 c) (by omega)
  have re5 := re1.set 0 (.int .i64 c)
  have rs5 := rs1.far (p := ⟨w.heap.size + 1, 0, none⟩) (by simp) (.int .i64 c)
  have rc5 := rc1.far (p := ⟨w.heap.size + 1, 0, none⟩) (by simp) (.int .i64 c)
  have K5 : KeptC g w (w1.setCell ⟨w.heap.size + 1, 0, none⟩ (.int .i64 c)) := ((KeptC.ofBelow g (HB3.out.mono (Nat.le_refl _))).trans HK1.out).fresh _ _ _ (by omega)
  have P5 := HST.out _ _ (w.heap.size + 1) r (by omega) HR.out (KeptC.setCell w1 (w.heap.size + 1) 0 (.int .i64 c))
  have HS := Lib.hid (And.intro C5 (And.intro re5 (And.intro rs5 (And.intro rc5 (And.intro K5 P5)))))
  clear C5 re5 rs5 rc5 K5 P5 rc1 re1 rs1
  go_wp2_with fail
  obtain ⟨C5, re5, rs5, rc5, K5, P5⟩ := HS.out
  refine leaves_cons (f := 51) (args := #[.pointer (some ⟨w.heap.size + 1, 0, none⟩), .pointer (some ⟨w.heap.size + 1 + 1, 0, none⟩), .pointer (some ⟨w.heap.size, 0, none⟩)]) (by simp) (by simp [go_sem]) ?_
  refine (backS_any (ne := w.heap.size + 1) (ns := w.heap.size + 1 + 1) (nc := w.heap.size) (g := g) (p := (p : Int)) (c := c) .returning _ ((re5.cell 0).trans (by simp)) ((rs5.cell 0).trans rfl) ((rc5.cell 0).trans rfl) C5.at1.1 C5.at1.2).mono ?_
  rintro e u' w'' ⟨rfl, rfl, rfl⟩
  by_cases h0 : c = 0
  · subst h0
    obtain rfl : nx = fp := by rw [← HF.out, if_pos rfl]
    obtain rfl := HQ.out rfl
    have ce := (re5.cell 0).trans (show _ = some (.int .i64 0) by simp)
    rw [if_pos rfl]
    refine ⟨_, ?_, r, rfl, P5, C5, K5⟩
    simp [results, Try.results40, go_sem, ce]
  · obtain rfl : p = fp := by rw [← HF.out, if_neg h0]
    have ce := ((re5.far (p := ⟨g, 1, none⟩) (by simp; omega) (.int .i64 (p : Int))).cell 0).trans (show _ = some (.int .i64 c) by simp)
    rw [if_neg h0]
    refine ⟨_, ?_, r, rfl, HST.out _ _ g r (by omega) P5 (KeptC.setCell _ g 1 _), C5.move p HP.out, K5.trans (KeptC.setCell _ g 1 _)⟩
    simp [results, Try.results40, go_sem, ce]
end Go.Proofs.Ytgjoiacgdgbcjaa
