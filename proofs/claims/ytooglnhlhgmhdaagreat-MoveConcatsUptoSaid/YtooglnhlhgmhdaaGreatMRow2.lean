/-
  Layer 9's law MoveConcats: rows of tensors in the making. (Made by wip/gen/gen_mconcl.py.)
-/
import Derived.Test.YtooglnhlhgmhdaaGreatMRowR
namespace Go.Proofs.YtooglnhlhgmhdaaGreat
open Go.RowKit
set_option linter.unusedVariables false
set_option linter.unusedSimpArgs false

/-- a row of one kind stands while a row of another kind grows -/
theorem ownsRow_apart2 {base base' n m size size' : Nat} {T T' : TypeId} {w w1 : World} {o : Obj} {v u : Value} {xs ys : List Value} (hown : w.ownsRow base T size v n xs) (hgrow : (w.alloc o).grownBy w1 v.ownBlock) (ht : T ≠ T') (h : w.ownsRow base' T' size' u m ys) : w1.ownsRow base' T' size' u m ys := by
  obtain ⟨h1, h2⟩ := h
  refine ⟨h1, ?_⟩
  rcases h2 with h2 | ⟨g, cap, cur, rfl, hb, hg, hc, hm, hs, htk⟩
  · exact .inl h2
  · have hlt := lt_of_block hg
    refine .inr ⟨g, cap, cur, rfl, hb, ?_, hc, hm, hs, htk⟩
    refine ((hgrow.block g (by simp; omega) (fun e => ?_)).trans (Below.heap_alloc _ _ _ hlt)).trans hg
    obtain ⟨_, k2⟩ := hown
    rcases k2 with ⟨rfl, _⟩ | ⟨g2, cap2, cur2, rfl, _, hg2, _⟩
    · cases e
    · have e2 : g2 = g := by simpa [Value.ownBlock] using e.symm
      subst e2
      rw [hg] at hg2
      simp only [Option.some.injEq, Obj.cells.injEq] at hg2
      exact ht hg2.2.1.symm
theorem ResS.apart2 {base base' n size : Nat} {T : TypeId} {w w1 : World} {o : Obj} {v u : Value} {xs : List Value} {zs : List Int} (h : ResS base' w u zs) (hown : w.ownsRow base T size v n xs) (hgrow : (w.alloc o).grownBy w1 v.ownBlock) (ht : T ≠ 3) : ResS base' w1 u zs := ⟨ownsRow_apart2 hown hgrow ht h.num, h.wf⟩
theorem RawO.apart2 {base base' n size : Nat} {T : TypeId} {w w1 : World} {o : Obj} {v u : Value} {xs : List Value} {q : Q3} (h : RawO base' w u q) (hown : w.ownsRow base T size v n xs) (hgrow : (w.alloc o).grownBy w1 v.ownBlock) (ht : T ≠ 63) : RawO base' w1 u q := by
  obtain ⟨ad, bd, ca, cb, hv, A, B, h1, h2⟩ := h
  exact ⟨ad, bd, ca, cb, hv, ownsRow_apart2 hown hgrow ht A, ownsRow_apart2 hown hgrow ht B, h1, h2⟩
theorem ResR.apart2 {base base' n size m : Nat} {T : TypeId} {w w1 : World} {o : Obj} {v u : Value} {xs : List Value} {x : Rat} (h : ResR base' w u x m) (hown : w.ownsRow base T size v n xs) (hgrow : (w.alloc o).grownBy w1 v.ownBlock) (ht : T ≠ 3) : ResR base' w1 u x m := by
  obtain ⟨zs, ys, ad, bd, ca, cb, hv, A, B, h1, h2⟩ := h
  exact ⟨zs, ys, ad, bd, ca, cb, hv, ⟨ownsRow_apart2 hown hgrow ht A.num, A.wf, A.full, A.eq⟩, ⟨ownsRow_apart2 hown hgrow ht B.num, B.wf, B.full, B.eq⟩, h1, h2⟩
/-- a tensor of the law's own; a tensor of the reference's own -/
def OwnX (w : World) (a b : Value) (x : X2) : Prop := ∃ (p r : Option Addr) (cx cy base : Nat), a = .slice p x.s.length cx ∧ b = .slice r x.q.length cy ∧ ResS base w a x.s ∧ RowO base 58 (fun W v q => RawO base W v q) w b x.q
def OwnY (m : Nat) (w : World) (a b : Value) (y : Y2) : Prop := ∃ (p r : Option Addr) (cx cy base : Nat), a = .slice p y.s.length cx ∧ b = .slice r y.l.length cy ∧ ResS base w a y.s ∧ RowO base 75 (fun W v q => ResR base W v q m) w b y.l
theorem OwnX.later {w w' : World} {a b : Value} {x : X2} (h : OwnX w a b x) (hb : Below w.heap.size w w') : OwnX w' a b x := by
  obtain ⟨p, r, cx, cy, base, ha, he, S, E⟩ := h
  exact ⟨p, r, cx, cy, base, ha, he, S.later hb, E.later hb (fun v x h => h.later hb)⟩
theorem OwnY.later {m : Nat} {w w' : World} {a b : Value} {y : Y2} (h : OwnY m w a b y) (hb : Below w.heap.size w w') : OwnY m w' a b y := by
  obtain ⟨p, r, cx, cy, base, ha, he, S, E⟩ := h
  exact ⟨p, r, cx, cy, base, ha, he, S.later hb, E.later hb (fun v x h => h.later hb)⟩
theorem OwnX.apart2 {n base size : Nat} {T : TypeId} {w w1 : World} {o : Obj} {v a b : Value} {xs : List Value} {x : X2} (h : OwnX w a b x) (hown : w.ownsRow base T size v n xs) (hgrow : (w.alloc o).grownBy w1 v.ownBlock) (h1 : T ≠ 3) (h2 : T ≠ 58) (h3 : T ≠ 63) : OwnX w1 a b x := by
  obtain ⟨p, r, cx, cy, base, ha, he, S, es, E1, E2⟩ := h
  exact ⟨p, r, cx, cy, base, ha, he, S.apart2 hown hgrow h1, es, ownsRow_apart2 hown hgrow h2 E1, E2.imp fun v x _ h => h.apart2 hown hgrow h3⟩
theorem OwnY.apart2 {n m base size : Nat} {T : TypeId} {w w1 : World} {o : Obj} {v a b : Value} {xs : List Value} {y : Y2} (h : OwnY m w a b y) (hown : w.ownsRow base T size v n xs) (hgrow : (w.alloc o).grownBy w1 v.ownBlock) (h1 : T ≠ 3) (h2 : T ≠ 75) : OwnY m w1 a b y := by
  obtain ⟨p, r, cx, cy, base, ha, he, S, es, E1, E2⟩ := h
  exact ⟨p, r, cx, cy, base, ha, he, S.apart2 hown hgrow h1, es, ownsRow_apart2 hown hgrow h2 E1, E2.imp fun v x _ h => h.apart2 hown hgrow h1⟩
/-- rows of structs of two cells -/
structure E2 where
  a : Value
  b : Value
def flat2 : List E2 → List Value
  | [] => []
  | e :: r => e.a :: e.b :: flat2 r
theorem flat2_append (x y : List E2) : flat2 (x ++ y) = flat2 x ++ flat2 y := by
  induction x with
  | nil => rfl
  | cons e r ih => simp only [List.cons_append, flat2, ih]
theorem flat2_len (x : List E2) : (flat2 x).length = x.length * 2 := by
  induction x with
  | nil => rfl
  | cons e r ih => simp only [flat2, List.length_cons, ih]; omega
theorem flat2_get {es : List E2} {i : Nat} {e : E2} (h : es[i]? = some e) : (flat2 es)[i * 2]? = some e.a ∧ (flat2 es)[i * 2 + 1]? = some e.b := by
  induction es generalizing i with
  | nil => simp at h
  | cons d r ih =>
    cases i with
    | zero => simp only [List.getElem?_cons_zero, Option.some.injEq] at h; subst h; exact ⟨rfl, rfl⟩
    | succ i =>
      have h2 := ih (by simpa using h)
      rw [show (i + 1) * 2 = i * 2 + 1 + 1 by omega]
      exact ⟨h2.1, h2.2⟩
def RowP {α : Type} (base : Nat) (T : TypeId) (Q : World → Value → Value → α → Prop) (w : World) (v : Value) (l : List α) : Prop := ∃ es : List E2, w.ownsRow base T 2 v es.length (flat2 es) ∧ es.length = l.length ∧ ∀ (i : Nat) (e : E2) (x : α), es[i]? = some e → l[i]? = some x → Q w e.a e.b x
theorem RowP.nil {α : Type} (base : Nat) (T : TypeId) (Q : World → Value → Value → α → Prop) (w : World) : RowP base T Q w (.slice none 0 0) ([] : List α) := ⟨[], World.ownsRow_nil _ _ _ _, rfl, fun i e x h => by simp at h⟩
theorem RowP.later {α : Type} {base : Nat} {T : TypeId} {Q : World → Value → Value → α → Prop} {w w' : World} {v : Value} {l : List α} (h : RowP base T Q w v l) (hb : Below w.heap.size w w') (hQ : ∀ a b x, Q w a b x → Q w' a b x) : RowP base T Q w' v l := by
  obtain ⟨es, h1, h2, h3⟩ := h
  refine ⟨es, ?_, h2, fun i e x a b => hQ _ _ _ (h3 i e x a b)⟩
  obtain ⟨k1, k2⟩ := h1
  refine ⟨k1, k2.imp id ?_⟩
  rintro ⟨g, cap, cur, rfl, hb', hg, hr⟩
  exact ⟨g, cap, cur, rfl, hb', (hb.block g (lt_of_block hg)).trans hg, hr⟩
theorem RowP.push {α : Type} {base : Nat} {T : TypeId} {Q : World → Value → Value → α → Prop} {w w1 : World} {v v' : Value} {es : List E2} {l : List α} {e : E2} {x : α} (hl : es.length = l.length) (hall : ∀ (i : Nat) (e : E2) (x : α), es[i]? = some e → l[i]? = some x → Q w e.a e.b x) (hx : Q w e.a e.b x) (hQ : ∀ a b x, Q w a b x → Q w1 a b x)
    (hown' : w1.ownsRow base T 2 v' (es.length + 1) (flat2 es ++ [e.a, e.b])) : RowP base T Q w1 v' (l ++ [x]) := by
  refine ⟨es ++ [e], ?_, by simp [hl], fun i d y h1 h2 => hQ _ _ _ ?_⟩
  · rw [List.length_append, flat2_append]
    exact hown'
  · by_cases hlt : i < es.length
    · rw [List.getElem?_append_left hlt] at h1
      rw [List.getElem?_append_left (by omega)] at h2
      exact hall i d y h1 h2
    · rw [List.getElem?_append_right (by omega)] at h1 h2
      have e0 : i - es.length = 0 := by
        rcases Nat.eq_zero_or_pos (i - es.length) with h | h
        · exact h
        · rw [List.getElem?_eq_none (by simp; omega)] at h1; cases h1
      rw [e0] at h1
      rw [show i - l.length = 0 by omega] at h2
      simp only [List.getElem?_cons_zero, Option.some.injEq] at h1 h2
      subst h1
      subst h2
      exact hx
theorem RowP.cells {base n : Nat} {T : TypeId} {w : World} {v : Value} {es : List E2} (h : w.ownsRow base T 2 v n (flat2 es)) (hn : n = es.length) : ∃ ad cap, v = .slice ad es.length cap ∧ es.length ≤ cap ∧ (ad = none → cap = 0) ∧ (es = [] ∨ ∃ b, ad = some ⟨b, 0, none⟩ ∧ ∀ (i : Nat) (e : E2), es[i]? = some e → w.cell? ⟨b, 0 + i * 2, none⟩ = some e.a ∧ w.cell? ⟨b, 0 + i * 2 + 1, none⟩ = some e.b) := by
  subst hn
  obtain ⟨h1, h2⟩ := h
  rcases h2 with ⟨rfl, hz⟩ | ⟨g, cap, cur, rfl, hb, hg, hc, hm, hs, ht⟩
  · exact ⟨none, 0, by rw [hz], by omega, fun _ => rfl, .inl (List.eq_nil_of_length_eq_zero hz)⟩
  · refine ⟨_, cap, rfl, hc, (fun h => by cases h), .inr ⟨g, rfl, fun i e he => ?_⟩⟩
    have hi : i < es.length := by
      rcases Nat.lt_or_ge i es.length with h | h
      · exact h
      · rw [List.getElem?_eq_none h] at he; cases he
    obtain ⟨f0, f1⟩ := flat2_get he
    have hat : ∀ j, j < es.length * 2 → cur[j]? = (flat2 es)[j]? := fun j hj => by
      have e1 : (cur.toList.take (es.length * 2))[j]? = (flat2 es)[j]? := by rw [ht]
      rw [List.getElem?_take, if_pos hj, Array.getElem?_toList] at e1
      exact e1
    rw [Nat.zero_add]
    exact ⟨(cell_of_row w g _ cur _ _ hg).trans ((hat _ (by omega)).trans f0), (cell_of_row w g _ cur _ _ hg).trans ((hat _ (by omega)).trans f1)⟩
theorem RowP.tens {base : Nat} {T : TypeId} {w : World} {v : Value} {l : List X2} (h : RowP base T OwnX w v l) : ∃ ad cap, RowT w v l ad cap ∧ (ad = none → cap = 0) := by
  obtain ⟨es, h1, h2, h3⟩ := h
  obtain ⟨ad, cap, rfl, hc, hn, hr⟩ := RowP.cells h1 rfl
  refine ⟨ad, cap, ⟨by rw [h2], by rw [← h2]; exact hc, ?_⟩, hn⟩
  rcases hr with rfl | ⟨b, rfl, hce⟩
  · exact .inl (List.eq_nil_of_length_eq_zero h2.symm)
  · refine .inr ⟨b, 0, rfl, fun i x hx => ?_⟩
    obtain ⟨e, he⟩ : ∃ e, es[i]? = some e := ⟨_, List.getElem?_eq_getElem (by
      rcases Nat.lt_or_ge i l.length with h | h
      · omega
      · rw [List.getElem?_eq_none h] at hx; cases hx)⟩
    obtain ⟨p, r, cx, cy, base', ha, hb, S, E⟩ := h3 i e x he hx
    obtain ⟨k0, k1⟩ := hce i e he
    rw [ha] at k0 S
    rw [hb] at k1 E
    exact ⟨p, r, cx, cy, k0, k1, ownT_tens S E⟩
theorem RowP.tenr {base m : Nat} {T : TypeId} {w : World} {v : Value} {l : List Y2} (h : RowP base T (OwnY m) w v l) : ∃ ad cap, RowTR m w v l ad cap ∧ (ad = none → cap = 0) := by
  obtain ⟨es, h1, h2, h3⟩ := h
  obtain ⟨ad, cap, rfl, hc, hn, hr⟩ := RowP.cells h1 rfl
  refine ⟨ad, cap, ⟨by rw [h2], by rw [← h2]; exact hc, ?_⟩, hn⟩
  rcases hr with rfl | ⟨b, rfl, hce⟩
  · exact .inl (List.eq_nil_of_length_eq_zero h2.symm)
  · refine .inr ⟨b, 0, rfl, fun i x hx => ?_⟩
    obtain ⟨e, he⟩ : ∃ e, es[i]? = some e := ⟨_, List.getElem?_eq_getElem (by
      rcases Nat.lt_or_ge i l.length with h | h
      · omega
      · rw [List.getElem?_eq_none h] at hx; cases hx)⟩
    obtain ⟨p, r, cx, cy, base', ha, hb, S, E⟩ := h3 i e x he hx
    obtain ⟨k0, k1⟩ := hce i e he
    rw [ha] at k0 S
    rw [hb] at k1 E
    exact ⟨p, r, cx, cy, k0, k1, ofT_tens rfl S E⟩
theorem infoT26 : (Tryz.prog.info? 26).map (fun i => (i.zero, i.size, i.bytes)) = some (some (.agg #[.slice none 0 0, .slice none 0 0]), 2, 48) := by kernel_rfl
theorem infoT34 : (Tryz.prog.info? 34).map (fun i => (i.zero, i.size, i.bytes)) = some (some (.agg #[.slice none 0 0, .slice none 0 0]), 2, 48) := by kernel_rfl
theorem cell_two9C (w : World) (a b : Value) (t : TypeId) : ∀ j u, [a, b][j]? = some u → (w.alloc (.cells #[a, b] t)).cell? ((⟨w.heap.size, 0, none⟩ : Addr).add j) = some u := by
  intro j u hj
  match j, hj with
  | 0, hj => simp at hj; subst hj; simp [Addr.add]
  | 1, hj => simp at hj; subst hj; simp [Addr.add]
  | j + 2, hj => simp at hj
set_option maxRecDepth 100000 in
set_option maxHeartbeats 4000000 in
theorem of9o_any {n : Nat} {w : World} {v : Value} {s : List Int} {qs : List Q3} {a b : Option Addr} {ca cb : Nat} (T : TensQ w v s qs a ca b cb) (hs : s.length ≤ 1000000000) (hq : qs.length ≤ 1000000000) (hl : lensQ qs n) (hn : n ≤ 134217728) :
    Calls Tryz.prog 17 #[v] w fun e w' => ∃ (p r : Option Addr) (cx cy : Nat), e = .returned (.agg #[.slice p (shV s qs).length cx, .slice r (elsV s qs).length cy]) ∧ OwnY (5 * n + 6) w' (.slice p (shV s qs).length cx) (.slice r (elsV s qs).length cy) ⟨shV s qs, elsV s qs⟩ ∧ Below w.heap.size w w' := by
  have HT := Lib.hid T
  obtain rfl := T.is
  obtain ⟨W, hW⟩ : ∃ W, ((w.alloc (.cells #[.slice a s.length ca, .slice b qs.length cb] 26)).alloc (.cells #[.slice none 0 0, .slice none 0 0] 34)) = W := ⟨_, rfl⟩
  have R0 : Row W (w.heap.size) 26 #[.slice a s.length ca, .slice b qs.length cb] := by rw [← hW]; exact (Row.new _ _ _).alloc _
  have R1 : Row W (w.heap.size + 1) 34 #[.slice none 0 0, .slice none 0 0] := by rw [← hW]; have h := Row.new (w.alloc (.cells #[.slice a s.length ca, .slice b qs.length cb] 26)) 34 #[.slice none 0 0, .slice none 0 0]; (try simp only [World.size_alloc] at h); exact h
  have hBW : Below w.heap.size w W := by rw [← hW]; exact (((Below.refl _ _).alloc (by (try simp) <;> omega) _).alloc (by (try simp) <;> omega) _)
  have hsW : W.heap.size = w.heap.size + 1 + 1 := by rw [← hW]; simp
  have hm := mayT_any (HT.out.later hBW) hq (fun q hq => ⟨Nat.le_trans (hl q hq).1 (by omega), Nat.le_trans (hl q hq).2 (by omega)⟩)
  obtain ⟨c, hc⟩ : ∃ c, mayT s qs = c := ⟨_, rfl⟩
  have HL := Lib.hid hl
  rw [hc] at hm
  obtain ⟨c0, c1, _, _⟩ := R0.two
  by_cases h0 : c = 0
  · subst h0
    have e1 : shV s qs = s := by unfold shV; rw [if_pos hc]
    have e2 : elsV s qs = qs.map Q3.rat := by unfold elsV; rw [if_pos hc]
    have hof := fun (X : World) (hX : Below w.heap.size w X) => ofT_any (HT.out.later hX) (by omega) hq HL.out hn
    have HOF := Lib.hid hof
    rw [e1, e2]
    clear T hc e1 e2 hl hof
    go_enter Tryz.func17, Tryz.ntmps17
    (try rw [hW])
    go_wp2_with (go_at_call 28; refine hm.mono ?_; rintro e w1 ⟨rfl, hb1⟩; obtain ⟨k0, k1, _, _⟩ := (R0.later hb1).two)
    have hB1 : Below w.heap.size w w1 := hBW.trans (hb1.mono (by omega))
    refine (HOF.out w1 hB1).mono ?_
    rintro e w2 ⟨a', b', ca', cb', rfl, RS, RO, hb2⟩
    have P2 := (R1.later hb1).later hb2
    have s1 := hb1.size
    have s2 := hb2.size
    obtain ⟨u0, u1, g0, g1⟩ := P2.two
    have HRS := Lib.hid RS
    have HRO := Lib.hid RO
    clear RS RO
    obtain ⟨l, hl⟩ : ∃ l, qs.length = l := ⟨_, rfl⟩
    have HL2 := Lib.hid hl
    rw [hl]
    clear hl
    go_wp2_with fail
    have P3 := P2.set2 (.slice a' s.length ca') (.slice b' l cb')
    obtain ⟨z0, z1, _, _⟩ := P3.two
    refine bodyPost_ret (v := .agg #[.slice a' s.length ca', .slice b' l cb']) (by simp [results, Tryz.results17, go_sem, z0, z1]) rfl ⟨a', b', ca', cb', by rw [List.length_map, HL2.out], ?_, below_set2 (hB1.trans (hb2.mono (by omega))) (by omega) _ _⟩
    refine ⟨a', b', ca', cb', w1.heap.size, rfl, rfl, HRS.out.far P2 (by decide) (kept2 _ _), ?_⟩
    rw [List.length_map]
    exact (HRO.out.far P2 (by decide) (kept2 _ _) (fun u y h => h.far P2 (by decide) (kept2 _ _))).mono (Nat.le_refl _) (fun v x h => h.more (by omega))
  · have hne : (c != 0) = true := by simp [h0]
    have e1 : shV s qs = [] := by unfold shV; rw [if_neg (by rw [hc]; exact h0)]
    have e2 : elsV s qs = [intQ 0] := by unfold elsV; rw [if_neg (by rw [hc]; exact h0)]
    rw [e1, e2]
    clear T hc e1 e2 hl h0
    go_enter Tryz.func17, Tryz.ntmps17
    (try rw [hW])
    go_wp2_with (go_at_call 28; refine hm.mono ?_; rintro e w1 ⟨rfl, hb1⟩)
    have hB1 : Below w.heap.size w w1 := hBW.trans (hb1.mono (by omega))
    refine (intRR_any 0 w1 (by omega) (by omega)).mono ?_
    rintro e w2 ⟨r, rfl, qv, hb2⟩
    have Q2 := Lib.hid qv
    obtain ⟨m5, f1, l1, j1, f2, l2, j2, rfl⟩ := qv.shape
    clear qv
    have s1 := hb1.size
    have s2 := hb2.size
    obtain ⟨V, hV⟩ : ∃ V, w2.alloc (.cells #[.bool m5, .slice f1 l1 j1, .slice f2 l2 j2] 75) = V := ⟨_, rfl⟩
    have RL : Row V w2.heap.size 75 #[.bool m5, .slice f1 l1 j1, .slice f2 l2 j2] := by rw [← hV]; exact Row.new _ _ _
    have b3 : Below w2.heap.size w2 V := by rw [← hV]; exact (Below.refl _ _).alloc (Nat.le_refl _) _
    have P2 := ((R1.later hb1).later hb2).later b3
    have QV := Q2.out.later b3
    obtain ⟨u0, u1, g0, g1⟩ := P2.two
    have hB3 : Below w.heap.size w V := (hB1.trans (hb2.mono (by omega))).trans (b3.mono (by omega))
    go_wp2_with fail
    (try rw [hV])
    have P3 := P2.set2 (.slice none 0 0) (.slice (some ⟨w2.heap.size, 0, none⟩) 1 1)
    obtain ⟨z0, z1, _, _⟩ := P3.two
    have RL3 : Row _ w2.heap.size 75 #[.bool m5, .slice f1 l1 j1, .slice f2 l2 j2] := (kept2 (.slice none 0 0) (.slice (some ⟨w2.heap.size, 0, none⟩) 1 1) w2.heap.size (show w2.heap.size ≠ w.heap.size + 1 by omega)).trans RL
    refine bodyPost_ret (v := .agg #[.slice none 0 0, .slice (some ⟨w2.heap.size, 0, none⟩) 1 1]) (by simp [results, Tryz.results17, go_sem, z0, z1]) rfl ⟨none, some ⟨w2.heap.size, 0, none⟩, 0, 1, rfl, ?_, below_set2 hB3 (by omega) _ _⟩
    refine ⟨none, some ⟨w2.heap.size, 0, none⟩, 0, 1, w1.heap.size, rfl, rfl, ResS.nil _ _, [⟨.bool m5, .slice f1 l1 j1, .slice f2 l2 j2⟩], ⟨rfl, .inr ⟨w2.heap.size, 1, #[.bool m5, .slice f1 l1 j1, .slice f2 l2 j2], rfl, s2, RL3, Nat.le_refl _, by decide, rfl, rfl⟩⟩, rfl, fun i e x he hx => ?_⟩
    match i, he, hx with
    | 0, he, hx => simp at he hx; subst he; subst hx; exact (QV.far P2 (by decide) (kept2 _ _)).more (by omega)
    | i + 1, he, hx => simp at he
end Go.Proofs.YtooglnhlhgmhdaaGreat
