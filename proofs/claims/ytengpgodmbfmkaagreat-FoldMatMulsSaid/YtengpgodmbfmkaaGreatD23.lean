/-
  Layer 9's law MoveConcats: rows of tensors in the making. (Made by wip/gen/gen_mconcl.py.)
-/
import Derived.Test.YtengpgodmbfmkaaGreatD15
import Derived.Test.YtengpgodmbfmkaaGreatD20
import Derived.Test.YtengpgodmbfmkaaGreatD21
import Derived.Test.YtengpgodmbfmkaaGreatD22
namespace Go.Proofs.YtengpgodmbfmkaaGreat
set_option linter.unusedVariables false
set_option linter.unusedSimpArgs false
set_option maxRecDepth 100000
set_option maxHeartbeats 40000000
section
open Go.RowKit Go.Shelf
attribute [local go_sem] Oper.semAt_some
theorem room_any {u : Value} {s : List Int} {a : Option Addr} {ca : Nat} {w : World} (A : ArgS w u s a ca) (n : Nat) :
 Calls Tryz.prog 67 #[u, .int .i64 (n : Int)] w fun e w' => e = .returned (.int .i64 (makeC s n)) ∧ w = w' := by
 have h1 := mayS_eq A
 have h2 := countS_eq A
 have e : makeC s n = if mayC s ≠ 0 then mayC s else if (n : Int) ≠ countS s then 13 else 0 := rfl
 obtain rfl := A.is
 rw [e]
 generalize mayC s = m at *
 generalize countS s = c at *
 clear e A
 by_cases h : m = 0
 · subst h
   by_cases hc : (n : Int) = c
   · have hn : ((n : Int) != c) = false := by simp [hc]
     have hd : (if (0 : Int) ≠ 0 then (0 : Int) else if (n : Int) ≠ c then 13 else 0) = 0 := by simp [hc]
     rw [hd]
     go_enter Tryz.func67, Tryz.ntmps67
     go_wp2_with (first | (go_at_call 96; refine h1.mono ?_; rintro e w1 ⟨rfl, rfl⟩) | (go_at_call 84; refine h2.mono ?_; rintro e w1 ⟨rfl, rfl⟩))
     go_ret
     exact ⟨rfl, rfl⟩
   · have hn : ((n : Int) != c) = true := by simp [hc]
     have hd : (if (0 : Int) ≠ 0 then (0 : Int) else if (n : Int) ≠ c then 13 else 0) = 13 := by simp [hc]
     rw [hd]
     go_enter Tryz.func67, Tryz.ntmps67
     go_wp2_with (first | (go_at_call 96; refine h1.mono ?_; rintro e w1 ⟨rfl, rfl⟩) | (go_at_call 84; refine h2.mono ?_; rintro e w1 ⟨rfl, rfl⟩))
     go_ret
     exact ⟨rfl, rfl⟩
 · have hn : (m != 0) = true := by simp [h]
   rw [if_pos h]
   go_enter Tryz.func67, Tryz.ntmps67
   go_wp2_with (first | (go_at_call 96; refine h1.mono ?_; rintro e w1 ⟨rfl, rfl⟩) | (go_at_call 84; refine h2.mono ?_; rintro e w1 ⟨rfl, rfl⟩))
   go_ret
   exact ⟨rfl, rfl⟩
theorem elements_any (a b : Option Addr) (n m ca cb : Nat) (w : World) :
 Calls Tryz.prog 64 #[.agg #[.slice a n ca, .slice b m cb]] w fun e w' => e = .returned (.slice b m cb) ∧ Below w.heap.size w w' := by
 go_enter Tryz.func64, Tryz.ntmps64
 go_wp2
 go_ret
 exact ⟨rfl, (Below.refl _ _).alloc (Nat.le_refl _) _⟩
theorem copyShape_any {u : Value} {s : List Int} {a : Option Addr} {ca : Nat} {w : World} (A : ArgS w u s a ca) (hs : s.length ≤ 17592186044416) :
 Calls Tryz.prog 130 #[u] w fun e w' => ∃ r, e = .returned r ∧ ResS w.heap.size w' r s ∧ Below w.heap.size w w' := by
 have h := copiedI_any A.lim A.le hs
 have hw := A.wf
 obtain rfl := A.is
 clear A
 go_enter Tryz.func130, Tryz.ntmps130
 go_wp2_with (go_at_call 156; refine h.mono ?_; rintro e w1 ⟨r, rfl, hr, hb⟩)
 go_ret
 exact ⟨_, rfl, ⟨hr, hw⟩, hb⟩
theorem resS_slice {base : Nat} {w : World} {v : Value} {s : List Int} (h : ResS base w v s) : ∃ a c, v = .slice a s.length c := ownT_slice h.num
theorem rowO_slice {α : Type} {base : Nat} {T : TypeId} {P : World → Value → α → Prop} {w : World} {v : Value} {L : List α} (h : RowO base T P w v L) : ∃ a c, v = .slice a L.length c := by
 obtain ⟨es, h1, h2⟩ := h
 rw [← h2.1]
 exact ownT_slice h1
end
section
open Go.RowKit Go.Shelf
attribute [local go_sem] Oper.semAt_some
theorem RawQ.box {w : World} {v : Value} {q : Q3} (h : RawQ w v q) : ∃ (ad bd : Option Addr) (ca cb : Nat), v = .agg #[.bool q.neg, .slice ad q.num.length ca, .slice bd q.den.length cb] := by
 obtain ⟨ad, bd, ca, cb, rfl, _⟩ := h
 exact ⟨_, _, _, _, rfl⟩
theorem copyT7_any {n : Nat} {w : World} {v : Value} {s : List Int} {qs : List Q3} {a b : Option Addr} {ca cb : Nat} (T : TensQ w v s qs a ca b cb) (hs : s.length ≤ 1048576) (hq : qs.length ≤ 1048576) (hl : lensQ qs n) (hn : n ≤ 4000000) :
 Calls Tryz.prog 86 #[v] w fun e w' => ∃ r, e = .returned r ∧ ResC w.heap.size w' r s qs ∧ Below w.heap.size w w' := by
 obtain rfl := T.is
 obtain ⟨B, hB⟩ : ∃ B, w.heap.size = B := ⟨_, rfl⟩
 obtain ⟨W1, hW1⟩ : ∃ W1, w.alloc (.cells #[.slice a s.length ca, .slice b qs.length cb] 26) = W1 := ⟨_, rfl⟩
 obtain ⟨W2, hW2⟩ : ∃ W2, W1.alloc (.cells #[.slice none 0 0, .slice none 0 0] 26) = W2 := ⟨_, rfl⟩
 have s1 : W1.heap.size = B + 1 := by rw [← hW1, ← hB]; simp
 have s2 : W2.heap.size = B + 1 + 1 := by rw [← hW2, World.size_alloc, s1]
 have R0 : Row W2 B 26 #[.slice a s.length ca, .slice b qs.length cb] := by rw [← hW2, ← hW1, ← hB]; exact (Row.new _ _ _).alloc _
 have R1 : Row W2 (B + 1) 26 #[.slice none 0 0, .slice none 0 0] := by rw [← hW2, ← s1]; exact Row.new _ _ _
 have hb2 : Below B w W2 := by rw [← hW2, ← hW1]; exact ((Below.refl _ w).alloc (by omega) _).alloc (by simp; omega) _
 have T2 := T.later (by rw [hB]; exact hb2)
 have HT := Lib.hid T2
 obtain ⟨c0, c1, _, _⟩ := R0.two
 have HL := Lib.hid hl
 clear T T2 hl
 go_enter Tryz.func86, Tryz.ntmps86
 go_wp2_with fail
 have mkS : ∀ Y, Below W2.heap.size W2 Y → Y.cell? ⟨B, 0, none⟩ = some (.slice a s.length ca) ∧ Y.cell? ⟨B, 1, none⟩ = some (.slice b qs.length cb) := fun Y hb => by
  obtain ⟨x0, x1, _⟩ := (R0.later hb).two
  exact ⟨x0, x1⟩
 have b0 : Below W2.heap.size W2 W2.drew := (Below.refl _ W2).drew
 refine wp_region_L (S := fun Y => Y.cell? ⟨B, 0, none⟩ = some (.slice a s.length ca) ∧ Y.cell? ⟨B, 1, none⟩ = some (.slice b qs.length cb)) (z := 7) (by kernel_rfl) (mkS _ b0) (fun hHeld => ?_)
 refine todo [0, 1, 3] ?_
 iterate 3
  refine todoL (v := ?_) rfl (by kernel_rfl) (fun _ _ _ h => h) (by assumption) (Or.inl ⟨by rfl, ?_⟩) ?_
  rotate_left
  · intro w hSw; (try dsimp only at hSw); go_simp; (try with_reducible rfl)
  try simp only [Act.put, nA, nB, nC, nD, nE, nF]
 refine todone ?_
 refine wpAnyL_one (i := 2) (by kernel_rfl) rfl (fun K hK => ?sb2)
 go_simp
 refine (copyShape_any (HT.out.sh.later b0) (by omega)).mono ?_
 rintro e w3 ⟨r3, rfl, R3, b3⟩
 obtain ⟨g1, k1, rfl⟩ := resS_slice R3
 go_simp
 have b03 : Below W2.heap.size W2 w3 := b0.trans b3
 have s3 := b03.size
 refine hK.out _ _ (fun _ => mkS _ b03) (fun hHeld2 => ?mb03)
 clear hK K hHeld
 have hHeld := hHeld2 (by decide)
 clear hHeld2
 try simp only [Act.put, nD, nE, nF]
 refine wpAnyL_one (i := 4) (by kernel_rfl) rfl (fun K hK => ?sb4)
 go_simp
 refine (elements_any _ _ _ _ _ _ _).mono ?_
 rintro e w4 ⟨rfl, b4⟩
 go_simp
 have b04 : Below W2.heap.size W2 w4 := b03.trans (b4.mono s3)
 have s4 := b4.size
 refine hK.out _ _ (fun _ => mkS _ b04) (fun hHeld2 => ?mb04)
 clear hK K hHeld
 have hHeld := hHeld2 (by decide)
 clear hHeld2
 try simp only [Act.put, nD, nE, nF]
 refine wpAnyL_one (i := 5) (by kernel_rfl) rfl (fun K hK => ?sb5)
 go_simp
 refine (madeC_any (HT.out.el.later b04 (fun v x _ k => k.later b04)) (by omega) HL.out (by omega)).mono ?_
 rintro e w5 ⟨r5, rfl, R5, b5⟩
 obtain ⟨g2, k2, rfl⟩ := rowO_slice R5
 go_simp
 have b05 : Below W2.heap.size W2 w5 := b04.trans (b5.mono (by omega))
 refine hK.out _ _ (fun _ => mkS _ b05) (fun hHeld2 => ?mb05)
 clear hK K hHeld
 have hHeld := hHeld2 (by decide)
 clear hHeld2
 try simp only [Act.put, nD, nE, nF]
 refine wpAnyL_take (i := 6) (v := ?va6) rfl (by kernel_rfl) (by kernel_rfl) (by kernel_rfl) (by kernel_rfl) (fun _ _ _ h => h) (Or.inl ⟨by rfl, ?ha6⟩) (by assumption) ?ra6
 case ha6 =>
  intro w hSw
  try dsimp only at hSw
  go_simp
  try with_reducible rfl
 try simp only [Act.put, nD, nE, nF]
 have R6 := R1.later b05
 obtain ⟨u0, u1, u2, u3⟩ := R6.two
 have R7 := R6.set2 (.slice g1 s.length k1) (.slice g2 qs.length k2)
 obtain ⟨y0, y1, _, _⟩ := R7.two
 refine wpAnyL_one (i := 7) (by kernel_rfl) rfl (fun K hK => ?sb7)
 go_simp
 refine hK.out _ _ (fun h => absurd rfl h) (fun _ => ?mb7)
 clear hK K
 try simp only [Act.put, nD, nE, nF]
 refine wpAnyL_done (by kernel_rfl) ?_ _
 have HR6 := Lib.hid R6
 clear R6 R7 u0 u1
 go_wp2
 refine bodyPost_ret (v := .agg #[.slice g1 s.length k1, .slice g2 qs.length k2]) (by simp [results, Tryz.results86, go_sem, y0, y1]) rfl ⟨_, rfl, ⟨g1, g2, k1, k2, rfl, ?_, ?_⟩, ?_⟩
 · rw [hB]; exact (((R3.later b4).later b5).mono (by show B ≤ W2.heap.size; omega)).far HR6.out (by decide) (kept2 _ _)
 · rw [hB]; exact RowO.far (R5.mono (base' := B) (Q := fun W v x => RawO B W v x) (by omega) (fun v x h => h.mono (by omega))) HR6.out (by decide) (kept2 _ _) (fun u y h => h.far HR6.out (by decide) (kept2 _ _))
 · rw [hB]; exact below_set2 (g := B + 1) (hb2.trans (b05.mono (by omega))) (by omega) _ _
end
section
open Go.RowKit
theorem ownT_tens {base : Nat} {w : World} {a b : Option Addr} {ca cb : Nat} {s : List Int} {qs : List Q3} (S : ResS base w (.slice a s.length ca) s) (E : RowO base 54 (fun W v x => RawO base W v x) w (.slice b qs.length cb) qs) :
 TensQ w (.agg #[.slice a s.length ca, .slice b qs.length cb]) s qs a ca b cb := ⟨rfl, S.at_.2.1, S.at_.2.2, E.at_.2.1.imp (fun v x _ h => h.raw), E.at_.2.2⟩
end
section
open Go.RowKit
theorem IdxP.keepC {B : Nat} {X Y : World} {ad : Option Addr} {cap : Nat} {zs : List Int} (h : IdxP B X ad cap zs) (k : KeepC X Y) : IdxP B Y ad cap zs := by
 rcases h with h | ⟨g, e, k1, k2, cur, hh, hr⟩
 · exact .inl h
 · exact .inr ⟨g, e, k1, k2, cur, (k _ _ _ _ hh).trans hh, hr⟩
theorem IdxP.drew {B : Nat} {X : World} {ad : Option Addr} {cap : Nat} {zs : List Int} (h : IdxP B X ad cap zs) : IdxP B X.drew ad cap zs := h
theorem ResS.keepC {base : Nat} {w w' : World} {v : Value} {xs : List Int} (h : ResS base w v xs) (k : KeepC w w') : ResS base w' v xs := by
 obtain ⟨⟨h1, h2⟩, hw⟩ := h
 refine ⟨⟨h1, ?_⟩, hw⟩
 rcases h2 with h2 | ⟨g, cap, cur, hv, hb, hg, hr⟩
 · exact .inl h2
 · exact .inr ⟨g, cap, cur, hv, hb, (k _ _ _ _ hg).trans hg, hr⟩
theorem IdxP.res {B : Nat} {X : World} {ad : Option Addr} {cap : Nat} {zs : List Int} (h : IdxP B X ad cap zs) (hw : Wid zs) : ResS B X (.slice ad zs.length cap) zs := by
 rcases h with ⟨rfl, rfl, rfl⟩ | ⟨g, rfl, k1, k2, hP⟩
 · exact ResS.nil _ _
 · exact ⟨hP.num k1 k2, hw⟩
end
section
open Go.RowKit Go.Shelf
attribute [local go_sem] Oper.semAt_some
theorem ResT.keepC {base m : Nat} {w w' : World} {v : Value} {s : List Int} {L : List Rat} (h : ResT base w v s L m) (k : KeepC w w') : ResT base w' v s L m := by
 obtain ⟨a, b, ca, cb, e, RS, es, hown, hall⟩ := h
 exact ⟨a, b, ca, cb, e, RS.keepC k, es, hown.keepC k, hall.imp fun v x _ h => h.keepC k⟩
end
section
open Go.RowKit
def OwnX (w : World) (a b : Value) (x : X2) : Prop := ∃ (p r : Option Addr) (cx cy base : Nat), a = .slice p x.s.length cx ∧ b = .slice r x.q.length cy ∧ ResS base w a x.s ∧ RowO base 54 (fun W v q => RawO base W v q) w b x.q
def OwnY (m : Nat) (w : World) (a b : Value) (y : Y2) : Prop := ∃ (p r : Option Addr) (cx cy base : Nat), a = .slice p y.s.length cx ∧ b = .slice r y.l.length cy ∧ ResS base w a y.s ∧ RowO base 58 (fun W v q => ResR base W v q m) w b y.l
theorem OwnX.later {w w' : World} {a b : Value} {x : X2} (h : OwnX w a b x) (hb : Below w.heap.size w w') : OwnX w' a b x := by
 obtain ⟨p, r, cx, cy, base, ha, he, S, E⟩ := h
 exact ⟨p, r, cx, cy, base, ha, he, S.later hb, E.later hb (fun v x h => h.later hb)⟩
theorem OwnY.later {m : Nat} {w w' : World} {a b : Value} {y : Y2} (h : OwnY m w a b y) (hb : Below w.heap.size w w') : OwnY m w' a b y := by
 obtain ⟨p, r, cx, cy, base, ha, he, S, E⟩ := h
 exact ⟨p, r, cx, cy, base, ha, he, S.later hb, E.later hb (fun v x h => h.later hb)⟩
structure E2 where
 a : Value
 b : Value
def flat2 : List E2 → List Value
 | [] => []
 | e :: r => e.a :: e.b :: flat2 r
theorem flat2_append (x y : List E2) : flat2 (x ++ y) = flat2 x ++ flat2 y := by
 induction x with
 | nil => rfl
 | cons e r ih => simp only [List.cons_append, flat2, ih]
theorem flat2_get {es : List E2} {i : Nat} {e : E2} (h : es[i]? = some e) : (flat2 es)[i * 2]? = some e.a ∧ (flat2 es)[i * 2 + 1]? = some e.b := by
 induction es generalizing i with
 | nil => simp at h
 | cons d r ih =>
  cases i with
  | zero => simp only [List.getElem?_cons_zero, Option.some.injEq] at h; subst h; exact ⟨rfl, rfl⟩
  | succ i =>
   have h2 := ih (by simpa using h)
   rw [show (i + 1) * 2 = i * 2 + 1 + 1 by omega]
   exact ⟨h2.1, h2.2⟩
def RowP {α : Type} (base : Nat) (T : TypeId) (Q : World → Value → Value → α → Prop) (w : World) (v : Value) (l : List α) : Prop := ∃ es : List E2, w.ownsRow base T 2 v es.length (flat2 es) ∧ es.length = l.length ∧ ∀ (i : Nat) (e : E2) (x : α), es[i]? = some e → l[i]? = some x → Q w e.a e.b x
theorem RowP.nil {α : Type} (base : Nat) (T : TypeId) (Q : World → Value → Value → α → Prop) (w : World) : RowP base T Q w (.slice none 0 0) ([] : List α) := ⟨[], World.ownsRow_nil _ _ _ _, rfl, fun i e x h => by simp at h⟩
theorem RowP.later {α : Type} {base : Nat} {T : TypeId} {Q : World → Value → Value → α → Prop} {w w' : World} {v : Value} {l : List α} (h : RowP base T Q w v l) (hb : Below w.heap.size w w') (hQ : ∀ a b x, Q w a b x → Q w' a b x) : RowP base T Q w' v l := by
 obtain ⟨es, h1, h2, h3⟩ := h
 refine ⟨es, ?_, h2, fun i e x a b => hQ _ _ _ (h3 i e x a b)⟩
 obtain ⟨k1, k2⟩ := h1
 refine ⟨k1, k2.imp id ?_⟩
 rintro ⟨g, cap, cur, rfl, hb', hg, hr⟩
 exact ⟨g, cap, cur, rfl, hb', (hb.block g (lt_of_block hg)).trans hg, hr⟩
theorem RowP.push {α : Type} {base : Nat} {T : TypeId} {Q : World → Value → Value → α → Prop} {w w1 : World} {v v' : Value} {es : List E2} {l : List α} {e : E2} {x : α} (hl : es.length = l.length) (hall : ∀ (i : Nat) (e : E2) (x : α), es[i]? = some e → l[i]? = some x → Q w e.a e.b x) (hx : Q w e.a e.b x) (hQ : ∀ a b x, Q w a b x → Q w1 a b x)
 (hown' : w1.ownsRow base T 2 v' (es.length + 1) (flat2 es ++ [e.a, e.b])) : RowP base T Q w1 v' (l ++ [x]) := by
 refine ⟨es ++ [e], ?_, by simp [hl], fun i d y h1 h2 => hQ _ _ _ ?_⟩
 · rw [List.length_append, flat2_append]
   exact hown'
 · by_cases hlt : i < es.length
   · rw [List.getElem?_append_left hlt] at h1
     rw [List.getElem?_append_left (by omega)] at h2
     exact hall i d y h1 h2
   · rw [List.getElem?_append_right (by omega)] at h1 h2
     have e0 : i - es.length = 0 := by
      rcases Nat.eq_zero_or_pos (i - es.length) with h | h
      · exact h
      · rw [List.getElem?_eq_none (by simp; omega)] at h1; cases h1
     rw [e0] at h1
     rw [show i - l.length = 0 by omega] at h2
     simp only [List.getElem?_cons_zero, Option.some.injEq] at h1 h2
     subst h1
     subst h2
     exact hx
theorem RowP.cells {base n : Nat} {T : TypeId} {w : World} {v : Value} {es : List E2} (h : w.ownsRow base T 2 v n (flat2 es)) (hn : n = es.length) : ∃ ad cap, v = .slice ad es.length cap ∧ es.length ≤ cap ∧ (ad = none → cap = 0) ∧ (es = [] ∨ ∃ b, ad = some ⟨b, 0, none⟩ ∧ ∀ (i : Nat) (e : E2), es[i]? = some e → w.cell? ⟨b, 0 + i * 2, none⟩ = some e.a ∧ w.cell? ⟨b, 0 + i * 2 + 1, none⟩ = some e.b) := by
 subst hn
 obtain ⟨h1, h2⟩ := h
 rcases h2 with ⟨rfl, hz⟩ | ⟨g, cap, cur, rfl, hb, hg, hc, hm, hs, ht⟩
 · exact ⟨none, 0, by rw [hz], by omega, fun _ => rfl, .inl (List.eq_nil_of_length_eq_zero hz)⟩
 · refine ⟨_, cap, rfl, hc, (fun h => by cases h), .inr ⟨g, rfl, fun i e he => ?_⟩⟩
   have hi : i < es.length := by
    rcases Nat.lt_or_ge i es.length with h | h
    · exact h
    · rw [List.getElem?_eq_none h] at he; cases he
   obtain ⟨f0, f1⟩ := flat2_get he
   have hat : ∀ j, j < es.length * 2 → cur[j]? = (flat2 es)[j]? := fun j hj => by
    have e1 : (cur.toList.take (es.length * 2))[j]? = (flat2 es)[j]? := by rw [ht]
    rw [List.getElem?_take, if_pos hj, Array.getElem?_toList] at e1
    exact e1
   rw [Nat.zero_add]
   exact ⟨(cell_of_row w g _ cur _ _ hg).trans ((hat _ (by omega)).trans f0), (cell_of_row w g _ cur _ _ hg).trans ((hat _ (by omega)).trans f1)⟩
theorem RowP.tens {base : Nat} {T : TypeId} {w : World} {v : Value} {l : List X2} (h : RowP base T OwnX w v l) : ∃ ad cap, RowT w v l ad cap ∧ (ad = none → cap = 0) := by
 obtain ⟨es, h1, h2, h3⟩ := h
 obtain ⟨ad, cap, rfl, hc, hn, hr⟩ := RowP.cells h1 rfl
 refine ⟨ad, cap, ⟨by rw [h2], by rw [← h2]; exact hc, ?_⟩, hn⟩
 rcases hr with rfl | ⟨b, rfl, hce⟩
 · exact .inl (List.eq_nil_of_length_eq_zero h2.symm)
 · refine .inr ⟨b, 0, rfl, fun i x hx => ?_⟩
   obtain ⟨e, he⟩ : ∃ e, es[i]? = some e := ⟨_, List.getElem?_eq_getElem (by
    rcases Nat.lt_or_ge i l.length with h | h
    · omega
    · rw [List.getElem?_eq_none h] at hx; cases hx)⟩
   obtain ⟨p, r, cx, cy, base', ha, hb, S, E⟩ := h3 i e x he hx
   obtain ⟨k0, k1⟩ := hce i e he
   rw [ha] at k0 S
   rw [hb] at k1 E
   exact ⟨p, r, cx, cy, k0, k1, ownT_tens S E⟩
end
section
open Go.RowKit
def axC (l : List Int) (rank : Int) : Int := if ∃ i, i < l.length ∧ l.getD i 0 ≤ lastS l i then 11 else if rank ≤ lastS l l.length then 13 else 0
theorem axC_bad {l : List Int} {rank : Int} {i : Nat} (hi : i < l.length) (h : l.getD i 0 ≤ lastS l i) : axC l rank = 11 := if_pos ⟨i, hi, h⟩
theorem axC_good {l : List Int} {rank : Int} (h : ∀ i, i < l.length → ¬ l.getD i 0 ≤ lastS l i) : axC l rank = if rank ≤ lastS l l.length then 13 else 0 := if_neg fun ⟨i, hi, h2⟩ => h i hi h2
theorem mayAxes_any {l : List Int} {a : Option Addr} {ca : Nat} {w : World} (rank : Int) (A : ArgS w (.slice a l.length ca) l a ca) (hx : l.length ≤ 17592186044416) (h0 : -9223372036854775808 ≤ rank) (h1 : rank ≤ 9223372036854775807) :
 Calls Tryz.prog 42 #[.slice a l.length ca, .int .i64 rank] w fun e w' => e = .returned (.int .i64 (axC l rank)) ∧ w = w' := by
 have HA := Lib.hid A
 obtain ⟨c, hc⟩ : ∃ c, axC l rank = c := ⟨_, rfl⟩
 obtain ⟨L, hL⟩ : ∃ L, l.length = L := ⟨_, rfl⟩
 rw [hL] at hx
 rw [hc, hL]
 have HC := Lib.hid hc
 have HL := Lib.hid hL
 clear A hc hL
 go_enter Tryz.func42, Tryz.ntmps42
 go_wp2
 go_loop [5, 7, 10] (fun p _ i => ∃ (k : Nat), i = .int .i64 (k : Int) ∧ p = .int .i64 (lastS l k) ∧ k ≤ L ∧ ∀ i, i < k → ¬ l.getD i 0 ≤ lastS l i) (fun _ _ i => L - (intOf i).toNat)
 case atStart => exact ⟨0, rfl, rfl, Nat.zero_le _, fun i hi => by omega⟩
 case round =>
  obtain ⟨k, rfl, rfl, hk, hax⟩ := hrel
  have HX := Lib.hid hax
  obtain ⟨p, hp⟩ : ∃ p, lastS l k = p := ⟨_, rfl⟩
  have HP := Lib.hid hp
  rw [hp]
  clear hax hp
  by_cases hlt : k < L
  · obtain ⟨b1, o1, rfl, c1⟩ := HA.out.at (i := k) (by rw [HL.out]; exact hlt)
    obtain ⟨x, hxe⟩ : ∃ x, l.getD k 0 = x := ⟨_, rfl⟩
    rw [hxe] at c1
    have HXE := Lib.hid hxe
    have hltI : (k : Int) < (L : Int) := by omega
    clear hxe
    by_cases hg : x ≤ p
    · obtain rfl : c = 11 := by rw [← HC.out]; exact axC_bad (i := k) (by rw [HL.out]; exact hlt) (by rw [HXE.out, HP.out]; exact hg)
      go_wp2
      go_ret
      exact ⟨rfl, rfl⟩
    · go_wp2
      go_round
      case rel => exact ⟨k + 1, by go_num, congrArg (Value.int .i64) HXE.out.symm, by omega, fun i hi => by
       by_cases e : i = k
       · subst e; rw [HXE.out, HP.out]; exact hg
       · exact HX.out i (by omega)⟩
      case measure => simp [intOf]; omega
  · obtain rfl : k = L := by omega
    have hcc : c = if rank ≤ p then 13 else 0 := by rw [← HC.out, axC_good (by rw [HL.out]; exact HX.out), HL.out, HP.out]
    have hltI : ¬ (k : Int) < (k : Int) := by omega
    by_cases hr : rank ≤ p
    · rw [if_pos hr] at hcc
      subst hcc
      have hrI : p ≥ rank := hr
      go_wp2
      go_ret
      exact ⟨rfl, rfl⟩
    · rw [if_neg hr] at hcc
      subst hcc
      have hrI : ¬ p ≥ rank := hr
      go_wp2
      go_ret
      exact ⟨rfl, rfl⟩
theorem CellsE.take {w : World} {b o : Nat} {es : List E3} (h : CellsE w b o es) (m : Nat) : CellsE w b o (es.take m) := fun i e he => h i e (by
 rw [List.getElem?_take] at he
 split at he
 · exact he
 · cases he)
theorem CellsE.drop {w : World} {b o : Nat} {es : List E3} (h : CellsE w b o es) (m : Nat) : CellsE w b (o + m * 3) (es.drop m) := fun i e he => by
 rw [List.getElem?_drop] at he
 have := h (m + i) e he
 rwa [show o + (m + i) * 3 = o + m * 3 + i * 3 by omega] at this
theorem AllE.take {α : Type} {P : Value → α → Prop} {es : List E3} {L : List α} (h : AllE P es L) (m : Nat) : AllE P (es.take m) (L.take m) := ⟨by rw [List.length_take, List.length_take, h.1], fun i e x h1 h2 => by
 rw [List.getElem?_take] at h1 h2
 split at h1
 · next hlt => rw [if_pos hlt] at h2; exact h.2 i e x h1 h2
 · cases h1⟩
theorem AllE.drop {α : Type} {P : Value → α → Prop} {es : List E3} {L : List α} (h : AllE P es L) (m : Nat) : AllE P (es.drop m) (L.drop m) := ⟨by rw [List.length_drop, List.length_drop, h.1], fun i e x h1 h2 => by
 rw [List.getElem?_drop] at h1 h2
 exact h.2 _ e x h1 h2⟩
theorem RowA.takeL {α : Type} {P : World → Value → α → Prop} {w : World} {u : Value} {L : List α} {ad : Option Addr} {cap : Nat} (h : RowA P w u L ad cap) (m : Nat) : RowA P w (.slice ad (L.take m).length cap) (L.take m) ad cap := by
 refine ⟨rfl, Nat.le_trans (by rw [List.length_take]; exact Nat.min_le_right _ _) h.le, ?_⟩
 rcases h.els with e | ⟨b, o, es, e, c, k⟩
 · exact .inl (by rw [e]; simp)
 · exact .inr ⟨b, o, es.take m, e, c.take m, k.take m⟩
theorem RowA.dropL {α : Type} {P : World → Value → α → Prop} {w : World} {u : Value} {L : List α} {b o cap : Nat} (h : RowA P w u L (some ⟨b, o, none⟩) cap) (m : Nat) (hm : m ≤ L.length) : RowA P w (.slice (some ⟨b, o + m * 3, none⟩) (L.drop m).length (cap - m)) (L.drop m) (some ⟨b, o + m * 3, none⟩) (cap - m) := by
 refine ⟨rfl, by rw [List.length_drop]; have := h.le; omega, ?_⟩
 rcases h.els with e | ⟨b', o', es, e, c, k⟩
 · exact .inl (by rw [e]; simp)
 · cases e
   exact .inr ⟨b, o + m * 3, es.drop m, rfl, c.drop m, k.drop m⟩
def TotQ (k base N : Nat) : Prop := ∀ {w : World} {L : List Rat} {ad : Option Addr} {cap : Nat}, RowA (fun W v x => ResQ base W v x N) w (.slice ad L.length cap) L ad cap → 1 ≤ L.length → L.length ≤ 2 ^ k → base ≤ w.heap.size →
 Calls Tryz.prog 87 #[.slice ad L.length cap] w fun e w' => ∃ r, e = .returned r ∧ ResQ base w' r (totL L) ((N + 10) * 2 ^ k - 10) ∧ Below w.heap.size w w'
theorem total_one {B base N : Nat} {w : World} {x : Rat} {ad : Option Addr} {cap : Nat} (E : RowA (fun W v x => ResQ base W v x N) w (.slice ad 1 cap) [x] ad cap) (hb : base ≤ w.heap.size) (hB : N ≤ B) :
 Calls Tryz.prog 87 #[.slice ad 1 cap] w fun e w' => ∃ r, e = .returned r ∧ ResQ base w' r x B ∧ Below w.heap.size w w' := by
 obtain ⟨bb, o, y0, y1, y2, q, hbo, hqk, f0, f1, f2, hq⟩ := E.at (i := 0) (by simp)
 simp only [List.getElem?_cons_zero, Option.some.injEq] at hqk
 subst hqk
 subst hbo
 have HQ := Lib.hid hq
 obtain ⟨m5, f1', l1, j1, f2', l2, j2, e0⟩ := hq.shape
 simp only [Value.agg.injEq, Array.mk.injEq, List.cons.injEq, and_true] at e0
 obtain ⟨rfl, rfl, rfl⟩ := e0
 obtain ⟨W, hW⟩ : ∃ W, w.alloc (.cells #[.bool false, .slice none 0 0, .slice none 0 0] 54) = W := ⟨_, rfl⟩
 have R0 : Row W w.heap.size 54 #[.bool false, .slice none 0 0, .slice none 0 0] := by rw [← hW]; exact Row.new _ _ _
 have hBW : Below w.heap.size w W := by rw [← hW]; exact (Below.refl _ _).alloc (Nat.le_refl _) _
 have g0 := (hBW.cell (World.block_lt_of_cell? _ _ f0)).trans f0
 have g1 := (hBW.cell (World.block_lt_of_cell? _ _ f1)).trans f1
 have g2 := (hBW.cell (World.block_lt_of_cell? _ _ f2)).trans f2
 obtain ⟨u0, u1, u2, k0, k1, k2⟩ := R0.three
 have HR := Lib.hid R0
 simp only [Nat.zero_mul, Nat.add_zero] at g0 g1 g2
 clear E hq f0 f1 f2 R0
 go_enter Tryz.func87, Tryz.ntmps87
 (try rw [hW])
 go_wp2_with fail
 have P3 := HR.out.set3 (.bool m5) (.slice f1' l1 j1) (.slice f2' l2 j2)
 obtain ⟨z0, z1, z2, _, _, _⟩ := P3.three
 refine bodyPost_ret (v := .agg #[.bool m5, .slice f1' l1 j1, .slice f2' l2 j2]) (by simp [results, Tryz.results87, go_sem, z0, z1, z2]) rfl ⟨_, rfl, ?_, below_set3 hBW (Nat.le_refl _) _ _ _⟩
 exact ((HQ.out.later hBW).far HR.out (by decide) (kept3 _ _ _)).more hB
theorem total_two {k base N : Nat} (ih : TotQ k base N) (hN : (N + 10) * 2 ^ k ≤ 16000000) {w : World} {L : List Rat} {ad : Option Addr} {cap : Nat} (E : RowA (fun W v x => ResQ base W v x N) w (.slice ad L.length cap) L ad cap) (h2 : 2 ≤ L.length) (hk : L.length ≤ 2 ^ (k + 1)) (hb : base ≤ w.heap.size) :
 Calls Tryz.prog 87 #[.slice ad L.length cap] w fun e w' => ∃ r, e = .returned r ∧ ResQ base w' r (totL L) ((N + 10) * 2 ^ (k + 1) - 10) ∧ Below w.heap.size w w' := by
 obtain ⟨P, hP⟩ : ∃ P, (N + 10) * 2 ^ k = P := ⟨_, rfl⟩
 have hP2 : (N + 10) * 2 ^ (k + 1) = 2 * P := by rw [Nat.pow_succ, ← Nat.mul_assoc, hP, Nat.mul_comm]
 have hPk : 2 ^ k ≤ P := by rw [← hP]; exact Nat.le_mul_of_pos_left _ (by omega)
 have hPN : N + 10 ≤ P := by rw [← hP]; exact Nat.le_mul_of_pos_right _ (Nat.pow_pos (by omega))
 rw [Nat.pow_succ] at hk
 obtain ⟨M, hM⟩ : ∃ M, L.length = M := ⟨_, rfl⟩
 obtain ⟨h, hh⟩ : ∃ h, M / 2 = h := ⟨_, rfl⟩
 have hcap := E.le
 obtain ⟨b, o, rfl⟩ : ∃ b o, ad = some ⟨b, o, none⟩ := by
  rcases E.els with e | ⟨b, o, es, e, _, _⟩
  · rw [e] at h2; simp at h2
  · exact ⟨b, o, e⟩
 have E1 := E.takeL h
 have E2 := E.dropL h (by omega)
 have l1 : (L.take h).length = h := by rw [List.length_take]; omega
 have l2 : (L.drop h).length = M - h := by rw [List.length_drop, hM]
 have hs : totL L = totL (L.take h) + totL (L.drop h) := by rw [← totL_append, List.take_append_drop]
 rw [hM] at h2 hk hcap
 obtain ⟨L1, hL1⟩ : ∃ L1, L.take h = L1 := ⟨_, rfl⟩
 obtain ⟨L2, hL2⟩ : ∃ L2, L.drop h = L2 := ⟨_, rfl⟩
 rw [hL1] at E1 l1 hs
 rw [hL2] at E2 l2 hs
 have c1 := fun (X : World) (hX : Below w.heap.size w X) => ih (E1.later hX (fun _ _ _ h => h.later hX)) (by rw [l1]; omega) (by rw [l1]; omega) (Nat.le_trans hb hX.size)
 have c2 := fun (X : World) (hX : Below w.heap.size w X) => ih (E2.later hX (fun _ _ _ h => h.later hX)) (by rw [l2]; omega) (by rw [l2]; omega) (Nat.le_trans hb hX.size)
 rw [l1, hP] at c1
 rw [l2, hP] at c2
 rw [hs, hP2, hM]
 have HC1 := Lib.hid c1
 have HC2 := Lib.hid c2
 obtain ⟨W, hW⟩ : ∃ W, w.alloc (.cells #[.bool false, .slice none 0 0, .slice none 0 0] 54) = W := ⟨_, rfl⟩
 have R0 : Row W w.heap.size 54 #[.bool false, .slice none 0 0, .slice none 0 0] := by rw [← hW]; exact Row.new _ _ _
 have hBW : Below w.heap.size w W := by rw [← hW]; exact (Below.refl _ _).alloc (Nat.le_refl _) _
 have hsW : W.heap.size = w.heap.size + 1 := by rw [← hW]; simp
 have et : Int.tdiv (M : Int) 2 = (h : Int) := by rw [Int.tdiv_eq_ediv_of_nonneg (by omega)]; omega
 have hne : ((M : Int) == 1) = false := by rw [beq_eq_false_iff_ne]; omega
 have b1 : (h : Int) ≤ (cap : Int) := by omega
 have b2 : (h : Int) ≤ (M : Int) := by omega
 have hPb : P ≤ 16000000 := by omega
 have hM32 : M ≤ 32000000 := by omega
 have HM := Lib.hid hM
 have mkS : ∀ X, Kept w.heap.size W X → Kept w.heap.size W X := fun X h => h
 clear E E1 E2 hM hs hP hP2 hL1 hL2 c1 c2 l1 l2 hN hk hPk
 go_enter Tryz.func87, Tryz.ntmps87
 (try rw [hW])
 go_wp2_with fail
 have b0 : (0 : Int) ≤ (h : Int) := by clear et; omega
 have bn : ¬ cap = h := by clear et; omega
 clear et hh hW
 have k0 : Kept w.heap.size W W.drew := (Kept.refl _ _).drew
 refine wp_region_L (S := fun X => Kept w.heap.size W X) (z := 9) (by kernel_rfl) k0 (fun hHeld => ?_)
 refine todo [0, 1, 2, 4, 5, 6] ?_
 iterate 6
  refine todoL (v := ?_) rfl (by kernel_rfl) (fun _ _ _ h => h) (by assumption) (Or.inl ⟨by rfl, ?_⟩) ?_
  rotate_left
  · intro w hSw; (try dsimp only at hSw); go_simp; (try with_reducible rfl)
  try simp only [Act.put, nA, nB, nC, nD, nE, nF]
 refine todone ?_
 refine wpAnyL_one (i := 3) (by kernel_rfl) rfl (fun K hK => ?sbt_3)
 go_simp
 refine (HC1.out _ (Kept.under k0 hBW (by omega) (Nat.le_refl _))).mono ?_
 rintro e w1 ⟨r1, rfl, q1, hb1⟩
 have k1 : Kept w.heap.size W w1 := k0.below hb1
 go_simp
 refine hK.out _ _ (fun _ => k0.below hb1) (fun hHeld2 => ?mbt_3)
 clear hK K hHeld
 have hHeld := hHeld2 (by decide)
 clear hHeld2
 try simp only [Act.put, nA, nB, nC, nD, nE, nF]
 refine wpAnyL_one (i := 7) (by kernel_rfl) rfl (fun K hK => ?sbt_7)
 go_simp
 refine (HC2.out _ (Kept.under k1 hBW (by omega) (Nat.le_refl _))).mono ?_
 rintro e w2 ⟨r2, rfl, q2, hb2⟩
 have k2 : Kept w.heap.size W w2 := k1.below hb2
 go_simp
 refine hK.out _ _ (fun _ => k1.below hb2) (fun hHeld2 => ?mbt_7)
 clear hK K hHeld
 have hHeld := hHeld2 (by decide)
 clear hHeld2
 try simp only [Act.put, nA, nB, nC, nD, nE, nF]
 refine wpAnyL_one (i := 8) (by kernel_rfl) rfl (fun K hK => ?sbt_8)
 go_simp
 refine (addQ_any (n := P - 10) (q1.later hb2).arg q2.arg (by omega)).mono ?_
 rintro e w3 ⟨r3, rfl, q3, hb3⟩
 have k3 : Kept w.heap.size W w3 := k2.below hb3
 have B3 : Below w.heap.size w w3 := Kept.under k3 hBW (by omega) (Nat.le_refl _)
 have Q3 := Lib.hid q3
 obtain ⟨m5, f1, l1, j1, f2, l2, j2, rfl⟩ := q3.shape
 clear q3
 go_simp
 refine hK.out _ _ (fun _ => k2.below hb3) (fun hHeld2 => ?mbt_8)
 clear hK K hHeld
 have hHeld := hHeld2 (by decide)
 clear hHeld2
 try simp only [Act.put, nA, nB, nC, nD, nE, nF]
 have d0 : Below W.heap.size W W.drew := (Below.refl _ W).drew
 have d1 : Below W.heap.size W w1 := d0.trans hb1
 have d2 : Below W.heap.size W w2 := d1.trans (hb2.mono d1.size)
 have d3 : Below W.heap.size W w3 := d2.trans (hb3.mono d2.size)
 have P3 := R0.later d3
 obtain ⟨u0, u1, u2, g0, g1, g2⟩ := P3.three
 refine wpAnyL_one (i := 9) (by kernel_rfl) rfl (fun K hK => ?sbt_9)
 go_simp
 refine hK.out _ _ (fun h => absurd rfl h) (fun _ => ?mbt_9)
 clear hK K
 try simp only [Act.put, nA, nB, nC, nD, nE, nF]
 refine wpAnyL_done (by kernel_rfl) ?_ _
 go_wp2_with fail
 have Z3 := P3.set3 (.bool m5) (.slice f1 l1 j1) (.slice f2 l2 j2)
 obtain ⟨z0, z1, z2, _, _, _⟩ := Z3.three
 refine bodyPost_ret (v := .agg #[.bool m5, .slice f1 l1 j1, .slice f2 l2 j2]) (by simp [results, Tryz.results87, go_sem, z0, z1, z2]) rfl ⟨_, rfl, ?_, below_set3 B3 (Nat.le_refl _) _ _ _⟩
 exact (((Q3.out.mono (Nat.le_trans hb (Nat.le_trans hBW.size d2.size))).far P3 (by decide) (kept3 _ _ _))).more (by omega)
theorem totalF_any (k : Nat) {base N : Nat} (hN : (N + 10) * 2 ^ k ≤ 16000000) : TotQ k base N := by
 induction k with
 | zero =>
  intro w L ad cap E h1 h2 hb
  match L, h1, h2 with
  | [x], _, _ =>
   rw [show totL [x] = x from totL_one x]
   exact total_one E hb (by omega)
  | x :: y :: l, _, h2 => simp at h2
 | succ k ih =>
  have h3 : (N + 10) * 2 ^ k ≤ 16000000 := by rw [Nat.pow_succ, ← Nat.mul_assoc] at hN; omega
  intro w L ad cap E h1 h2 hb
  by_cases e : L.length = 1
  · match L, e with
    | [x], _ =>
     rw [show totL [x] = x from totL_one x]
     have : N + 10 ≤ (N + 10) * 2 ^ (k + 1) := Nat.le_mul_of_pos_right _ (Nat.pow_pos (by omega))
     exact total_one E hb (by omega)
  · exact total_two (ih h3) h3 E (by omega) h2 hb
end
section
open Go.RowKit Go.Shelf
attribute [local go_sem] Oper.semAt_some
structure KpC (n₀ g : Nat) (A B : World) : Prop where
 below : Below n₀ A B
 box : B.heap[g]? = A.heap[g]?
 marks : ∀ (D : Nat), A.heap[D]? = some (.deferred (some [])) → B.heap[D]? = some (.deferred (some []))
theorem KpC.trans {n₀ g : Nat} {A B C : World} (h : KpC n₀ g A B) (k : KpC n₀ g B C) : KpC n₀ g A C := ⟨h.below.trans k.below, k.box.trans h.box, fun D hD => k.marks D (h.marks D hD)⟩
theorem KpC.b {n₀ g : Nat} {w : World} (hn : n₀ ≤ w.heap.size) (hg : g < w.heap.size) (W : World) (l : Nat) (r r' : Loop) (hl : w.heap.size ≤ l) (h : W.heap[l]? = some (.loop r)) : KpC n₀ g W (W.putObj l (.loop r')) :=
 ⟨belowK_b hn W l _ _ hl h rfl rfl, World.putObj_heap_other (by omega), fun D hD => by
  have hne : D ≠ l := fun e => by subst e; rw [h] at hD; cases hD
  rw [World.putObj_heap_other hne]
  exact hD⟩
structure MatB (n₀ g R C : Nat) (es : List E3) (ba oa ca b o cb : Nat) (X : World) : Prop where
 row : Row X g 26 #[.slice (some ⟨ba, oa, none⟩) 2 ca, .slice (some ⟨b, o, none⟩) (R * C) cb]
 sh : ArgS X (.slice (some ⟨ba, oa, none⟩) 2 ca) [(R : Int), (C : Int)] (some ⟨ba, oa, none⟩) ca
 el : CellsE X b o es
 len : es.length = R * C
 cap : R * C ≤ cb
 ba : ba < n₀
 bb : b < n₀
theorem MatB.kp {n₀ g R C ba oa ca b o cb : Nat} {es : List E3} {A B : World} (h : MatB n₀ g R C es ba oa ca b o cb A) (k : Below n₀ A B) (hg : B.heap[g]? = A.heap[g]?) : MatB n₀ g R C es ba oa ca b o cb B := by
 refine ⟨hg.trans h.row, ⟨h.sh.is, ?_, h.sh.le, h.sh.wf⟩, fun i e he => ?_, h.len, h.cap, h.ba, h.bb⟩
 · exact h.sh.lim.below k (fun a e => by cases e; exact h.ba)
 · obtain ⟨h0, h1, h2⟩ := h.el i e he
   exact ⟨(k.cell (p := ⟨b, o + i * 3, none⟩) h.bb).trans h0, (k.cell (p := ⟨b, o + i * 3 + 1, none⟩) h.bb).trans h1, (k.cell (p := ⟨b, o + i * 3 + 2, none⟩) h.bb).trans h2⟩
def colE (es : List E3) (C R k : Nat) : List E3 := (List.range R).map fun i => es[i * C + k]?.getD dfE
theorem colE_len (es : List E3) (C R k : Nat) : (colE es C R k).length = R := by simp [colE]
def ColV (es : List E3) (C R : Nat) (k : Nat) (v : Value) (W : World) : Prop := ∃ g cap, v = .slice (some ⟨g, 0, none⟩) R cap ∧ CellsE W g 0 (colE es C R k) ∧ R ≤ cap
theorem ColV.b {es : List E3} {C R k : Nat} {v : Value} {W : World} {l : Nat} {r r' : Loop} (h : W.heap[l]? = some (.loop r)) (k1 : ColV es C R k v W) : ColV es C R k v (W.putObj l (.loop r')) := by
 obtain ⟨g, cap, rfl, h1, h2⟩ := k1
 refine ⟨g, cap, rfl, fun i e he => ?_, h2⟩
 obtain ⟨c0, c1, c2⟩ := h1 i e he
 have hg : g ≠ l := fun e' => by
  subst e'
  unfold World.cell? at c0
  simp only [h] at c0
  cases c0
 have kk : (W.putObj l (.loop r')).heap[g]? = W.heap[g]? := World.putObj_heap_other hg
 exact ⟨(World.cell?_of_block (a := ⟨g, 0 + i * 3, none⟩) kk).trans c0, (World.cell?_of_block (a := ⟨g, 0 + i * 3 + 1, none⟩) kk).trans c1, (World.cell?_of_block (a := ⟨g, 0 + i * 3 + 2, none⟩) kk).trans c2⟩
def mkD (D : Nat) : Deferred := { target := .collected D, args := #[] }
theorem leaves_marks {F : Fence} {n : Nat} {P : Program} {fn : Func} {tmps : Array Value} {R : Ending → World → Prop} (Φ : World → Prop) (hr : fn.results = #[]) (hΦ : ∀ X, Φ X → R (.returned (.tuple #[])) X) (B : Nat) (hs : ∀ X D, Φ X → B ≤ D → X.heap[D]? = some (.deferred (some [])) → Φ (X.putObj D (.deferred none))) :
 ∀ (ds : List Nat) (X : World), Φ X → (∀ D ∈ ds, B ≤ D ∧ X.heap[D]? = some (.deferred (some []))) → ds.Nodup → LeavesInM F n P fn tmps R (ds.map mkD) .returning X
 | [], X, h, _, _ => ⟨_, results_none hr _ _ _, hΦ X h⟩
 | D :: ds, X, h, hd, hn => by
  obtain ⟨h1, h2⟩ := hd D (List.mem_cons_self ..)
  rw [List.nodup_cons] at hn
  refine ⟨by simp, .inl ⟨D, _, rfl, run_takeDeferred h2, ?_⟩⟩
  refine leaves_marks Φ hr hΦ B hs ds _ (hs X D h h1 h2) (fun D' hD' => ?_) hn.2
  obtain ⟨h3, h4⟩ := hd D' (List.mem_cons_of_mem _ hD')
  exact ⟨h3, (World.putObj_heap_other (show D' ≠ D from fun e => hn.1 (by rw [← e]; exact hD'))).trans h4⟩
theorem columns1_told (n n₀ g R C : Nat) (es : List E3) (ba oa ca b o cb : Nat) (w : World) (hn3 : 3 ≤ n) (hR : 1 ≤ R) (hC : 1 ≤ C) (hm : R * C ≤ 1000000) (hg : g < w.heap.size) (hn₀ : n₀ ≤ w.heap.size) (hM : MatB n₀ g R C es ba oa ca b o cb w) (hsh : ShE es) :
 Told Fence.wide n Tryz.prog 142 #[.pointer (some ⟨g, 0, none⟩)] (KpC n₀ g) (ColV es C R) C w := by
 intro l J W hW hJ hY h0
 obtain ⟨i0, hi, hz0, hz1, hz2⟩ := info_parts infoQ
 have hMW := hM.kp (hW.mono hn₀) (hW.block _ hg)
 have hgW : g < W.heap.size := Nat.lt_of_lt_of_le hg hW.size
 have hnW : n₀ ≤ W.heap.size := Nat.le_trans hn₀ hW.size
 have hJb : ∀ {k : Nat} {A B : World}, J k A → Below A.heap.size A B → J k B := fun {k A B} hj hb => hJ k A B none hj ⟨hb.os, hb.tape, hb.output, hb.size, fun k hk _ => hb.block k hk⟩ (fun _ h => by cases h)
 have hmk := make_rowP R (by have := Nat.le_mul_of_pos_right R hC; omega)
 obtain ⟨p0, p1, _, _⟩ := hMW.row.two
 have q0 : W.cell? ⟨ba, oa, none⟩ = some (.int .i64 (R : Int)) := by
  obtain ⟨b', o', e, h⟩ := hMW.sh.at (i := 0) (by simp)
  cases e
  simpa using h
 have q1 : W.cell? ⟨ba, oa + 1, none⟩ = some (.int .i64 (C : Int)) := by
  obtain ⟨b', o', e, h⟩ := hMW.sh.at (i := 1) (by simp)
  cases e
  simpa using h
 have HM := Lib.hid hMW
 refine callsIn_of_wp_marks Tryz.func142 rfl trivial ?_ rfl
 simp only [Tryz.ntmps142, List.size_toArray, List.length_cons, List.length_nil, Nat.reduceAdd, Nat.reduceSub, Array.replicate_succ, Array.replicate_zero, List.push_toArray, List.append_toArray, List.nil_append, List.cons_append]
 gi_wp2_with fail
 refine wpIn_loop (fun a' X => ∃ (k : Nat) (ds : List Nat) (u3 u4 u5 u11 u12 u13 u14 u15 u16 u17 u18 u19 u20 u21 u22 u23 u24 u25 u26 u27 u28 u29 u30 u31 u32 : Value), (k ≤ C ∧ J k X ∧ KpC n₀ g W X ∧ (∀ D ∈ ds, W.heap.size ≤ D ∧ X.heap[D]? = some (.deferred (some []))) ∧ ds.Nodup) ∧ a' = { tmps := #[.func (.yield l) #[] #[], .pointer (some ⟨g, 0, none⟩), undef, u3, u4, u5, .pointer (some ⟨g, 0, none⟩), .slice (some ⟨ba, oa, none⟩) 2 ca, .pointer (some ⟨ba, oa + 1, none⟩), .int .i64 (C : Int), .int .i64 (k : Int), u11, u12, u13, u14, u15, u16, u17, u18, u19, u20, u21, u22, u23, u24, u25, u26, u27, u28, u29, u30, u31, u32], defers := ds.map mkD }) (fun a' _ => C - (intOf (a'.tmps.getD 10 undef)).toNat) ?_ ?_
 · exact ⟨0, [], _, _, _, _, _, _, _, _, _, _, _, _, _, _, _, _, _, _, _, _, _, _, _, _, _, ⟨Nat.zero_le _, h0, ⟨Below.refl _ _, rfl, fun _ h => h⟩, (fun D h => by cases h), List.nodup_nil⟩, rfl⟩
 · rintro _ wr ⟨k, ds, u3, u4, u5, u11, u12, u13, u14, u15, u16, u17, u18, u19, u20, u21, u22, u23, u24, u25, u26, u27, u28, u29, u30, u31, u32, ⟨hk, hj, hkp, hds, hnd⟩, rfl⟩
   by_cases hlt : k < C
   · have hltI : (k : Int) < (C : Int) := by omega
     have hMr := HM.out.kp hkp.below hkp.box
     obtain ⟨A, hA⟩ : ∃ A, wr.heap.size = A := ⟨_, rfl⟩
     obtain ⟨V1, hV1⟩ : ∃ V1, wr.alloc (.cells #[.int .i64 (k : Int)] 3) = V1 := ⟨_, rfl⟩
     obtain ⟨V2, hV2⟩ : ∃ V2, V1.alloc (.cells (madeCells #[.bool false, .slice none 0 0, .slice none 0 0] (R * 3)) 54) = V2 := ⟨_, rfl⟩
     obtain ⟨V3, hV3⟩ : ∃ V3, V2.alloc (.cells #[.slice (some ⟨A + 1, 0, none⟩) 0 R] 24) = V3 := ⟨_, rfl⟩
     have s1 : V1.heap.size = A + 1 := by rw [← hV1, World.size_alloc, hA]
     have s2 : V2.heap.size = A + 1 + 1 := by rw [← hV2, World.size_alloc, s1]
     have s3 : V3.heap.size = A + 1 + 1 + 1 := by rw [← hV3, World.size_alloc, s2]
     have b1 : Below wr.heap.size wr V1 := by rw [← hV1]; exact (Below.refl _ _).alloc (Nat.le_refl _) _
     have b2 : Below V1.heap.size V1 V2 := by rw [← hV2]; exact (Below.refl _ _).alloc (Nat.le_refl _) _
     have b3 : Below V2.heap.size V2 V3 := by rw [← hV3]; exact (Below.refl _ _).alloc (Nat.le_refl _) _
     have b13 : Below V1.heap.size V1 V3 := b2.trans (b3.mono b2.size)
     have br3 : Below wr.heap.size wr V3 := b1.trans (b13.mono b1.size)
     have hrW : W.heap.size ≤ wr.heap.size := hkp.below.size
     have hM1 := hMr.kp (b1.mono (by omega)) (b1.block _ (by omega))
     have hM3 := hMr.kp (br3.mono (by omega)) (br3.block _ (by omega))
     obtain ⟨p0, p1, _, _⟩ := hM1.row.two
     obtain ⟨x0, x1, _, _⟩ := hM3.row.two
     have q0 : V1.cell? ⟨ba, oa, none⟩ = some (.int .i64 (R : Int)) := by
      obtain ⟨b', o', e, h⟩ := hM1.sh.at (i := 0) (by simp)
      cases e
      simpa using h
     have d1 : Row V3 A 3 #[.int .i64 (k : Int)] := by rw [← hA]; exact (show Row V1 wr.heap.size 3 #[.int .i64 (k : Int)] by rw [← hV1]; exact Row.new _ _ _).later b13
     have d2 : OwnE A 54 V3 (.slice (some ⟨A + 1, 0, none⟩) 0 R) [] := by
      have h : OwnE A 54 V2 (.slice (some ⟨V1.heap.size, 0, none⟩) 0 R) [] := by
       rw [← hV2]
       exact World.ownsRow_made V1 _ R (by omega) (by unfold maxLen; have := Nat.le_mul_of_pos_right R hC; omega) (madeP_len _ _)
      rw [s1] at h
      exact h.later b3
     have d3 : Boxed V3 (A + 1 + 1) 24 (.slice (some ⟨A + 1, 0, none⟩) 0 R) := by rw [← hV3, ← s2]; exact Boxed.new _ _ _
     have hrw := rows_any (s := [(R : Int), (C : Int)]) (b := some ⟨b, o, none⟩) (m := R * C) (cb := cb) (show ArgS V3 (.slice (some ⟨ba, oa, none⟩) ([(R : Int), (C : Int)] : List Int).length ca) _ _ _ from hM3.sh) (Nat.le_refl 2)
     simp only [List.length_cons, List.length_nil, Nat.reduceAdd] at hrw
     have HA := Lib.hid hA
     have HM3 := Lib.hid hM3
     have HMr := Lib.hid hMr
     have HD1 := Lib.hid d1
     have HD2 := Lib.hid d2
     have HD3 := Lib.hid d3
     have HS3 := Lib.hid s3
     clear hA d1 d2 d3 hM1 hM3 hMr s3
     gi_wp2_with fail
     rw [show wr.heap.size = A from HA.out]
     refine wideCallS (hrw.mono ?_)
     rintro e w4 ⟨rfl, RX, RWd, hb4, hs4⟩
     rw [HS3.out] at RX RWd hb4 hs4 ⊢
     have E1 := HD1.out.below hb4 (by omega)
     have E2 := HD2.out.later (by rw [HS3.out]; exact hb4)
     have E3 := Row.below HD3.out hb4 (by omega)
     have br4 : Below A wr w4 := by rw [← HA.out]; exact br3.trans (hb4.mono (by have := HA.out; omega))
     have hM4 := HM3.out.kp (hb4.mono (by have := HA.out; omega)) (hb4.block _ (by have := HA.out; omega))
     clear hV1 hV2 hV3 p0 p1 x0 x1 q0 hrw
     have HM4 := Lib.hid hM4
     gi_wp2_with fail
     refine wpIn_rangeFunc_ownH (F := Fence.wide) (n := n) rfl (by omega) (gf := 141) (lb := #[.pointer (some ⟨A + 1 + 1 + 1, 0, none⟩), .pointer (some ⟨A + 1 + 1 + 1 + 1, 0, none⟩)]) rfl trivial (enters_of Tryz.func141 (by kernel_rfl) rfl)
      (rows1_stops (n - 1) (A + 1 + 1 + 1) (A + 1 + 1 + 1 + 1) b o cb R C hC hm hM4.cap w4 (by omega) (by omega) (RX.cell 1) (RWd.cell 0)) KpR.trans (KpR.b (by omega) (by omega)) (Below.refl _ _) (fun _ => rfl)
      (fun (pre : List (Fin R)) X => ∃ v, Boxed X (A + 1 + 1) 24 v ∧ OwnE A 54 X v (pre.map fun x => es[x.val * C + k]?.getD dfE) ∧ Row X A 3 #[.int .i64 (k : Int)] ∧ Below A wr X ∧ KpR (A + 1 + 1 + 1) (A + 1 + 1 + 1 + 1) w4 X ∧ A + 1 + 1 + 1 + 1 + 1 ≤ X.heap.size)
      (fun c pre X => False)
      (fun pre X Y row ⟨v, h1, h2, h3, h4, h5, h6⟩ hgr hr => by
       have kk := KeepC.grown hgr (fun r e => (hr r e).2)
       refine ⟨v, Boxed.keepC h1 kk, h2.keepC kk, h3.keepC kk, h4.grown hgr (by have := h4.size; have := HA.out; omega) (fun k e => by have := (hr k e).1; omega), ⟨(hgr.block _ (by omega) (fun e => by have := (hr _ e.symm).1; omega)).trans h5.b1, (hgr.block _ (by omega) (fun e => by have := (hr _ e.symm).1; omega)).trans h5.b2⟩, Nat.le_trans h6 hgr.size⟩)
      (fun _ _ _ _ _ hs _ _ => hs)
      ⟨_, E3, E2, E1, br4, KpR.refl _ _ _, by omega⟩
      (fun (x : Fin R) a' X => a' = { tmps := #[.func (.yield l) #[] #[], .pointer (some ⟨g, 0, none⟩), undef, .pointer (some ⟨A, 0, none⟩), .pointer (some ⟨A + 1 + 1, 0, none⟩), .slice (some ⟨b, o + x.val * C * 3, none⟩) C (cb - x.val * C), .pointer (some ⟨g, 0, none⟩), .slice (some ⟨ba, oa, none⟩) 2 ca, .pointer (some ⟨ba, oa + 1, none⟩), .int .i64 (C : Int), .int .i64 (k : Int), .bool true, .int .i64 (k : Int), .pointer (some ⟨g, 0, none⟩), .slice (some ⟨ba, oa, none⟩) 2 ca, .pointer (some ⟨ba, oa, none⟩), .int .i64 (R : Int), .slice (some ⟨A + 1, 0, none⟩) 0 R, .agg #[.slice (some ⟨ba, oa, none⟩) 2 ca, .slice (some ⟨b, o, none⟩) (R * C) cb], .func (.func 141) #[] #[.pointer (some ⟨A + 1 + 1 + 1, 0, none⟩), .pointer (some ⟨A + 1 + 1 + 1 + 1, 0, none⟩)], .slice (some ⟨b, o + x.val * C * 3, none⟩) C (cb - x.val * C), u21, u22, u23, u24, u25, u26, u27, u28, u29, u30, u31, u32], defers := [] })
      (fun _ _ _ _ _ _ h _ _ => h)
      ?assign ?body ?done ?stop
     case assign =>
      rintro l2 pre ⟨i, hi⟩ X K hI hK
      simp only [rowAt]
      gi_wp2
      exact hK _ _ (KeepsFrom.refl _ _) (KpR.refl _ _ _) hI rfl
     case stop =>
      rintro D c pre X _ _ h _
      exact h.elim
     case body =>
      rintro l2 pre ⟨i, hiR⟩ a' X hl2 hrec ⟨v, h1, h2, h3, h4, h5, h6⟩ rfl hlt2
      simp only
      obtain ⟨f, hf⟩ : ∃ f, i * C = f := ⟨_, rfl⟩
      have hfk : f + k < es.length := by
       rw [HM4.out.len, ← hf]
       have := Nat.mul_le_mul_right C (show i + 1 ≤ R by omega)
       rw [Nat.succ_mul] at this
       omega
      rw [hf]
      have hMX := HMr.out.kp (h4.mono (by have := HA.out; omega)) (h4.block _ (by have := HA.out; omega))
      obtain ⟨z1, z2, z3, z4, z5, z6, z7, he⟩ := hsh (f + k) hfk
      obtain ⟨c0, c1, c2⟩ := hMX.el (f + k) _ (by rw [List.getElem?_eq_getElem hfk])
      have he2 : es[f + k] = ⟨.bool z1, .slice z2 z3 z4, .slice z5 z6 z7⟩ := by rw [← he, List.getElem?_eq_getElem hfk]; rfl
      rw [he2, show o + (f + k) * 3 = o + f * 3 + k * 3 by omega] at c0 c1 c2
      simp only at c0 c1 c2
      obtain ⟨gs, hgs⟩ : ∃ gs, (pre.map fun x => es[x.val * C + k]?.getD dfE) = gs := ⟨_, rfl⟩
      have hgn : ((pre ++ [(⟨i, hiR⟩ : Fin R)]).map fun x : Fin R => es[x.val * C + k]?.getD dfE) = gs ++ [⟨.bool z1, .slice z2 z3 z4, .slice z5 z6 z7⟩] := by
       rw [List.map_append, hgs, List.map_cons, List.map_nil]
       simp only [hf, he]
      have hgl : gs.length < R := by rw [← hgs, List.length_map]; exact hlt2
      rw [hgs] at h2
      have HGN := Lib.hid hgn
      obtain ⟨r, hrv, hrb, hrne, hrc, hro⟩ := ownV_hits h2 (by omega)
      obtain ⟨av, cv, rfl⟩ := ownT_slice h2
      have nA := hrne _ _ _ h3 (by decide)
      have nB := hrne _ _ _ h1 (by decide)
      have n1 := hrne _ _ _ (show Row X (A + 1 + 1 + 1) _ _ from h5.b1.trans RX) (by decide)
      have n2 := hrne _ _ _ (show Row X (A + 1 + 1 + 1 + 1) _ _ from h5.b2.trans RWd) (by decide)
      have nb : b ≠ r := by have := hMX.bb; have := HA.out; omega
      have hkC : (k : Int) < (C : Int) := hltI
      have x1 := Boxed.cell h1
      have x2 := h3.cell 0
      have mkA : ∀ Y, Kept r X Y → Y.cell? ⟨A + 1 + 1, 0, none⟩ = some (.slice av gs.length cv) ∧ Y.cell? ⟨A, 0, none⟩ = some (.int .i64 (k : Int)) ∧ (Y.cell? ⟨b, o + f * 3 + k * 3, none⟩ = some (.bool z1) ∧ Y.cell? ⟨b, o + f * 3 + k * 3 + 1, none⟩ = some (.slice z2 z3 z4) ∧ Y.cell? ⟨b, o + f * 3 + k * 3 + 2, none⟩ = some (.slice z5 z6 z7)) ∧ Kept r X Y := fun Y h => ⟨h.cell x1 nB, h.cell x2 nA, ⟨h.cell c0 nb, h.cell c1 nb, h.cell c2 nb⟩, h⟩
      have k0 : Kept r X X.drew := (Kept.refl r X).drew
      have hm6 : R ≤ 1000000 := by have := Nat.le_mul_of_pos_right R hC; omega
      have HC2 := Lib.hid h2
      clear hgn hgs hf he he2 hfk
      refine wpIn_block ?_
      refine region_roundL (fun Y => Y.cell? ⟨A + 1 + 1, 0, none⟩ = some (.slice av gs.length cv) ∧ Y.cell? ⟨A, 0, none⟩ = some (.int .i64 (k : Int)) ∧ (Y.cell? ⟨b, o + f * 3 + k * 3, none⟩ = some (.bool z1) ∧ Y.cell? ⟨b, o + f * 3 + k * 3 + 1, none⟩ = some (.slice z2 z3 z4) ∧ Y.cell? ⟨b, o + f * 3 + k * 3 + 2, none⟩ = some (.slice z5 z6 z7)) ∧ Kept r X Y) 7 (by kernel_rfl) (by kernel_rfl) (by rintro ⟨a', w', h⟩; exact h) (mkA _ k0) (fun hHeld => ?_)
      refine todo [0, 1, 2, 3, 4] ?_
      iterate 5
       refine todoL (v := ?_) rfl (by kernel_rfl) (fun _ _ _ h => h) (by assumption) (Or.inl ⟨by rfl, ?_⟩) ?_
       rotate_left
       · intro w hSw; (try dsimp only at hSw); go_simp; (try with_reducible rfl)
       try simp only [Act.put, nA, nB, nC, nD, nE, nF]
      refine todone ?_
      have b5d : Below X.heap.size X X.drew := (Below.refl _ X).drew
      refine wpAnyL_one (i := 5) (by kernel_rfl) rfl (fun K hK => ?sbc_5)
      go_simp
      refine hK.out _ _ (fun _ => mkA _ (k0.alloc _)) (fun hHeld2 => ?mbc_5)
      clear hK K hHeld
      have hHeld := hHeld2 (by decide)
      clear hHeld2
      try simp only [Act.put, nA, nB, nC, nD, nE, nF]
      refine wpAnyL_one (i := 6) (by kernel_rfl) rfl (fun K hK => ?sbc_6)
      refine step_append_lies _ rfl _ _ 24 rfl A 54 i0 _ 3 56 Tryz.underlying24 hi hz0 hz1 hz2 rfl (by decide) _ gs.length (flat3 gs) rfl ((HC2.out.later b5d).later ((Below.refl _ _).alloc (Nat.le_refl _) _)) ⟨X.drew.heap.size, 0, none⟩ 1 1 [.bool z1, .slice z2 z3 z4, .slice z5 z6 z7] rfl rfl (cell_three_new _ _ _ _ _) (by simp [Value.oneCell']) (by omega) (by unfold maxLen; omega) (by omega) (by simp; omega) _ rfl ?_
      intro g7 cp w7 hown' hgrow hg' hlt'
      have hk7 : Kept r X w7 := (k0.alloc _).grown hgrow hrv
      refine hK.out _ _ (fun _ => mkA _ hk7) (fun hHeld2 => ?mbc_6)
      clear hK K hHeld
      have hHeld := hHeld2 (by decide)
      clear hHeld2
      try simp only [Act.put, nA, nB, nC, nD, nE, nF]
      have R7 : Row w7 (A + 1 + 1) 24 #[.slice av gs.length cv] := Row.kept h1 hk7 nB
      have f7 := R7.free 0
      have c7 := R7.cell 0
      refine wpAnyL_one (i := 7) (by kernel_rfl) rfl (fun K hK => ?sbc_7)
      go_simp
      refine hK.out _ _ (fun h => absurd rfl h) (fun _ => ?mbc_7)
      clear hK K
      try simp only [Act.put, nA, nB, nC, nD, nE, nF]
      refine wpAnyL_done (by kernel_rfl) ?_ _
      have hO7 : OwnE A 54 w7 (.slice (some ⟨g7, 0, none⟩) (gs.length + 1) cp) (gs ++ [⟨.bool z1, .slice z2 z3 z4, .slice z5 z6 z7⟩]) := by
       unfold OwnE
       rw [List.length_append, flat3_append]
       exact hown'
      refine ⟨keepsFrom_set (keepsFrom_kept hk7 hrc) _ _, ⟨(Below.heap_setCell _ _ _ _ (by show A + 1 + 1 + 1 ≠ A + 1 + 1; omega)).trans (hk7.block _ (by omega) n1), (Below.heap_setCell _ _ _ _ (by show A + 1 + 1 + 1 + 1 ≠ A + 1 + 1; omega)).trans (hk7.block _ (by omega) n2)⟩, _, Boxed.set _ R7, ?_, (Row.kept h3 hk7 nA).far (by show A ≠ A + 1 + 1; omega) _, ?_, ?_, ?_⟩
      · rw [HGN.out]
        exact hO7.keptT R7 (by decide) ((Kept.refl _ _).set 0 _)
      · have hbk : Below A X w7 := ⟨hk7.os, hk7.tape, hk7.output, hk7.size, fun k hk => hk7.block k (by omega) (by omega)⟩
        exact (h4.trans hbk).setCell (by show A ≤ A + 1 + 1; omega) _
      · exact ⟨((Below.heap_setCell _ _ _ _ (by show A + 1 + 1 + 1 ≠ A + 1 + 1; omega)).trans (hk7.block _ (by omega) n1)).trans h5.b1, ((Below.heap_setCell _ _ _ _ (by show A + 1 + 1 + 1 + 1 ≠ A + 1 + 1; omega)).trans (hk7.block _ (by omega) n2)).trans h5.b2⟩
      · have := hk7.size
        have hz := (Only.set w7 (A + 1 + 1) 0 (.slice (some ⟨g7, 0, none⟩) (gs.length + 1) cp)).size
        omega
     case done =>
      rintro D ys X hD hup ⟨v, h1, h2, h3, h4, h5, h6⟩ hK
      have hcol : (ys.map fun x => es[x.val * C + k]?.getD dfE) = colE es C R k := by
       have e : (ys.map fun x : Fin R => es[x.val * C + k]?.getD dfE) = (ys.map Fin.val).map fun i => es[i * C + k]?.getD dfE := by rw [List.map_map]; rfl
       rw [e, show ys.map Fin.val = List.range R from hup]
       rfl
      rw [hcol] at h2
      have hl := colE_len es C R k
      obtain ⟨gq, cq, rfl, hgq, hlt3, hle, hmx, hcells⟩ : ∃ gq cq, v = .slice (some ⟨gq, 0, none⟩) R cq ∧ A ≤ gq ∧ gq < X.heap.size ∧ R ≤ cq ∧ cq ≤ maxLen ∧ CellsE X gq 0 (colE es C R k) := by
       rcases h2.row with ⟨_, e⟩ | ⟨gq, cq, e, e1, e2, e3, e4, e5⟩
       · rw [e] at hl; simp at hl; omega
       · rw [hl] at e e3
         exact ⟨gq, cq, e, e1, e2, e3, e4, e5⟩
      have hBX : Below wr.heap.size wr X := by rw [HA.out]; exact h4
      have hjX := hJb hj hBX
      obtain ⟨fn, tmps, assign, body, hy, hR9⟩ := hY k _ X hlt hjX ⟨gq, cq, rfl, hcells, hle⟩
      have c1 := Boxed.cell h1
      have hkW : KpC n₀ g W X := hkp.trans ⟨hBX.mono (by omega), hBX.block _ (by omega), fun D hD => (hBX.block D (lt_of_block hD)).trans hD⟩
      have hDn : ∀ D' ∈ D :: ds, W.heap.size ≤ D' ∧ X.heap[D']? = some (.deferred (some [])) := fun D' hD' => by
       rcases List.mem_cons.1 hD' with e | hD'
       · subst e
         exact ⟨by have := HA.out; omega, hK⟩
       · exact ⟨(hds D' hD').1, (hBX.block D' (lt_of_block (hds D' hD').2)).trans (hds D' hD').2⟩
      have hnd2 : (D :: ds).Nodup := List.nodup_cons.2 ⟨fun hm => by have := lt_of_block (hds D hm).2; have := HA.out; omega, hnd⟩
      have HDN := Lib.hid hDn
      have HND := Lib.hid hnd2
      have HKW := Lib.hid hkW
      clear h2 hcol hl hcells hDn hnd2 hkW hds hnd h1 h3
      gi_wp2_with fail
      refine ⟨(fun h => by cases h), hR9.mono ?_⟩
      rintro e Y ⟨rfl, hJ9, hK9⟩
      have hw1 : wrap64 ((k : Int) + 1) = ((k + 1 : Nat) : Int) := by
       have := Nat.le_mul_of_pos_left C hR
       unfold wrap64
       omega
      have HW1 := Lib.hid hw1
      clear hw1
      gi_wp2
      rw [HW1.out]
      refine ⟨?_, ?_⟩
      · refine ⟨k + 1, D :: ds, ?_⟩
        repeat apply Exists.intro
        exact ⟨⟨by omega, hJ9, HKW.out.trans hK9, fun D' hD' => ⟨(HDN.out D' hD').1, hK9.marks D' (HDN.out D' hD').2⟩, HND.out⟩, rfl⟩
      · simp [intOf]
        omega
   · obtain rfl : k = C := by omega
     have hltI : ¬ (k : Int) < (k : Int) := by omega
     gi_wp2_with fail
     exact leaves_marks (fun X => J k X) rfl (fun X h => ⟨⟨_, rfl⟩, h⟩) W.heap.size (fun X D h h1 h2 => hJ.putObj _ h h1 h2 rfl) ds wr hj hds hnd
end
end Go.Proofs.YtengpgodmbfmkaaGreat
