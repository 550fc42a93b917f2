/-
  Part 28 of 39: contracts and what they rest on (FParts, FProd, FCols).
-/
import Derived.Test.YtengpgodmbfmkaaGreatG24
import Derived.Test.YtengpgodmbfmkaaGreatG25
namespace Go.Proofs.YtengpgodmbfmkaaGreat
set_option linter.unusedVariables false
set_option linter.unusedSimpArgs false
set_option maxRecDepth 100000
set_option maxHeartbeats 40000000
section
open Go.RowKit
theorem ResQ.keptT {base g n : Nat} {w w' : World} {u : Value} {x : Rat} {t : TypeId} {cs : Array Value} (h : ResQ base w u x n) (R : Row w g t cs) (ht : t ≠ 144) (k : Kept g w w') : ResQ base w' u x n := by
 have key : ∀ {v : Value} {zs : List Int} {m : Int}, Res base w v zs m → Res base w' v zs m := fun {v zs m} h => by
  refine ⟨?_, h.wf, h.full, h.eq⟩
  obtain ⟨h1, h2⟩ := h.num
  refine ⟨h1, ?_⟩
  rcases h2 with h2 | ⟨g', cap, cur, rfl, hb, hg, hr⟩
  · exact .inl h2
  · refine .inr ⟨g', cap, cur, rfl, hb, (k.block g' (lt_of_block hg) ?_).trans hg, hr⟩
    rintro rfl
    have e := hg.symm.trans R
    injection e with e
    injection e with _ e
    exact ht e.symm
 obtain ⟨zs, ys, ad, bd, ca, cb, rfl, A, B, h⟩ := h
 exact ⟨zs, ys, ad, bd, ca, cb, rfl, key A, key B, h⟩
theorem OwnE.keptT {base g : Nat} {T : TypeId} {w w' : World} {v : Value} {es : List E3} {t : TypeId} {cs : Array Value} (h : OwnE base T w v es) (R : Row w g t cs) (ht : t ≠ T) (k : Kept g w w') : OwnE base T w' v es := h.same fun k' hk' => by
 refine k.block k' (h.lt k' hk').2 fun e => ?_
 subst e
 obtain ⟨cur, hc⟩ := h.typed hk'
 have := hc.symm.trans R
 simp only [Option.some.injEq, Obj.cells.injEq] at this
 exact ht this.2.1.symm
theorem RowO.keptT {α : Type} {base g : Nat} {T : TypeId} {P : World → Value → α → Prop} {w w' : World} {u : Value} {L : List α} {t : TypeId} {cs : Array Value} (h : RowO base T P w u L) (R : Row w g t cs) (ht : t ≠ T) (k : Kept g w w') (hP : ∀ v x, P w v x → P w' v x) : RowO base T P w' u L := by
 obtain ⟨es, h1, h2⟩ := h
 exact ⟨es, h1.keptT R ht k, h2.imp fun v x _ => hP v x⟩
theorem OwnE.hits10 {base : Nat} {T : TypeId} {w : World} {v : Value} {es : List E3} (h : OwnE base T w v es) (hb : base ≤ w.heap.size) : ∃ r, (v.ownBlock = none ∨ v.ownBlock = some r) ∧ base ≤ r ∧ (∀ g t cs, Row w g t cs → t ≠ T → g ≠ r) ∧ ∀ A, A < w.heap.size → v.ownBlock ≠ some A → A ≠ r := by
 have hlt := h.lt
 cases e : v.ownBlock with
 | none => exact ⟨w.heap.size, .inl rfl, hb, (fun g t cs R _ => by have := R.lt; omega), fun A hA _ => by omega⟩
 | some r =>
   refine ⟨r, .inr rfl, (hlt r e).1, (fun g t cs R ht he => ?_), fun A _ h2 he => h2 (by rw [he])⟩
   subst he
   obtain ⟨cur, hc⟩ := h.typed e
   have := hc.symm.trans R
   simp only [Option.some.injEq, Obj.cells.injEq] at this
   exact ht this.2.1.symm
theorem Kept.grew {G : Nat} {W X w1 : World} {o : Obj} {v : Value} (h : Kept G W X) (hg : (X.alloc o).grownBy w1 v.ownBlock) (hv : ∀ k, v.ownBlock = some k → W.heap.size ≤ k) : Kept G W w1 := by
 have h2 : Kept G W (X.alloc o) := h.alloc o
 refine ⟨hg.os.trans h2.os, hg.tape.trans h2.tape, hg.output.trans h2.output, Nat.le_trans h2.size hg.size, fun k hk hr => ?_⟩
 rw [hg.block k (Nat.lt_of_lt_of_le hk h2.size) (fun e => by have := hv k e.symm; omega)]
 exact h2.block k hk hr
structure PartsQ (lo base N G : Nat) (w : World) (vs : List Value) (ls : List (List Rat)) : Prop where
 row : Row w G 24 vs.toArray
 len : vs.length = ls.length
 each : ∀ (i : Nat) v l, vs[i]? = some v → ls[i]? = some l → RowO lo 54 (fun W v x => ResQ base W v x N) w v l
 apart : ∀ (i j : Nat) u v g, vs[i]? = some u → vs[j]? = some v → u.ownBlock = some g → v.ownBlock = some g → i = j
theorem PartsQ.later {lo base N G : Nat} {w w' : World} {vs : List Value} {ls : List (List Rat)} (h : PartsQ lo base N G w vs ls) (hb : Below w.heap.size w w') : PartsQ lo base N G w' vs ls :=
 ⟨h.row.later hb, h.len, fun i v l h1 h2 => (h.each i v l h1 h2).later hb fun _ _ k => k.later hb, h.apart⟩
theorem PartsQ.at {lo base N G : Nat} {w : World} {vs : List Value} {ls : List (List Rat)} (h : PartsQ lo base N G w vs ls) {i : Nat} (hi : i < ls.length) : ∃ v l, vs[i]? = some v ∧ ls[i]? = some l ∧ w.cell? ⟨G, i, none⟩ = some v ∧ RowO lo 54 (fun W v x => ResQ base W v x N) w v l := by
 have hv : i < vs.length := by rw [h.len]; exact hi
 refine ⟨vs[i], ls[i], List.getElem?_eq_getElem hv, List.getElem?_eq_getElem hi, ?_, h.each i _ _ (List.getElem?_eq_getElem hv) (List.getElem?_eq_getElem hi)⟩
 rw [h.row.cell i]
 simp [hv]
theorem PartsQ.made (lo base N : Nat) (w : World) (m : Nat) : PartsQ lo base N w.heap.size (w.alloc (.cells (madeCells #[.slice none 0 0] m) 24)) (List.replicate m (.slice none 0 0)) (List.replicate m []) := by
 have e : (madeCells #[.slice none 0 0] m : Array Value) = (List.replicate m (Value.slice none 0 0)).toArray := by
  apply Array.ext
  · simp [madeCells]
  · intro i h1 h2
    simp [madeCells, Nat.mod_one]
 rw [e]
 refine ⟨Row.new _ _ _, by simp, fun i v l h1 h2 => ?_, fun i j u v g h1 h2 h3 h4 => ?_⟩
 · have e1 := List.eq_of_mem_replicate (List.mem_of_getElem? h1)
   have e2 := List.eq_of_mem_replicate (List.mem_of_getElem? h2)
   subst e1
   subst e2
   exact RowO.nil _ _ _ _
 · have e1 := List.eq_of_mem_replicate (List.mem_of_getElem? h1)
   subst e1
   cases h3
theorem PartsQ.push {lo base N G j g cap : Nat} {X w1 : World} {o : Obj} {vs : List Value} {ls : List (List Rat)} {v : Value} {l : List Rat} {es : List E3} {e : E3} {x : Rat} (h : PartsQ lo base N G X vs ls) (hv : vs[j]? = some v) (hl : ls[j]? = some l)
 (hown : OwnE lo 54 X v es) (hall : AllE (fun u x => ResQ base X u x N) es l) (hx : ResQ base X e.agg x N) (hlo : lo ≤ X.heap.size) (hG : G < lo)
 (hown' : w1.ownsRow lo 54 3 (.slice (some ⟨g, 0, none⟩) (es.length + 1) cap) (es.length + 1) (flat3 es ++ [e.a, e.b, e.c])) (hgrow : (X.alloc o).grownBy w1 v.ownBlock) (hg : v.ownBlock = some g ∨ g = (X.alloc o).heap.size) :
 PartsQ lo base N G (w1.setCell ⟨G, j, none⟩ (.slice (some ⟨g, 0, none⟩) (es.length + 1) cap)) (vs.set j (.slice (some ⟨g, 0, none⟩) (es.length + 1) cap)) (ls.set j (l ++ [x])) := by
 have hjv : j < vs.length := by
  rcases Nat.lt_or_ge j vs.length with k | k
  · exact k
  · rw [List.getElem?_eq_none k] at hv; cases hv
 have hjl : j < ls.length := by rw [← h.len]; exact hjv
 obtain ⟨h1, _⟩ := pushE (P := fun W v x => ResQ base W v x N) (Below.refl lo X) hlo hown hall hx (fun u y k => ResQ.apart hown hgrow (by decide) k) hown' hgrow
 have R1 : Row w1 G 24 vs.toArray := by
  refine (hgrow.block G (by have := h.row.lt; simp; omega) fun e => ?_).trans ((Below.heap_alloc _ _ _ h.row.lt).trans h.row)
  have := (hown.lt G e.symm).1
  omega
 refine ⟨?_, by rw [List.length_set, List.length_set, h.len], fun i u k hu hk => ?_, fun i i' u u' g' hu hu' e1 e2 => ?_⟩
 · have := R1.set j (.slice (some ⟨g, 0, none⟩) (es.length + 1) cap)
   simpa using this
 · have kk : ∀ k, k ≠ G → (w1.setCell ⟨G, j, none⟩ (.slice (some ⟨g, 0, none⟩) (es.length + 1) cap)).heap[k]? = w1.heap[k]? := fun k hk => Below.heap_setCell _ _ _ _ hk
   by_cases e : i = j
   · subst e
     rw [List.getElem?_set_self hjv] at hu
     rw [List.getElem?_set_self hjl] at hk
     cases hu
     cases hk
     exact h1.far R1 (by decide) kk (fun v y k => k.far R1 (by decide) kk)
   · rw [List.getElem?_set_ne (Ne.symm e)] at hu hk
     obtain ⟨ez, hz, haz⟩ := h.each i u k hu hk
     have h2 : RowO lo 54 (fun W v x => ResQ base W v x N) w1 u k := by
      refine ⟨ez, hz.same fun k' hk' => ?_, haz.imp fun u y _ k => ResQ.apart hown hgrow (by decide) k⟩
      have hlt := (hz.lt k' hk').2
      exact (hgrow.block k' (by simp; omega) (fun e' => e (h.apart i j u v k' hu hv hk' e'.symm))).trans (Below.heap_alloc _ _ _ hlt)
     exact h2.far R1 (by decide) kk (fun v y k => k.far R1 (by decide) kk)
 · have key : ∀ (i : Nat) u, i ≠ j → vs[i]? = some u → u.ownBlock ≠ some g := fun i u hne hu e => by
    obtain ⟨k, hk⟩ : ∃ k, ls[i]? = some k := by
     have hi : i < vs.length := by
      rcases Nat.lt_or_ge i vs.length with k | k
      · exact k
      · rw [List.getElem?_eq_none k] at hu; cases hu
     exact ⟨_, List.getElem?_eq_getElem (by rw [← h.len]; exact hi)⟩
    obtain ⟨ez, hz, _⟩ := h.each i u k hu hk
    have hlt := (hz.lt g e).2
    rcases hg with hg | hg
    · exact hne (h.apart i j u v g hu hv e hg)
    · simp at hg; omega
   by_cases e : i = j
   · by_cases e' : i' = j
     · omega
     · subst e
       rw [List.getElem?_set_self hjv] at hu
       rw [List.getElem?_set_ne (Ne.symm e')] at hu'
       cases hu
       have : g' = g := by simpa [Value.ownBlock] using e1.symm
       subst this
       exact absurd e2 (key i' u' e' hu')
   · by_cases e' : i' = j
     · subst e'
       rw [List.getElem?_set_self hjv] at hu'
       rw [List.getElem?_set_ne (Ne.symm e)] at hu
       cases hu'
       have : g' = g := by simpa [Value.ownBlock] using e2.symm
       subst this
       exact absurd e1 (key i u e hu)
     · rw [List.getElem?_set_ne (Ne.symm e)] at hu
       rw [List.getElem?_set_ne (Ne.symm e')] at hu'
       exact h.apart i i' u u' g' hu hu' e1 e2
def partsL (fm : Nat → Nat) (L : List Rat) (m k : Nat) : List (List Rat) := (List.range m).map fun i => partL fm L i k
theorem partsL_len (fm : Nat → Nat) (L : List Rat) (m k : Nat) : (partsL fm L m k).length = m := by simp [partsL]
theorem partsL_at (fm : Nat → Nat) (L : List Rat) (m k : Nat) {i : Nat} (hi : i < m) : (partsL fm L m k)[i]? = some (partL fm L i k) := by
 unfold partsL
 rw [List.getElem?_map, List.getElem?_range hi]; rfl
theorem partsL_zero (fm : Nat → Nat) (L : List Rat) (m : Nat) : partsL fm L m 0 = List.replicate m [] := by
 apply List.ext_getElem
 · simp [partsL]
 · intro i h1 h2
   simp [partsL, partL]
theorem partsL_next (fm : Nat → Nat) (L : List Rat) (m k : Nat) {x : Rat} (hx : L[k]? = some x) (hj : fm k < m) : partsL fm L m (k + 1) = (partsL fm L m k).set (fm k) (partL fm L (fm k) k ++ [x]) := by
 have e : L[k]?.getD 0 = x := by rw [hx]; rfl
 apply List.ext_getElem
 · simp [partsL]
 · intro i h1 h2
   have hi : i < m := by simpa [partsL] using h1
   rw [List.getElem_set]
   by_cases e2 : fm k = i
   · rw [if_pos e2]
     subst e2
     simp [partsL, partL, e]
   · rw [if_neg e2]
     simp [partsL, partL, e2]
theorem infoSQ : (Tryz.prog.info? 24).map (fun i => (i.zero, i.size, i.bytes)) = some (some (.slice none 0 0), 1, 24) := by kernel_rfl
theorem make_parts (m : Nat) (hc : m ≤ 1000000) (w : World) :
 (Instr.makeSlice 121 (.int .i64 (m : Int)) (.int .i64 (m : Int))).run Tryz.prog w = .ok (.slice (some ⟨w.heap.size, 0, none⟩) m m) (w.alloc (.cells (madeCells #[.slice none 0 0] m) 24)) := by
 obtain ⟨i0, hi, hz0, hz1, hz2⟩ := info_parts infoSQ
 have h := run_make (P := Tryz.prog) w 121 24 i0 (.slice none 0 0) Tryz.underlying121 hi hz0 .i64 .i64 m m (by omega) (by omega) (by rw [hz2]; omega) (by omega)
 simpa [hz1, Value.cells] using h
theorem field_elems (x0 : Option Addr) (x1 x2 : Nat) (x3 : Option Addr) (x4 x5 : Nat) (w : World) : (Instr.field 26 (.agg #[.slice x0 x1 x2, .slice x3 x4 x5]) 1).run Tryz.prog w = .ok (.slice x3 x4 x5) w := by kernel_rfl
end
section
open Go.RowKit
def mmS (s t : List Int) : List Int := [s.getD 0 0, t.getD 1 0]
def mmC (s t : List Int) : Int := if s.length = 2 ∧ t.length = 2 ∧ s.getD 1 0 = t.getD 0 0 then mayC (mmS s t) else 13
theorem shapeM_any {w : World} {s t : List Int} {a b : Option Addr} {ca cb : Nat} (A : ArgS w (.slice a s.length ca) s a ca) (B : ArgS w (.slice b t.length cb) t b cb) (h1 : 1 ≤ s.length) (h2 : 2 ≤ t.length) :
 Calls Tryz.prog 59 #[.slice a s.length ca, .slice b t.length cb] w fun e w' => ∃ r, e = .returned r ∧ ResS w.heap.size w' r (mmS s t) ∧ Below w.heap.size w w' := by
 obtain ⟨b1, o1, rfl, c1⟩ := A.at (i := 0) (by omega)
 obtain ⟨b2, o2, rfl, c2⟩ := B.at (i := 1) (by omega)
 have w1 := A.wf.getD 0
 have w2 := B.wf.getD 1
 obtain ⟨x, hx⟩ : ∃ x, s.getD 0 0 = x := ⟨_, rfl⟩
 obtain ⟨y, hy⟩ : ∃ y, t.getD 1 0 = y := ⟨_, rfl⟩
 have hm : mmS s t = [x, y] := by unfold mmS; rw [hx, hy]
 rw [hm]
 rw [hx] at c1 w1
 rw [hy] at c2 w2
 obtain ⟨sl, hsl⟩ : ∃ n, s.length = n := ⟨_, rfl⟩
 obtain ⟨tl, htl⟩ : ∃ n, t.length = n := ⟨_, rfl⟩
 rw [hsl] at h1 ⊢
 rw [htl] at h2 ⊢
 have i0 : (0 : Int) < (sl : Int) := by omega
 have i1 : (1 : Int) < (tl : Int) := by omega
 have j0 : 0 < sl := by omega
 have j1 : 1 < tl := by omega
 have R := Row.new w 3 #[.int .i64 x, .int .i64 y]
 have bA : Below w.heap.size w (w.alloc (.cells #[.int .i64 x, .int .i64 y] 3)) := (Below.refl _ _).alloc (Nat.le_refl _) _
 clear A B hx hy hm hsl htl
 simp only [Nat.add_zero] at c1
 have c2' : w.cell? ⟨b2, o2 + 1, none⟩ = some (.int .i64 y) := c2
 go_enter Tryz.func59, Tryz.ntmps59
 go_wp2_with fail
 have mkS : ∀ X, Below w.heap.size w X → X.cell? ⟨b1, o1, none⟩ = some (.int .i64 x) ∧ X.cell? ⟨b2, o2 + 1, none⟩ = some (.int .i64 y) ∧ Below w.heap.size w X := fun X h => ⟨(h.cell (World.block_lt_of_cell? _ _ c1)).trans c1, (h.cell (World.block_lt_of_cell? _ _ c2')).trans c2', h⟩
 have B0 : Below w.heap.size w w.drew := (Below.refl _ _).drew
 refine wp_region_held_drew (S := fun X => X.cell? ⟨b1, o1, none⟩ = some (.int .i64 x) ∧ X.cell? ⟨b2, o2 + 1, none⟩ = some (.int .i64 y) ∧ Below w.heap.size w X) (by kernel_rfl) (mkS _ B0) (fun hHeld => ?_)
 obtain ⟨y0, hdrh⟩ : ∃ Y, w.drew = Y := ⟨_, rfl⟩
 rw [hdrh] at B0 hHeld ⊢
 clear hdrh
 refine todo [0, 1, 2, 3, 4, 5] ?_
 iterate 6
  refine todoH (v := ?_) rfl (by kernel_rfl) (fun _ _ _ h => h) (by assumption) (Or.inl ⟨by rfl, ?_⟩) ?_
  rotate_left
  · intro w hSw; (try dsimp only at hSw); go_simp; (try with_reducible rfl)
  try simp only [Act.put, nA, nB, nC, nD, nE, nF]
 refine todone ?_
 obtain ⟨y1, hh1⟩ : ∃ Y, y0.alloc (.cells #[.int .i64 x, .int .i64 y] 3) = Y := ⟨_, rfl⟩
 have B1 : Below w.heap.size w y1 := by rw [← hh1]; exact B0.alloc B0.size _
 have Rh1 : Row y1 y0.heap.size 3 #[.int .i64 x, .int .i64 y] := by rw [← hh1]; exact Row.new _ _ _
 refine wpAnyH_ready (rs := [6]) (by kernel_rfl) (by simp) ?_
 refine AllReadyH.cons rfl (fun K hK => ?sh_6) AllReadyH.nil
 go_simp
 (try rw [hh1])
 clear hh1
 refine hK.out _ _ (mkS _ B1) (fun hHeld2 => ?mh_6)
 clear hK K hHeld
 have hHeld := hHeld2
 clear hHeld2
 try simp only [Act.put, nA, nB, nC, nD, nE, nF]
 refine todo [7] ?_
 iterate 1
  refine todoH (v := ?_) rfl (by kernel_rfl) (fun _ _ _ h => h) (by assumption) (Or.inl ⟨by rfl, ?_⟩) ?_
  rotate_left
  · intro w hSw; (try dsimp only at hSw); go_simp; (try with_reducible rfl)
  try simp only [Act.put, nA, nB, nC, nD, nE, nF]
 refine todone ?_
 refine wpAnyH_done (by kernel_rfl) ?_ _
 (try dsimp only [Straight])
 go_wp2_with fail
 go_ret
 refine ⟨_, rfl, ⟨?_, fun z hz => ?_⟩, B1⟩
 · exact ⟨rfl, .inr ⟨y0.heap.size, 2, #[.int .i64 x, .int .i64 y], rfl, B0.size, Rh1, Nat.le_refl _, by unfold maxLen; omega, by simp, by simp⟩⟩
 · rcases List.mem_cons.1 hz with rfl | hz
   · exact w1
   · rw [List.mem_singleton.1 hz]; exact w2
theorem mayProduct_any {w : World} {s t : List Int} {a b : Option Addr} {ca cb : Nat} (A : ArgS w (.slice a s.length ca) s a ca) (B : ArgS w (.slice b t.length cb) t b cb) (hs : s.length ≤ 17592186044416) (ht : t.length ≤ 17592186044416) :
 Calls Tryz.prog 56 #[.slice a s.length ca, .slice b t.length cb] w fun e w' => e = .returned (.int .i64 (mmC s t)) ∧ Below w.heap.size w w' := by
 obtain ⟨sl, hsl⟩ : ∃ n, s.length = n := ⟨_, rfl⟩
 obtain ⟨tl, htl⟩ : ∃ n, t.length = n := ⟨_, rfl⟩
 have hb0 := Below.refl w.heap.size w
 by_cases h1 : sl = 2
 · by_cases h2 : tl = 2
   · obtain ⟨b1, o1, rfl, c1⟩ := A.at (i := 1) (by omega)
     obtain ⟨b2, o2, rfl, c2⟩ := B.at (i := 0) (by omega)
     have hsh := fun (X : World) (hX : Below w.heap.size w X) => shapeM_any (A.later hX) (B.later hX) (by omega) (by omega)
     obtain ⟨m, hm⟩ : ∃ m, mmC s t = m := ⟨_, rfl⟩
     obtain ⟨x, hx⟩ : ∃ x, s.getD 1 0 = x := ⟨_, rfl⟩
     obtain ⟨y, hy⟩ : ∃ y, t.getD 0 0 = y := ⟨_, rfl⟩
     rw [hx] at c1
     rw [hy] at c2
     simp only [Nat.add_zero] at c2
     rw [hm]
     subst h1
     subst h2
     rw [hsl, htl] at hsh ⊢
     have g1 : ((2 : Nat) : Int) = 2 := rfl
     have j0 : 0 < 2 := by omega
     have j1 : 1 < 2 := by omega
     have hmm : m = if x = y then mayC (mmS s t) else 13 := by
      rw [← hm]
      unfold mmC
      rw [hx, hy]
      by_cases e : x = y
      · rw [if_pos ⟨hsl, htl, e⟩, if_pos e]
      · rw [if_neg (fun h => e h.2.2), if_neg e]
     have HMM := Lib.hid hmm
     by_cases e : x = y
     · have he : (x != y) = false := by simp [e]
       have hmv : m = mayC (mmS s t) := by rw [hmm, if_pos e]
       have HV := Lib.hid hmv
       clear A B hm hx hy hsl htl hmm hs ht e hmv
       go_enter Tryz.func56, Tryz.ntmps56
       go_wp2_with fail
       go_quiet (fail)
       go_wp2_with fail
       have hb1q := belowS_drew w.heap.size w nq
       refine (hsh _ hb1q).mono ?_
       rintro e w1 ⟨r, rfl, R, hb1⟩
       obtain ⟨a1, k1, rfl, _, A1, n1⟩ := R.slice
       have hmy := mayS_any A1 (by simp [mmS])
       rw [← HV.out] at hmy
       go_wp2_with fail
       refine hmy.mono ?_
       rintro e w2 ⟨rfl, hb2⟩
       go_wp2_with fail
       go_ret
       exact ⟨rfl, hb1q.trans ((hb1.trans (hb2.mono hb1.size)).mono hb1q.size)⟩
     · have he : (x != y) = true := by simp [e]
       obtain rfl : m = 13 := by rw [hmm, if_neg e]
       clear A B hm hx hy hsl htl hmm hs ht e hsh
       go_enter Tryz.func56, Tryz.ntmps56
       go_wp2_with fail
       go_quiet (fail)
       go_wp2_with fail
       go_ret
       exact ⟨rfl, belowS_drew _ _ _⟩
   · have hm : mmC s t = 13 := if_neg (fun h => by omega)
     have g1 : ((sl : Int) != 2) = false := by simp; omega
     have g2 : ((tl : Int) != 2) = true := by simp; omega
     rw [hm, hsl, htl]
     clear A B hm hsl htl hs ht h1 h2
     go_enter Tryz.func56, Tryz.ntmps56
     go_wp2_with fail
     go_quiet (fail)
     go_wp2_with fail
     go_ret
     exact ⟨rfl, belowS_drew _ _ _⟩
 · have hm : mmC s t = 13 := if_neg (fun h => by omega)
   have g1 : ((sl : Int) != 2) = true := by simp; omega
   rw [hm, hsl, htl]
   clear A B hm hsl htl hs ht h1
   go_enter Tryz.func56, Tryz.ntmps56
   go_wp2_with fail
   go_quiet (fail)
   go_wp2_with fail
   go_ret
   exact ⟨rfl, belowS_drew _ _ _⟩
theorem ArgQ.shape {w : World} {v : Value} {x : Rat} {n : Nat} (h : ArgQ w v x n) : ∃ m a1 n1 c1 a2 n2 c2, v = .agg #[.bool m, .slice a1 n1 c1, .slice a2 n2 c2] := by
 obtain ⟨m, xs, ds, a1, a2, c1, c2, rfl, _⟩ := h
 exact ⟨_, _, _, _, _, _, _, rfl⟩
def prdL (L1 L2 : List Rat) (k : Nat) : List Rat := (List.range k).map fun i => L1.getD i 0 * L2.getD i 0
theorem products_any {N : Nat} {w : World} {L1 L2 : List Rat} {a1 a2 : Option Addr} {c1 c2 : Nat} (E1 : RowA (fun W v x => ArgQ W v x N) w (.slice a1 L1.length c1) L1 a1 c1) (E2 : RowA (fun W v x => ArgQ W v x N) w (.slice a2 L2.length c2) L2 a2 c2) (hlen : L2.length = L1.length) (hq : L1.length ≤ 1000000) (hN : N ≤ 4000000) :
 Calls Tryz.prog 99 #[.slice a1 L1.length c1, .slice a2 L2.length c2] w fun e w' => ∃ r, e = .returned r ∧ RowO w.heap.size 54 (fun W v x => ResQ w.heap.size W v x (2 * N + 4)) w' r (prdL L1 L2 L1.length) ∧ Below w.heap.size w w' := by
 obtain ⟨i0, hi, hz0, hz1, hz2⟩ := info_parts infoQ
 have HE1 := Lib.hid E1
 have HE2 := Lib.hid E2
 obtain ⟨m, hm⟩ : ∃ m, L1.length = m := ⟨_, rfl⟩
 rw [hm] at hlen hq ⊢
 rw [hlen]
 have HM1 := Lib.hid hm
 have HM2 := Lib.hid hlen
 have hmk := make_rowP m (by omega)
 obtain ⟨V, hV⟩ : ∃ V, w.alloc (.cells (madeCells #[.bool false, .slice none 0 0, .slice none 0 0] (m * 3)) 54) = V := ⟨_, rfl⟩
 have hown0 : OwnE w.heap.size 54 V (.slice (some ⟨w.heap.size, 0, none⟩) 0 m) [] := by
  rw [← hV]
  exact World.ownsRow_made w _ m (Nat.le_refl _) (by unfold maxLen; omega) (madeP_len _ _)
 have bV : Below w.heap.size w V := by rw [← hV]; exact (Below.refl _ _).alloc (Nat.le_refl _) _
 have HO0 := Lib.hid hown0
 have HBV := Lib.hid bV
 clear E1 E2 hm hlen hown0 bV
 go_enter Tryz.func99, Tryz.ntmps99
 go_wp2_with fail
 (try rw [hV])
 clear hV hmk
 go_loopw [5, 13] (fun v i wr => ∃ (k : Nat), i = .int .i64 (k : Int) ∧ k ≤ m ∧ RowO w.heap.size 54 (fun W v x => ResQ w.heap.size W v x (2 * N + 4)) wr v (prdL L1 L2 k) ∧ Below w.heap.size w wr) (fun _ i _ => m - (intOf i).toNat)
 case atStart => exact ⟨0, rfl, Nat.zero_le _, ⟨[], HO0.out, AllE.nil _⟩, HBV.out⟩
 case round =>
  obtain ⟨k, rfl, hk, ⟨es, hown, hall⟩, hb⟩ := hrel
  obtain ⟨av, cv, rfl⟩ := ownT_slice hown
  have hsz := hb.size
  have hle : es.length = k := by rw [hall.1]; simp [prdL]
  subst hle
  by_cases hlt : es.length < m
  · obtain ⟨b1, o1, x0, x1, x2, q1, hbo1, hqk1, f0, f1, f2, hr1⟩ := (HE1.out.later hb (fun _ _ _ h => h.later hb)).at (i := es.length) (by rw [HM1.out]; exact hlt)
    obtain ⟨b2, o2, y0', y1', y2', q2, hbo2, hqk2, g0, g1, g2, hr2⟩ := (HE2.out.later hb (fun _ _ _ h => h.later hb)).at (i := es.length) (by rw [HM2.out]; exact hlt)
    obtain ⟨b1', o1', _, _, _, _, hbo1', _, f0', _, _, _⟩ := HE1.out.at (i := es.length) (by rw [HM1.out]; exact hlt)
    obtain ⟨b2', o2', _, _, _, _, hbo2', _, g0', _, _, _⟩ := HE2.out.at (i := es.length) (by rw [HM2.out]; exact hlt)
    rw [hbo1] at hbo1'
    rw [hbo2] at hbo2'
    obtain ⟨rfl, rfl⟩ : b1 = b1' ∧ o1 = o1' := by simpa using hbo1'
    obtain ⟨rfl, rfl⟩ : b2 = b2' ∧ o2 = o2' := by simpa using hbo2'
    have lt2 : b2 < w.heap.size := World.block_lt_of_cell? _ _ g0'
    subst hbo1
    subst hbo2
    obtain ⟨m1, u1, l1, j1, u2, l2, j2, e1⟩ := hr1.shape
    simp only [Value.agg.injEq, Array.mk.injEq, List.cons.injEq, and_true] at e1
    obtain ⟨rfl, rfl, rfl⟩ := e1
    obtain ⟨m2, u3, l3, j3, u4, l4, j4, e2⟩ := hr2.shape
    simp only [Value.agg.injEq, Array.mk.injEq, List.cons.injEq, and_true] at e2
    obtain ⟨rfl, rfl, rfl⟩ := e2
    have hval : prdL L1 L2 (es.length + 1) = prdL L1 L2 es.length ++ [q1 * q2] := by
     unfold prdL
     rw [List.range_succ, List.map_append, List.map_cons, List.map_nil, List.getD_eq_getElem?_getD, List.getD_eq_getElem?_getD, hqk1, hqk2]
     rfl
    have HVAL := Lib.hid hval
    have HR1 := Lib.hid hr1
    have HR2 := Lib.hid hr2
    obtain ⟨X, hX⟩ : ∃ X, wr.alloc (.cells #[.bool m1, .slice u1 l1 j1, .slice u2 l2 j2] 54) = X := ⟨_, rfl⟩
    have RX : Row X wr.heap.size 54 #[.bool m1, .slice u1 l1 j1, .slice u2 l2 j2] := by rw [← hX]; exact Row.new _ _ _
    have bX : Below wr.heap.size wr X := by rw [← hX]; exact (Below.refl _ _).alloc (Nat.le_refl _) _
    have bwX : Below w.heap.size w X := hb.trans (bX.mono hsz)
    have hownX := hown.later bX
    have sX := bwX.size
    obtain ⟨r, hrv, hrb, hrne, hrA⟩ := hownX.hits10 sX
    have np := hrA wr.heap.size RX.lt (fun e => by have := (hown.lt _ e).2; omega)
    have n2 : b2 ≠ r := by omega
    obtain ⟨d0, d1, d2, _, _, _⟩ := RX.three
    have h0 := (bX.cell (World.block_lt_of_cell? _ _ g0)).trans g0
    have h1 := (bX.cell (World.block_lt_of_cell? _ _ g1)).trans g1
    have h2 := (bX.cell (World.block_lt_of_cell? _ _ g2)).trans g2
    have mkS : ∀ Y, Kept r X Y → (Y.cell? ⟨wr.heap.size, 0, none⟩ = some (.bool m1) ∧ Y.cell? ⟨wr.heap.size, 1, none⟩ = some (.slice u1 l1 j1) ∧ Y.cell? ⟨wr.heap.size, 2, none⟩ = some (.slice u2 l2 j2)) ∧ (Y.cell? ⟨b2, o2 + es.length * 3, none⟩ = some (.bool m2) ∧ Y.cell? ⟨b2, o2 + es.length * 3 + 1, none⟩ = some (.slice u3 l3 j3) ∧ Y.cell? ⟨b2, o2 + es.length * 3 + 2, none⟩ = some (.slice u4 l4 j4)) ∧ Kept r X Y := fun Y h => ⟨⟨h.cell d0 np, h.cell d1 np, h.cell d2 np⟩, ⟨h.cell h0 n2, h.cell h1 n2, h.cell h2 n2⟩, h⟩
    have K0 : Kept r X X.drew := (Kept.refl r X).drew
    have hltI : (es.length : Int) < (m : Int) := by omega
    have HALL := Lib.hid hall
    have HOWN := Lib.hid hownX
    clear hval hr1 hr2 hqk1 hqk2 hbo1' hbo2' f0' g0' hall hown hownX g0 g1 g2
    go_wp2_with fail
    (try rw [hX])
    clear hX f0 f1 f2
    refine wp_region_held_drew (S := fun Y => (Y.cell? ⟨wr.heap.size, 0, none⟩ = some (.bool m1) ∧ Y.cell? ⟨wr.heap.size, 1, none⟩ = some (.slice u1 l1 j1) ∧ Y.cell? ⟨wr.heap.size, 2, none⟩ = some (.slice u2 l2 j2)) ∧ (Y.cell? ⟨b2, o2 + es.length * 3, none⟩ = some (.bool m2) ∧ Y.cell? ⟨b2, o2 + es.length * 3 + 1, none⟩ = some (.slice u3 l3 j3) ∧ Y.cell? ⟨b2, o2 + es.length * 3 + 2, none⟩ = some (.slice u4 l4 j4)) ∧ Kept r X Y) (by kernel_rfl) (mkS _ K0) (fun hHeld => ?_)
    obtain ⟨y0, hdr⟩ : ∃ Y, X.drew = Y := ⟨_, rfl⟩
    have B0 : Below X.heap.size X y0 := by rw [← hdr]; exact (Below.refl _ _).drew
    rw [hdr] at K0 hHeld ⊢
    clear hdr
    refine todo [0, 1, 2, 3, 4, 5] ?_
    iterate 6
     refine todoH (v := ?_) rfl (by kernel_rfl) (fun _ _ _ h => h) (by assumption) (Or.inl ⟨by rfl, ?_⟩) ?_
     rotate_left
     · intro w hSw; (try dsimp only at hSw); go_simp; (try with_reducible rfl)
     try simp only [Act.put, nA, nB, nC, nD, nE, nF]
    refine todone ?_
    refine wpAnyH_ready (rs := [6]) (by kernel_rfl) (by simp) ?_
    refine AllReadyH.cons rfl (fun K hK => ?sk_6) AllReadyH.nil
    go_simp
    refine (mulQ_any (n := N) (HR1.out.later (bX.trans (B0.mono bX.size))) (HR2.out.later (bX.trans (B0.mono bX.size))) (by omega)).mono ?_
    rintro e y1 ⟨rv, rfl, qv, hy⟩
    have K1 := K0.below hy
    have B1 : Below X.heap.size X y1 := B0.trans (hy.mono B0.size)
    have hBw : Below w.heap.size w y1 := bwX.trans (B1.mono sX)
    have sw5 := hBw.size
    have Q5 := Lib.hid (qv.mono (show w.heap.size ≤ y0.heap.size from Nat.le_trans sX B0.size))
    obtain ⟨m5, j5, j6, j7, j8, j9, k1, rfl⟩ := qv.shape
    clear qv hy
    have hownY := HOWN.out.later B1
    have hallY : AllE (fun v x => ResQ w.heap.size y1 v x (2 * N + 4)) es (prdL L1 L2 es.length) := HALL.out.imp fun u x _ h => h.later (bX.trans (B1.mono bX.size))
    go_simp
    refine hK.out _ _ (mkS _ K1) (fun hHeld2 => ?mk_6)
    clear hK K hHeld
    have hHeld := hHeld2
    clear hHeld2
    try simp only [Act.put, nA, nB, nC, nD, nE, nF]
    refine wpAnyH_ready (rs := [7]) (by kernel_rfl) (by simp) ?_
    refine AllReadyH.cons rfl (fun K hK => ?sk_7) AllReadyH.nil
    go_simp
    refine hK.out _ _ (mkS _ (K1.alloc _)) (fun hHeld2 => ?mk_7)
    clear hK K hHeld
    have hHeld := hHeld2
    clear hHeld2
    try simp only [Act.put, nA, nB, nC, nD, nE, nF]
    refine wpAnyH_ready (rs := [8]) (by kernel_rfl) (by simp) ?_
    refine AllReadyH.cons rfl (fun K hK => ?sk_8) AllReadyH.nil
    refine step_append_lies _ rfl _ _ 24 rfl w.heap.size 54 i0 _ 3 56 Tryz.underlying24 hi hz0 hz1 hz2 rfl (by decide) _ es.length (flat3 es) rfl (hownY.later ((Below.refl _ _).alloc (Nat.le_refl _) _)) ⟨y1.heap.size, 0, none⟩ 1 1 [.bool m5, .slice j5 j6 j7, .slice j8 j9 k1] rfl rfl (cell_three_new _ _ _ _ _) (by simp [Value.oneCell']) (by omega) (by unfold maxLen; omega) (by omega) (by simp; omega) _ rfl ?_
    intro g cp w7 hown' hgrow hg' hlt'
    have K7 := (K1.alloc _).grown hgrow hrv
    refine hK.out _ _ (mkS _ K7) (fun hHeld2 => ?mk_8)
    clear hK K hHeld
    have hHeld := hHeld2
    clear hHeld2
    try simp only [Act.put, nA, nB, nC, nD, nE, nF]
    refine todo [9] ?_
    iterate 1
     refine todoH (v := ?_) rfl (by kernel_rfl) (fun _ _ _ h => h) (by assumption) (Or.inl ⟨by rfl, ?_⟩) ?_
     rotate_left
     · intro w hSw; (try dsimp only at hSw); go_simp; (try with_reducible rfl)
     try simp only [Act.put, nA, nB, nC, nD, nE, nF]
    refine todone ?_
    refine wpAnyH_done (by kernel_rfl) ?_ _
    (try dsimp only [Straight])
    go_wp2
    go_roundw
    case rel =>
     obtain ⟨hrow8, hb8⟩ := pushE (P := fun W v x => ResQ w.heap.size W v x (2 * N + 4)) (o := .cells #[.bool m5, .slice j5 j6 j7, .slice j8 j9 k1] 54) (e := ⟨.bool m5, .slice j5 j6 j7, .slice j8 j9 k1⟩) hBw sw5 hownY hallY Q5.out (fun u y h => ResQ.apart hownY hgrow (by decide) h) hown' hgrow
     refine ⟨es.length + 1, by go_num, by omega, ?_, hb8⟩
     rw [HVAL.out]
     exact hrow8
    case measure => simp [intOf]; omega
  · have hkl : es.length = m := by omega
    have hltI : ¬ (es.length : Int) < (m : Int) := by omega
    have hrow : RowO w.heap.size 54 (fun W v x => ResQ w.heap.size W v x (2 * N + 4)) wr (.slice av es.length cv) (prdL L1 L2 m) := ⟨es, hown, by rw [← hkl]; exact hall⟩
    have HROW := Lib.hid hrow
    clear hown hall hkl hrow hlt
    go_wp2_with fail
    go_ret
    exact ⟨_, rfl, HROW.out, hb⟩
end
section
open Go.RowKit Go.Shelf
attribute [local go_sem] Oper.semAt_some
structure KpC (n₀ g : Nat) (A B : World) : Prop where
 below : Below n₀ A B
 box : B.heap[g]? = A.heap[g]?
 marks : ∀ (D : Nat), A.heap[D]? = some (.deferred (some [])) → B.heap[D]? = some (.deferred (some []))
theorem KpC.trans {n₀ g : Nat} {A B C : World} (h : KpC n₀ g A B) (k : KpC n₀ g B C) : KpC n₀ g A C := ⟨h.below.trans k.below, k.box.trans h.box, fun D hD => k.marks D (h.marks D hD)⟩
theorem KpC.b {n₀ g : Nat} {w : World} (hn : n₀ ≤ w.heap.size) (hg : g < w.heap.size) (W : World) (l : Nat) (r r' : Loop) (hl : w.heap.size ≤ l) (h : W.heap[l]? = some (.loop r)) : KpC n₀ g W (W.putObj l (.loop r')) :=
 ⟨belowK_b hn W l _ _ hl h rfl rfl, World.putObj_heap_other (by omega), fun D hD => by
  have hne : D ≠ l := fun e => by subst e; rw [h] at hD; cases hD
  rw [World.putObj_heap_other hne]
  exact hD⟩
structure MatB (n₀ g R C : Nat) (es : List E3) (ba oa ca b o cb : Nat) (X : World) : Prop where
 row : Row X g 26 #[.slice (some ⟨ba, oa, none⟩) 2 ca, .slice (some ⟨b, o, none⟩) (R * C) cb]
 sh : ArgS X (.slice (some ⟨ba, oa, none⟩) 2 ca) [(R : Int), (C : Int)] (some ⟨ba, oa, none⟩) ca
 el : CellsE X b o es
 len : es.length = R * C
 cap : R * C ≤ cb
 ba : ba < n₀
 bb : b < n₀
theorem MatB.kp {n₀ g R C ba oa ca b o cb : Nat} {es : List E3} {A B : World} (h : MatB n₀ g R C es ba oa ca b o cb A) (k : Below n₀ A B) (hg : B.heap[g]? = A.heap[g]?) : MatB n₀ g R C es ba oa ca b o cb B := by
 refine ⟨hg.trans h.row, ⟨h.sh.is, ?_, h.sh.le, h.sh.wf⟩, fun i e he => ?_, h.len, h.cap, h.ba, h.bb⟩
 · exact h.sh.lim.below k (fun a e => by cases e; exact h.ba)
 · obtain ⟨h0, h1, h2⟩ := h.el i e he
   exact ⟨(k.cell (p := ⟨b, o + i * 3, none⟩) h.bb).trans h0, (k.cell (p := ⟨b, o + i * 3 + 1, none⟩) h.bb).trans h1, (k.cell (p := ⟨b, o + i * 3 + 2, none⟩) h.bb).trans h2⟩
def colE (es : List E3) (C R k : Nat) : List E3 := (List.range R).map fun i => es[i * C + k]?.getD dfE
theorem colE_len (es : List E3) (C R k : Nat) : (colE es C R k).length = R := by simp [colE]
def ColV (es : List E3) (C R : Nat) (k : Nat) (v : Value) (W : World) : Prop := ∃ g cap, v = .slice (some ⟨g, 0, none⟩) R cap ∧ CellsE W g 0 (colE es C R k) ∧ R ≤ cap
theorem ColV.b {es : List E3} {C R k : Nat} {v : Value} {W : World} {l : Nat} {r r' : Loop} (h : W.heap[l]? = some (.loop r)) (k1 : ColV es C R k v W) : ColV es C R k v (W.putObj l (.loop r')) := by
 obtain ⟨g, cap, rfl, h1, h2⟩ := k1
 refine ⟨g, cap, rfl, fun i e he => ?_, h2⟩
 obtain ⟨c0, c1, c2⟩ := h1 i e he
 have hg : g ≠ l := fun e' => by
  subst e'
  unfold World.cell? at c0
  simp only [h] at c0
  cases c0
 have kk : (W.putObj l (.loop r')).heap[g]? = W.heap[g]? := World.putObj_heap_other hg
 exact ⟨(World.cell?_of_block (a := ⟨g, 0 + i * 3, none⟩) kk).trans c0, (World.cell?_of_block (a := ⟨g, 0 + i * 3 + 1, none⟩) kk).trans c1, (World.cell?_of_block (a := ⟨g, 0 + i * 3 + 2, none⟩) kk).trans c2⟩
def mkD (D : Nat) : Deferred := { target := .collected D, args := #[] }
theorem leaves_marks {F : Fence} {n : Nat} {P : Program} {fn : Func} {tmps : Array Value} {R : Ending → World → Prop} (Φ : World → Prop) (hr : fn.results = #[]) (hΦ : ∀ X, Φ X → R (.returned (.tuple #[])) X) (B : Nat) (hs : ∀ X D, Φ X → B ≤ D → X.heap[D]? = some (.deferred (some [])) → Φ (X.putObj D (.deferred none))) :
 ∀ (ds : List Nat) (X : World), Φ X → (∀ D ∈ ds, B ≤ D ∧ X.heap[D]? = some (.deferred (some []))) → ds.Nodup → LeavesInM F n P fn tmps R (ds.map mkD) .returning X
 | [], X, h, _, _ => ⟨_, results_none hr _ _ _, hΦ X h⟩
 | D :: ds, X, h, hd, hn => by
   obtain ⟨h1, h2⟩ := hd D (List.mem_cons_self ..)
   rw [List.nodup_cons] at hn
   refine ⟨by simp, .inl ⟨D, _, rfl, run_takeDeferred h2, ?_⟩⟩
   refine leaves_marks Φ hr hΦ B hs ds _ (hs X D h h1 h2) (fun D' hD' => ?_) hn.2
   obtain ⟨h3, h4⟩ := hd D' (List.mem_cons_of_mem _ hD')
   exact ⟨h3, (World.putObj_heap_other (show D' ≠ D from fun e => hn.1 (by rw [← e]; exact hD'))).trans h4⟩
theorem columns1_told (n n₀ g R C : Nat) (es : List E3) (ba oa ca b o cb : Nat) (w : World) (hn3 : 3 ≤ n) (hR : 1 ≤ R) (hC : 1 ≤ C) (hm : R * C ≤ 1000000) (hg : g < w.heap.size) (hn₀ : n₀ ≤ w.heap.size) (hM : MatB n₀ g R C es ba oa ca b o cb w) (hsh : ShE es) :
 Told Fence.wide n Tryz.prog 142 #[.pointer (some ⟨g, 0, none⟩)] (KpC n₀ g) (ColV es C R) C w := by
 intro l J W hW hJ hY h0
 obtain ⟨i0, hi, hz0, hz1, hz2⟩ := info_parts infoQ
 have hMW := hM.kp (hW.mono hn₀) (hW.block _ hg)
 have hgW : g < W.heap.size := Nat.lt_of_lt_of_le hg hW.size
 have hnW : n₀ ≤ W.heap.size := Nat.le_trans hn₀ hW.size
 have hJb : ∀ {k : Nat} {A B : World}, J k A → Below A.heap.size A B → J k B := fun {k A B} hj hb => hJ k A B none hj ⟨hb.os, hb.tape, hb.output, hb.size, fun k hk _ => hb.block k hk⟩ (fun _ h => by cases h)
 have hmk := make_rowP R (by have := Nat.le_mul_of_pos_right R hC; omega)
 obtain ⟨p0, p1, _, _⟩ := hMW.row.two
 have q0 : W.cell? ⟨ba, oa, none⟩ = some (.int .i64 (R : Int)) := by
  obtain ⟨b', o', e, h⟩ := hMW.sh.at (i := 0) (by simp)
  cases e
  simpa using h
 have q1 : W.cell? ⟨ba, oa + 1, none⟩ = some (.int .i64 (C : Int)) := by
  obtain ⟨b', o', e, h⟩ := hMW.sh.at (i := 1) (by simp)
  cases e
  simpa using h
 have HM := Lib.hid hMW
 refine callsIn_of_wp_marks Tryz.func142 rfl trivial ?_ rfl
 simp only [Tryz.ntmps142, List.size_toArray, List.length_cons, List.length_nil, Nat.reduceAdd, Nat.reduceSub, Array.replicate_succ, Array.replicate_zero, List.push_toArray, List.append_toArray, List.nil_append, List.cons_append]
 gi_wp2_with fail
 refine wpIn_loop (fun a' X => ∃ (k : Nat) (ds : List Nat) (u3 u4 u5 u11 u12 u13 u14 u15 u16 u17 u18 u19 u20 u21 u22 u23 u24 u25 u26 u27 u28 u29 u30 u31 u32 : Value), (k ≤ C ∧ J k X ∧ KpC n₀ g W X ∧ (∀ D ∈ ds, W.heap.size ≤ D ∧ X.heap[D]? = some (.deferred (some []))) ∧ ds.Nodup) ∧ a' = { tmps := #[.func (.yield l) #[] #[], .pointer (some ⟨g, 0, none⟩), undef, u3, u4, u5, .pointer (some ⟨g, 0, none⟩), .slice (some ⟨ba, oa, none⟩) 2 ca, .pointer (some ⟨ba, oa + 1, none⟩), .int .i64 (C : Int), .int .i64 (k : Int), u11, u12, u13, u14, u15, u16, u17, u18, u19, u20, u21, u22, u23, u24, u25, u26, u27, u28, u29, u30, u31, u32], defers := ds.map mkD }) (fun a' _ => C - (intOf (a'.tmps.getD 10 undef)).toNat) ?_ ?_
 · exact ⟨0, [], _, _, _, _, _, _, _, _, _, _, _, _, _, _, _, _, _, _, _, _, _, _, _, _, _, ⟨Nat.zero_le _, h0, ⟨Below.refl _ _, rfl, fun _ h => h⟩, (fun D h => by cases h), List.nodup_nil⟩, rfl⟩
 · rintro _ wr ⟨k, ds, u3, u4, u5, u11, u12, u13, u14, u15, u16, u17, u18, u19, u20, u21, u22, u23, u24, u25, u26, u27, u28, u29, u30, u31, u32, ⟨hk, hj, hkp, hds, hnd⟩, rfl⟩
   by_cases hlt : k < C
   · have hltI : (k : Int) < (C : Int) := by omega
     have hMr := HM.out.kp hkp.below hkp.box
     obtain ⟨A, hA⟩ : ∃ A, wr.heap.size = A := ⟨_, rfl⟩
     obtain ⟨V1, hV1⟩ : ∃ V1, wr.alloc (.cells #[.int .i64 (k : Int)] 3) = V1 := ⟨_, rfl⟩
     obtain ⟨V2, hV2⟩ : ∃ V2, V1.alloc (.cells (madeCells #[.bool false, .slice none 0 0, .slice none 0 0] (R * 3)) 54) = V2 := ⟨_, rfl⟩
     obtain ⟨V3, hV3⟩ : ∃ V3, V2.alloc (.cells #[.slice (some ⟨A + 1, 0, none⟩) 0 R] 24) = V3 := ⟨_, rfl⟩
     have s1 : V1.heap.size = A + 1 := by rw [← hV1, World.size_alloc, hA]
     have s2 : V2.heap.size = A + 1 + 1 := by rw [← hV2, World.size_alloc, s1]
     have s3 : V3.heap.size = A + 1 + 1 + 1 := by rw [← hV3, World.size_alloc, s2]
     have b1 : Below wr.heap.size wr V1 := by rw [← hV1]; exact (Below.refl _ _).alloc (Nat.le_refl _) _
     have b2 : Below V1.heap.size V1 V2 := by rw [← hV2]; exact (Below.refl _ _).alloc (Nat.le_refl _) _
     have b3 : Below V2.heap.size V2 V3 := by rw [← hV3]; exact (Below.refl _ _).alloc (Nat.le_refl _) _
     have b13 : Below V1.heap.size V1 V3 := b2.trans (b3.mono b2.size)
     have br3 : Below wr.heap.size wr V3 := b1.trans (b13.mono b1.size)
     have hrW : W.heap.size ≤ wr.heap.size := hkp.below.size
     have hM1 := hMr.kp (b1.mono (by omega)) (b1.block _ (by omega))
     have hM3 := hMr.kp (br3.mono (by omega)) (br3.block _ (by omega))
     obtain ⟨p0, p1, _, _⟩ := hM1.row.two
     obtain ⟨x0, x1, _, _⟩ := hM3.row.two
     have q0 : V1.cell? ⟨ba, oa, none⟩ = some (.int .i64 (R : Int)) := by
      obtain ⟨b', o', e, h⟩ := hM1.sh.at (i := 0) (by simp)
      cases e
      simpa using h
     have d1 : Row V3 A 3 #[.int .i64 (k : Int)] := by rw [← hA]; exact (show Row V1 wr.heap.size 3 #[.int .i64 (k : Int)] by rw [← hV1]; exact Row.new _ _ _).later b13
     have d2 : OwnE A 54 V3 (.slice (some ⟨A + 1, 0, none⟩) 0 R) [] := by
      have h : OwnE A 54 V2 (.slice (some ⟨V1.heap.size, 0, none⟩) 0 R) [] := by
       rw [← hV2]
       exact World.ownsRow_made V1 _ R (by omega) (by unfold maxLen; have := Nat.le_mul_of_pos_right R hC; omega) (madeP_len _ _)
      rw [s1] at h
      exact h.later b3
     have d3 : Boxed V3 (A + 1 + 1) 24 (.slice (some ⟨A + 1, 0, none⟩) 0 R) := by rw [← hV3, ← s2]; exact Boxed.new _ _ _
     have hrw := rows_any (s := [(R : Int), (C : Int)]) (b := some ⟨b, o, none⟩) (m := R * C) (cb := cb) (show ArgS V3 (.slice (some ⟨ba, oa, none⟩) ([(R : Int), (C : Int)] : List Int).length ca) _ _ _ from hM3.sh) (Nat.le_refl 2)
     simp only [List.length_cons, List.length_nil, Nat.reduceAdd] at hrw
     have HA := Lib.hid hA
     have HM3 := Lib.hid hM3
     have HMr := Lib.hid hMr
     have HD1 := Lib.hid d1
     have HD2 := Lib.hid d2
     have HD3 := Lib.hid d3
     have HS3 := Lib.hid s3
     clear hA d1 d2 d3 hM1 hM3 hMr s3
     gi_wp2_with fail
     rw [show wr.heap.size = A from HA.out]
     refine wideCallS (hrw.mono ?_)
     rintro e w4 ⟨rfl, RX, RWd, hb4, hs4⟩
     rw [HS3.out] at RX RWd hb4 hs4 ⊢
     have E1 := HD1.out.below hb4 (by omega)
     have E2 := HD2.out.later (by rw [HS3.out]; exact hb4)
     have E3 := Row.below HD3.out hb4 (by omega)
     have br4 : Below A wr w4 := by rw [← HA.out]; exact br3.trans (hb4.mono (by have := HA.out; omega))
     have hM4 := HM3.out.kp (hb4.mono (by have := HA.out; omega)) (hb4.block _ (by have := HA.out; omega))
     clear hV1 hV2 hV3 p0 p1 x0 x1 q0 hrw
     have HM4 := Lib.hid hM4
     gi_wp2_with fail
     refine wpIn_rangeFunc_ownH (F := Fence.wide) (n := n) rfl (by omega) (gf := 141) (lb := #[.pointer (some ⟨A + 1 + 1 + 1, 0, none⟩), .pointer (some ⟨A + 1 + 1 + 1 + 1, 0, none⟩)]) rfl trivial (enters_of Tryz.func141 (by kernel_rfl) rfl)
      (rows1_stops (n - 1) (A + 1 + 1 + 1) (A + 1 + 1 + 1 + 1) b o cb R C hC hm hM4.cap w4 (by omega) (by omega) (RX.cell 1) (RWd.cell 0)) KpR.trans (KpR.b (by omega) (by omega)) (Below.refl _ _) (fun _ => rfl)
      (fun (pre : List (Fin R)) X => ∃ v, Boxed X (A + 1 + 1) 24 v ∧ OwnE A 54 X v (pre.map fun x => es[x.val * C + k]?.getD dfE) ∧ Row X A 3 #[.int .i64 (k : Int)] ∧ Below A wr X ∧ KpR (A + 1 + 1 + 1) (A + 1 + 1 + 1 + 1) w4 X ∧ A + 1 + 1 + 1 + 1 + 1 ≤ X.heap.size)
      (fun c pre X => False)
      (fun pre X Y row ⟨v, h1, h2, h3, h4, h5, h6⟩ hgr hr => by
        have kk := KeepC.grown hgr (fun r e => (hr r e).2)
        refine ⟨v, Boxed.keepC h1 kk, h2.keepC kk, h3.keepC kk, h4.grown hgr (by have := h4.size; have := HA.out; omega) (fun k e => by have := (hr k e).1; omega), ⟨(hgr.block _ (by omega) (fun e => by have := (hr _ e.symm).1; omega)).trans h5.b1, (hgr.block _ (by omega) (fun e => by have := (hr _ e.symm).1; omega)).trans h5.b2⟩, Nat.le_trans h6 hgr.size⟩)
      (fun _ _ _ _ _ hs _ _ => hs)
      ⟨_, E3, E2, E1, br4, KpR.refl _ _ _, by omega⟩
      (fun (x : Fin R) a' X => a' = { tmps := #[.func (.yield l) #[] #[], .pointer (some ⟨g, 0, none⟩), undef, .pointer (some ⟨A, 0, none⟩), .pointer (some ⟨A + 1 + 1, 0, none⟩), .slice (some ⟨b, o + x.val * C * 3, none⟩) C (cb - x.val * C), .pointer (some ⟨g, 0, none⟩), .slice (some ⟨ba, oa, none⟩) 2 ca, .pointer (some ⟨ba, oa + 1, none⟩), .int .i64 (C : Int), .int .i64 (k : Int), .bool true, .int .i64 (k : Int), .pointer (some ⟨g, 0, none⟩), .slice (some ⟨ba, oa, none⟩) 2 ca, .pointer (some ⟨ba, oa, none⟩), .int .i64 (R : Int), .slice (some ⟨A + 1, 0, none⟩) 0 R, .agg #[.slice (some ⟨ba, oa, none⟩) 2 ca, .slice (some ⟨b, o, none⟩) (R * C) cb], .func (.func 141) #[] #[.pointer (some ⟨A + 1 + 1 + 1, 0, none⟩), .pointer (some ⟨A + 1 + 1 + 1 + 1, 0, none⟩)], .slice (some ⟨b, o + x.val * C * 3, none⟩) C (cb - x.val * C), u21, u22, u23, u24, u25, u26, u27, u28, u29, u30, u31, u32], defers := [] })
      (fun _ _ _ _ _ _ h _ _ => h)
      ?assign ?body ?done ?stop
     case assign =>
      rintro l2 pre ⟨i, hi⟩ X K hI hK
      simp only [rowAt]
      gi_wp2
      exact hK _ _ (KeepsFrom.refl _ _) (KpR.refl _ _ _) hI rfl
     case stop =>
      rintro D c pre X _ _ h _
      exact h.elim
     case body =>
      rintro l2 pre ⟨i, hiR⟩ a' X hl2 hrec ⟨v, h1, h2, h3, h4, h5, h6⟩ rfl hlt2
      simp only
      obtain ⟨f, hf⟩ : ∃ f, i * C = f := ⟨_, rfl⟩
      have hfk : f + k < es.length := by
       rw [HM4.out.len, ← hf]
       have := Nat.mul_le_mul_right C (show i + 1 ≤ R by omega)
       rw [Nat.succ_mul] at this
       omega
      rw [hf]
      have hMX := HMr.out.kp (h4.mono (by have := HA.out; omega)) (h4.block _ (by have := HA.out; omega))
      obtain ⟨z1, z2, z3, z4, z5, z6, z7, he⟩ := hsh (f + k) hfk
      obtain ⟨c0, c1, c2⟩ := hMX.el (f + k) _ (by rw [List.getElem?_eq_getElem hfk])
      have he2 : es[f + k] = ⟨.bool z1, .slice z2 z3 z4, .slice z5 z6 z7⟩ := by rw [← he, List.getElem?_eq_getElem hfk]; rfl
      rw [he2, show o + (f + k) * 3 = o + f * 3 + k * 3 by omega] at c0 c1 c2
      simp only at c0 c1 c2
      obtain ⟨gs, hgs⟩ : ∃ gs, (pre.map fun x => es[x.val * C + k]?.getD dfE) = gs := ⟨_, rfl⟩
      have hgn : ((pre ++ [(⟨i, hiR⟩ : Fin R)]).map fun x : Fin R => es[x.val * C + k]?.getD dfE) = gs ++ [⟨.bool z1, .slice z2 z3 z4, .slice z5 z6 z7⟩] := by
       rw [List.map_append, hgs, List.map_cons, List.map_nil]
       simp only [hf, he]
      have hgl : gs.length < R := by rw [← hgs, List.length_map]; exact hlt2
      rw [hgs] at h2
      have HGN := Lib.hid hgn
      obtain ⟨r, hrv, hrb, hrne, hrc, hro⟩ := ownV_hits h2 (by omega)
      obtain ⟨av, cv, rfl⟩ := ownT_slice h2
      have nA := hrne _ _ _ h3 (by decide)
      have nB := hrne _ _ _ h1 (by decide)
      have n1 := hrne _ _ _ (show Row X (A + 1 + 1 + 1) _ _ from h5.b1.trans RX) (by decide)
      have n2 := hrne _ _ _ (show Row X (A + 1 + 1 + 1 + 1) _ _ from h5.b2.trans RWd) (by decide)
      have nb : b ≠ r := by have := hMX.bb; have := HA.out; omega
      have hkC : (k : Int) < (C : Int) := hltI
      have x1 := Boxed.cell h1
      have x2 := h3.cell 0
      have mkA : ∀ Y, Kept r X Y → Y.cell? ⟨A + 1 + 1, 0, none⟩ = some (.slice av gs.length cv) ∧ Y.cell? ⟨A, 0, none⟩ = some (.int .i64 (k : Int)) ∧ (Y.cell? ⟨b, o + f * 3 + k * 3, none⟩ = some (.bool z1) ∧ Y.cell? ⟨b, o + f * 3 + k * 3 + 1, none⟩ = some (.slice z2 z3 z4) ∧ Y.cell? ⟨b, o + f * 3 + k * 3 + 2, none⟩ = some (.slice z5 z6 z7)) ∧ Kept r X Y := fun Y h => ⟨h.cell x1 nB, h.cell x2 nA, ⟨h.cell c0 nb, h.cell c1 nb, h.cell c2 nb⟩, h⟩
      have k0 : Kept r X X.drew := (Kept.refl r X).drew
      have hm6 : R ≤ 1000000 := by have := Nat.le_mul_of_pos_right R hC; omega
      have HC2 := Lib.hid h2
      clear hgn hgs hf he he2 hfk
      refine wpIn_block ?_
      refine region_roundL (fun Y => Y.cell? ⟨A + 1 + 1, 0, none⟩ = some (.slice av gs.length cv) ∧ Y.cell? ⟨A, 0, none⟩ = some (.int .i64 (k : Int)) ∧ (Y.cell? ⟨b, o + f * 3 + k * 3, none⟩ = some (.bool z1) ∧ Y.cell? ⟨b, o + f * 3 + k * 3 + 1, none⟩ = some (.slice z2 z3 z4) ∧ Y.cell? ⟨b, o + f * 3 + k * 3 + 2, none⟩ = some (.slice z5 z6 z7)) ∧ Kept r X Y) 7 (by kernel_rfl) (by kernel_rfl) (by rintro ⟨a', w', h⟩; exact h) (mkA _ k0) (fun hHeld => ?_)
      refine todo [0, 1, 2, 3, 4] ?_
      iterate 5
       refine todoL (v := ?_) rfl (by kernel_rfl) (fun _ _ _ h => h) (by assumption) (Or.inl ⟨by rfl, ?_⟩) ?_
       rotate_left
       · intro w hSw; (try dsimp only at hSw); go_simp; (try with_reducible rfl)
       try simp only [Act.put, nA, nB, nC, nD, nE, nF]
      refine todone ?_
      have b5d : Below X.heap.size X X.drew := (Below.refl _ X).drew
      refine wpAnyL_one (i := 5) (by kernel_rfl) rfl (fun K hK => ?sbc_5)
      go_simp
      refine hK.out _ _ (fun _ => mkA _ (k0.alloc _)) (fun hHeld2 => ?mbc_5)
      clear hK K hHeld
      have hHeld := hHeld2 (by decide)
      clear hHeld2
      try simp only [Act.put, nA, nB, nC, nD, nE, nF]
      refine wpAnyL_one (i := 6) (by kernel_rfl) rfl (fun K hK => ?sbc_6)
      refine step_append_lies _ rfl _ _ 24 rfl A 54 i0 _ 3 56 Tryz.underlying24 hi hz0 hz1 hz2 rfl (by decide) _ gs.length (flat3 gs) rfl ((HC2.out.later b5d).later ((Below.refl _ _).alloc (Nat.le_refl _) _)) ⟨X.drew.heap.size, 0, none⟩ 1 1 [.bool z1, .slice z2 z3 z4, .slice z5 z6 z7] rfl rfl (cell_three_new _ _ _ _ _) (by simp [Value.oneCell']) (by omega) (by unfold maxLen; omega) (by omega) (by simp; omega) _ rfl ?_
      intro g7 cp w7 hown' hgrow hg' hlt'
      have hk7 : Kept r X w7 := (k0.alloc _).grown hgrow hrv
      refine hK.out _ _ (fun _ => mkA _ hk7) (fun hHeld2 => ?mbc_6)
      clear hK K hHeld
      have hHeld := hHeld2 (by decide)
      clear hHeld2
      try simp only [Act.put, nA, nB, nC, nD, nE, nF]
      have R7 : Row w7 (A + 1 + 1) 24 #[.slice av gs.length cv] := Row.kept h1 hk7 nB
      have f7 := R7.free 0
      have c7 := R7.cell 0
      refine wpAnyL_one (i := 7) (by kernel_rfl) rfl (fun K hK => ?sbc_7)
      go_simp
      refine hK.out _ _ (fun h => absurd rfl h) (fun _ => ?mbc_7)
      clear hK K
      try simp only [Act.put, nA, nB, nC, nD, nE, nF]
      refine wpAnyL_done (by kernel_rfl) ?_ _
      have hO7 : OwnE A 54 w7 (.slice (some ⟨g7, 0, none⟩) (gs.length + 1) cp) (gs ++ [⟨.bool z1, .slice z2 z3 z4, .slice z5 z6 z7⟩]) := by
       unfold OwnE
       rw [List.length_append, flat3_append]
       exact hown'
      refine ⟨keepsFrom_set (keepsFrom_kept hk7 hrc) _ _, ⟨(Below.heap_setCell _ _ _ _ (by show A + 1 + 1 + 1 ≠ A + 1 + 1; omega)).trans (hk7.block _ (by omega) n1), (Below.heap_setCell _ _ _ _ (by show A + 1 + 1 + 1 + 1 ≠ A + 1 + 1; omega)).trans (hk7.block _ (by omega) n2)⟩, _, Boxed.set _ R7, ?_, (Row.kept h3 hk7 nA).far (by show A ≠ A + 1 + 1; omega) _, ?_, ?_, ?_⟩
      · rw [HGN.out]
        exact hO7.keptT R7 (by decide) ((Kept.refl _ _).set 0 _)
      · have hbk : Below A X w7 := ⟨hk7.os, hk7.tape, hk7.output, hk7.size, fun k hk => hk7.block k (by omega) (by omega)⟩
        exact (h4.trans hbk).setCell (by show A ≤ A + 1 + 1; omega) _
      · exact ⟨((Below.heap_setCell _ _ _ _ (by show A + 1 + 1 + 1 ≠ A + 1 + 1; omega)).trans (hk7.block _ (by omega) n1)).trans h5.b1, ((Below.heap_setCell _ _ _ _ (by show A + 1 + 1 + 1 + 1 ≠ A + 1 + 1; omega)).trans (hk7.block _ (by omega) n2)).trans h5.b2⟩
      · have := hk7.size
        have hz := (Only.set w7 (A + 1 + 1) 0 (.slice (some ⟨g7, 0, none⟩) (gs.length + 1) cp)).size
        omega
     case done =>
      rintro D ys X hD hup ⟨v, h1, h2, h3, h4, h5, h6⟩ hK
      have hcol : (ys.map fun x => es[x.val * C + k]?.getD dfE) = colE es C R k := by
       have e : (ys.map fun x : Fin R => es[x.val * C + k]?.getD dfE) = (ys.map Fin.val).map fun i => es[i * C + k]?.getD dfE := by rw [List.map_map]; rfl
       rw [e, show ys.map Fin.val = List.range R from hup]
       rfl
      rw [hcol] at h2
      have hl := colE_len es C R k
      obtain ⟨gq, cq, rfl, hgq, hlt3, hle, hmx, hcells⟩ : ∃ gq cq, v = .slice (some ⟨gq, 0, none⟩) R cq ∧ A ≤ gq ∧ gq < X.heap.size ∧ R ≤ cq ∧ cq ≤ maxLen ∧ CellsE X gq 0 (colE es C R k) := by
       rcases h2.row with ⟨_, e⟩ | ⟨gq, cq, e, e1, e2, e3, e4, e5⟩
       · rw [e] at hl; simp at hl; omega
       · rw [hl] at e e3
         exact ⟨gq, cq, e, e1, e2, e3, e4, e5⟩
      have hBX : Below wr.heap.size wr X := by rw [HA.out]; exact h4
      have hjX := hJb hj hBX
      obtain ⟨fn, tmps, assign, body, hy, hR9⟩ := hY k _ X hlt hjX ⟨gq, cq, rfl, hcells, hle⟩
      have c1 := Boxed.cell h1
      have hkW : KpC n₀ g W X := hkp.trans ⟨hBX.mono (by omega), hBX.block _ (by omega), fun D hD => (hBX.block D (lt_of_block hD)).trans hD⟩
      have hDn : ∀ D' ∈ D :: ds, W.heap.size ≤ D' ∧ X.heap[D']? = some (.deferred (some [])) := fun D' hD' => by
       rcases List.mem_cons.1 hD' with e | hD'
       · subst e
         exact ⟨by have := HA.out; omega, hK⟩
       · exact ⟨(hds D' hD').1, (hBX.block D' (lt_of_block (hds D' hD').2)).trans (hds D' hD').2⟩
      have hnd2 : (D :: ds).Nodup := List.nodup_cons.2 ⟨fun hm => by have := lt_of_block (hds D hm).2; have := HA.out; omega, hnd⟩
      have HDN := Lib.hid hDn
      have HND := Lib.hid hnd2
      have HKW := Lib.hid hkW
      clear h2 hcol hl hcells hDn hnd2 hkW hds hnd h1 h3
      gi_wp2_with fail
      refine ⟨(fun h => by cases h), hR9.mono ?_⟩
      rintro e Y ⟨rfl, hJ9, hK9⟩
      have hw1 : wrap64 ((k : Int) + 1) = ((k + 1 : Nat) : Int) := by
       have := Nat.le_mul_of_pos_left C hR
       unfold wrap64
       omega
      have HW1 := Lib.hid hw1
      clear hw1
      gi_wp2
      rw [HW1.out]
      refine ⟨?_, ?_⟩
      · refine ⟨k + 1, D :: ds, ?_⟩
        repeat apply Exists.intro
        exact ⟨⟨by omega, hJ9, HKW.out.trans hK9, fun D' hD' => ⟨(HDN.out D' hD').1, hK9.marks D' (HDN.out D' hD').2⟩, HND.out⟩, rfl⟩
      · simp [intOf]
        omega
   · obtain rfl : k = C := by omega
     have hltI : ¬ (k : Int) < (k : Int) := by omega
     gi_wp2_with fail
     exact leaves_marks (fun X => J k X) rfl (fun X h => ⟨⟨_, rfl⟩, h⟩) W.heap.size (fun X D h h1 h2 => hJ.putObj _ h h1 h2 rfl) ds wr hj hds hnd
end
end Go.Proofs.YtengpgodmbfmkaaGreat
