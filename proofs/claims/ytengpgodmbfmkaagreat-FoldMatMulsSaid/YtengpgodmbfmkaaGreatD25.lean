/-
  Layer 8's laws: the helpers few, is, told, first. (Made by wip/gen/gen_plaw0.py.)
-/
import Derived.Test.YtengpgodmbfmkaaGreatD23
import Derived.Test.YtengpgodmbfmkaaGreatD24
namespace Go.Proofs.YtengpgodmbfmkaaGreat
set_option linter.unusedVariables false
set_option linter.unusedSimpArgs false
set_option maxRecDepth 100000
set_option maxHeartbeats 40000000
section
open Go.RowKit Go.Shelf
attribute [local go_sem] Oper.semAt_some
theorem mayT_make {s : List Int} {qs : List Q3} (h : makeC s qs.length ≠ 0) : mayT s qs = makeC s qs.length := by
 unfold makeC at h ⊢
 unfold mayT
 split
 · rfl
 · rename_i h1
   rw [if_neg h1] at h
   split
   · rfl
   · rename_i h2
     rw [if_neg h2] at h
     exact absurd rfl h
theorem mayT_all {s : List Int} {qs : List Q3} (h : makeC s qs.length = 0) : mayT s qs = if qs.all okQ = true then 0 else 6 := by
 unfold makeC at h
 unfold mayT
 split at h
 · rename_i h1; exact absurd h h1
 · rename_i h1
   rw [if_neg h1]
   split at h
   · cases h
   · rename_i h2
     rw [if_neg h2]
theorem mayRaw_any {n : Nat} {w : World} {v : Value} {q : Q3} (h : RawQ w v q) (h1 : q.num.length ≤ n) (h2 : q.den.length ≤ n) (hn : n ≤ 16777000) :
 Calls Tryz.prog 69 #[v] w fun e w' => e = .returned (.int .i64 (mayCode (okQ q))) ∧ Below w.heap.size w w' := by
 obtain ⟨ad, bd, ca, cb, rfl, A, D, _, _⟩ := h
 exact mayQ_any A D h1 h2 hn
theorem mayT7_big {n : Nat} {w : World} {v : Value} {s : List Int} {qs : List Q3} {a b : Option Addr} {ca cb : Nat} (T : TensQ w v s qs a ca b cb) (hq : qs.length ≤ 1048576) (hl : lensQ qs n) (hn : n ≤ 4000000) :
 Calls Tryz.prog 27 #[v] w fun e w' => e = .returned (.int .i64 (mayT s qs)) ∧ Below w.heap.size w w' := by
 obtain rfl := T.is
 obtain ⟨B, hB⟩ : ∃ B, w.heap.size = B := ⟨_, rfl⟩
 obtain ⟨W1, hW1⟩ : ∃ W1, w.alloc (.cells #[.slice a s.length ca, .slice b qs.length cb] 26) = W1 := ⟨_, rfl⟩
 obtain ⟨W2, hW2⟩ : ∃ W2, W1.alloc (.cells #[.int .i64 0] 29) = W2 := ⟨_, rfl⟩
 have s1 : W1.heap.size = B + 1 := by rw [← hW1, ← hB]; simp
 have s2 : W2.heap.size = B + 1 + 1 := by rw [← hW2, World.size_alloc, s1]
 have R0 : Row W2 B 26 #[.slice a s.length ca, .slice b qs.length cb] := by rw [← hW2, ← hW1, ← hB]; exact (Row.new _ _ _).alloc _
 have R1 : Row W2 (B + 1) 29 #[.int .i64 0] := by rw [← hW2, ← s1]; exact Row.new _ _ _
 have hb2 : Below B w W2 := by rw [← hW2, ← hW1]; exact ((Below.refl _ w).alloc (by omega) _).alloc (by simp; omega) _
 have T2 := T.later (by rw [hB]; exact hb2)
 obtain ⟨c0, c1, _, _⟩ := R0.two
 have hr := room_any T2.sh qs.length
 obtain ⟨c, hc⟩ : ∃ c, makeC s qs.length = c := ⟨_, rfl⟩
 rw [hc] at hr
 have HL := Lib.hid hl
 have HT := Lib.hid T
 have d1 := R1.cell 0
 have f1 := R1.free 0
 obtain ⟨n', hn'⟩ : ∃ n' : Nat, Hid (3 ≤ n') := ⟨3, Nat.le_refl 3⟩
 clear T T2 hl
 by_cases h0 : c = 0
 · subst h0
   have hmt := mayT_all hc
   rw [hmt]
   obtain ⟨dd, hdd⟩ : ∃ d : Int, (if qs.all okQ = true then 0 else 6) = d := ⟨_, rfl⟩
   rw [hdd]
   have HD := Lib.hid hdd
   clear hdd
   obtain ⟨es, hlim, hall⟩ := HT.out.el.limE
   have hsh : ShE es := shE_of hall (fun v x h => h.form)
   have hcap := HT.out.el.le
   have hel : es.length = qs.length := hall.1
   have HEL := Lib.hid hel
   have HA := Lib.hid hall
   have HC := Lib.hid hc
   rw [← hel] at hr hcap c1 R0 hq hW1 ⊢
   rw [hB] at hlim
   clear hall hmt hel hc
   refine (callsIn_wide (n := n')).1 ?_
   refine callsIn_of_wp_marks Tryz.func27 rfl trivial ?_ rfl
   simp only [Tryz.ntmps27, List.size_toArray, List.length_cons, List.length_nil, Nat.reduceAdd, Nat.reduceSub, Array.replicate_succ, Array.replicate_zero, List.push_toArray, List.append_toArray, List.nil_append, List.cons_append]
   gi_wp2_with fail
   refine wideCall (hr.mono ?_)
   rintro e w' ⟨rfl, rfl⟩
   gi_wp2_with fail
   refine wideCall ((elements_any _ _ _ _ _ _ _).mono ?_)
   rintro e w3 ⟨rfl, b3⟩
   gi_wp2_with fail
   refine wideCall ((allQ_any _ _ _ _).mono ?_)
   rintro e w' ⟨rfl, rfl⟩
   gi_wp2_with fail
   have s3 := b3.size
   obtain ⟨I, hI⟩ : ∃ I, w3.heap.size = I := ⟨_, rfl⟩
   obtain ⟨V, hV⟩ : ∃ V, w3.alloc (.cells #[.slice b es.length cb] 96) = V := ⟨_, rfl⟩
   have sV : V.heap.size = I + 1 := by rw [← hV, World.size_alloc, hI]
   have b4 : Below w3.heap.size w3 V := by rw [← hV]; exact (Below.refl _ _).alloc (Nat.le_refl _) _
   have d4 : Boxed V I 96 (.slice b es.length cb) := by rw [← hV, ← hI]; exact Boxed.new _ _ _
   have b2V : Below W2.heap.size W2 V := b3.trans (b4.mono s3)
   have e1 := R1.later b2V
   have e0 := R0.later b2V
   have hbV : Below B w V := hb2.trans (b2V.mono (by omega))
   have hlimV : LimE V b es B := hlim.below hbV
   simp only [hI, hV]
   have h3 : 3 ≤ n' := hn'
   clear hV
   refine wpIn_rangeFunc_ownH (F := Fence.wide) (n := n') rfl (by omega) (gf := 107) (lb := #[.pointer (some ⟨I, 0, none⟩)]) rfl trivial (enters_of Tryz.func107 (by kernel_rfl) rfl)
    (allQ_stops (n' - 1) I B b es cb (by omega) hcap V (by omega) (by omega) d4.cell hlimV hsh) belowK_t (belowK_b (by omega)) (Below.refl _ _) (fun _ => rfl)
    (fun (pre : List (Fin es.length)) X => Row X (B + 1) 29 #[.int .i64 0] ∧ (∀ x ∈ pre, okQ (qs[x.val]?.getD ⟨false, [], []⟩) = true) ∧ Below B w X ∧ I + 1 ≤ X.heap.size)
    (fun c pre X => c = .ret ∧ Row X (B + 1) 29 #[.int .i64 6] ∧ (∃ x ∈ pre, okQ (qs[x.val]?.getD ⟨false, [], []⟩) = false) ∧ Below B w X)
    (fun pre X Y row ⟨h1, h2, h3, h4⟩ hg hr => ⟨h1.keepC (KeepC.grown hg (fun r e => (hr r e).2)), h2, h3.grown hg (by have := h3.size; omega) (fun k e => by have := (hr k e).1; omega), Nat.le_trans h4 hg.size⟩)
    (fun c pre X Y row ⟨h0, h1, h2, h3⟩ hg hr => ⟨h0, h1.keepC (KeepC.grown hg (fun r e => (hr r e).2)), h2, h3.grown hg (by have := h3.size; omega) (fun k e => by have := (hr k e).1; omega)⟩)
    ⟨e1, (fun x h => by cases h), hbV, by omega⟩
    (fun (x : Fin es.length) a' X => ∃ p, I + 1 ≤ p ∧ Row X p 54 #[(es[x.val]?.getD dfE).a, (es[x.val]?.getD dfE).b, (es[x.val]?.getD dfE).c] ∧
     a' = { tmps := #[.agg #[.slice a s.length ca, .slice b es.length cb], .pointer (some ⟨B, 0, none⟩), .pointer (some ⟨B + 1, 0, none⟩), .int .i64 0, .pointer (some ⟨p, 0, none⟩), undef, .pointer (some ⟨B, 0, none⟩), .slice a s.length ca, .pointer (some ⟨B, 1, none⟩), .slice b es.length cb, .int .i64 es.length, .int .i64 0, .int .i64 0, .bool false, undef,
      .agg #[.slice a s.length ca, .slice b es.length cb], .slice b es.length cb, .func (.func 107) #[] #[.pointer (some ⟨I, 0, none⟩)], .agg #[(es[x.val]?.getD dfE).a, (es[x.val]?.getD dfE).b, (es[x.val]?.getD dfE).c], undef, undef, undef, undef, undef], defers := [] })
    (fun x a' _ X Y row ⟨p, h1, h2, h3⟩ hg hr => ⟨p, h1, h2.keepC (KeepC.grown hg (fun r e => (hr r e).2)), h3⟩)
    ?assign ?body ?done ?stop
   case assign =>
    rintro l pre ⟨k, hk⟩ X K ⟨h1, h2, h3, h4⟩ hK
    obtain ⟨z1, z2, z3, z4, z5, z6, z7, he⟩ := hsh k hk
    have hs3 := h3.size
    have hbX : Below X.heap.size X (X.alloc (.cells #[.bool z1, .slice z2 z3 z4, .slice z5 z6 z7] 54)) := (Below.refl _ _).alloc (Nat.le_refl _) _
    have kk := KeepC.below hbX
    have HK := Lib.hid hK
    simp only [ratAt]
    rw [he]
    simp only
    clear hK
    gi_wp2
    refine HK.out _ _ ⟨by simp, fun q o _ ho _ => (Below.heap_alloc _ _ _ (lt_of_block ho)).trans ho⟩ (hbX.mono (by omega)) ⟨h1.keepC kk, h2, h3.trans (hbX.mono (by omega)), by simp; omega⟩ ⟨X.heap.size, h4, ?_, ?_⟩
    · simp only [he]; exact Row.new _ _ _
    · simp only [he]
   case body =>
    rintro l pre ⟨k, hk⟩ a' X hl hrec ⟨h1, h2, h3, h4⟩ ⟨p, hp, hR, rfl⟩ hlt
    obtain ⟨z1, z2, z3, z4, z5, z6, z7, he⟩ := hsh k hk
    simp only at hR ⊢
    rw [he] at hR ⊢
    simp only at hR ⊢
    have hkq : k < qs.length := by rw [← HEL.out]; exact hk
    have hqk : qs[k]? = some qs[k] := List.getElem?_eq_getElem hkq
    obtain ⟨q, hq2⟩ : ∃ q, qs[k] = q := ⟨_, rfl⟩
    rw [hq2] at hqk
    have hek : es[k]? = some es[k] := List.getElem?_eq_getElem hk
    have hraw := HA.out.2 k _ _ hek hqk
    have e2 : es[k] = ⟨.bool z1, .slice z2 z3 z4, .slice z5 z6 z7⟩ := by rw [hek] at he; exact he
    rw [e2] at hraw
    have hmem := List.mem_of_getElem? hqk
    have hlq := HL.out q hmem
    have hgd : qs[k]?.getD ⟨false, [], []⟩ = q := by rw [hqk]; rfl
    obtain ⟨g0, g1, g2, _, _, _⟩ := hR.three
    have hs3 := h3.size
    have hrX := hraw.later (hB.symm ▸ h3 : Below w.heap.size w X)
    gi_wp2_with fail
    refine roundCall ((mayRaw_any hrX hlq.1 hlq.2 (by omega)).mono ?_)
    rintro e w5 ⟨rfl, b5⟩
    have s5 := b5.size
    have R5 := h1.later b5
    have f5 := R5.free 0
    have d5 := R5.cell 0
    by_cases hok : okQ q = true
    · rw [hok]
      have hm : mayCode true = 0 := rfl
      rw [hm]
      gi_wp2
      refine ⟨keepsFrom_below b5, b5.mono (by omega), R5, fun x hx => ?_, h3.trans (b5.mono (by omega)), by omega⟩
      rcases List.mem_append.1 hx with hx | hx
      · exact h2 x hx
      · simp at hx
        subst hx
        rw [hgd]
        exact hok
    · have hok2 : okQ q = false := by simpa using hok
      rw [hok2]
      have hm : mayCode false = 6 := rfl
      rw [hm]
      have R6 : Row (w5.setCell ⟨B + 1, 0, none⟩ (.int .i64 6)) (B + 1) 29 #[.int .i64 6] := R5.set 0 _
      gi_wp2
      refine ⟨keepsFrom_set (keepsFrom_below b5) _ _, rfl, R6, ⟨_, List.mem_append_right _ (List.mem_singleton.2 rfl), ?_⟩, (h3.trans (b5.mono (by omega))).setCell (by show B ≤ B + 1; omega) _⟩
      show okQ (qs[k]?.getD ⟨false, [], []⟩) = false
      rw [hgd]
      exact hok2
   case done =>
    rintro D ys X hD hup ⟨h1, h2, h3, h4⟩ hK
    have hall : qs.all okQ = true := by
     rw [List.all_eq_true]
     intro q hq
     obtain ⟨k, hk, rfl⟩ := List.mem_iff_getElem.1 hq
     have hk2 : k < es.length := by rw [HEL.out]; exact hk
     have hm : (⟨k, hk2⟩ : Fin es.length) ∈ ys := by
      have h5 : k ∈ ys.map Fin.val := by rw [show ys.map Fin.val = List.range es.length from hup]; exact List.mem_range.2 hk2
      obtain ⟨x, hx, hv⟩ := List.mem_map.1 h5
      have : x = ⟨k, hk2⟩ := Fin.ext hv
      rw [← this]
      exact hx
     have h5 := h2 _ hm
     simp only at h5
     rw [List.getElem?_eq_getElem hk] at h5
     exact h5
    have c5 := h1.cell 0
    have f5 := h1.free 0
    gi_wp2
    have hK' := (KeepsOthers.setCell X ⟨B + 1, 0, none⟩ (.int .i64 0)).same D _ hK rfl
    refine ⟨by simp, .inl ⟨_, _, rfl, run_takeDeferred hK', ?_⟩⟩
    have hc5 := cell_kept ((h1.set 0 (.int .i64 0)).cell 0) (grownBy_putObj' _ D (.deferred none)) (fun r e => by cases e; exact ⟨_, hK', rfl⟩)
    simp at hc5
    refine ⟨.int .i64 0, by simp [results, Tryz.f27, go_sem, hc5], by rw [← HD.out, if_pos hall], ?_⟩
    rw [hB]
    exact (h3.setCell (p := ⟨B + 1, 0, none⟩) (by show B ≤ B + 1; omega) _).trans (belowK_b (n₀ := B) (w := w) (by omega) _ D _ _ (by omega) hK' rfl rfl)
   case stop =>
    rintro D c pre X hD ⟨k, hk, hup⟩ ⟨rfl, h1, ⟨x, hx, hbad⟩, h3⟩ hK
    have hall : ¬ qs.all okQ = true := by
     intro h
     rw [List.all_eq_true] at h
     have hk2 : x.val < qs.length := by rw [← HEL.out]; exact x.isLt
     rw [List.getElem?_eq_getElem hk2] at hbad
     have := h _ (List.getElem_mem hk2)
     simp only [Option.getD_some] at hbad
     rw [hbad] at this
     cases this
    gi_wp2
    refine ⟨by simp, .inl ⟨_, _, rfl, run_takeDeferred hK, ?_⟩⟩
    have hc5 := cell_kept (h1.cell 0) (grownBy_putObj' _ D (.deferred none)) (fun r e => by cases e; exact ⟨_, hK, rfl⟩)
    simp at hc5
    refine ⟨.int .i64 6, by simp [results, Tryz.f27, go_sem, hc5], by rw [← HD.out, if_neg hall], ?_⟩
    rw [hB]
    exact h3.trans (belowK_b (n₀ := B) (w := w) (by omega) _ D _ _ (by omega) hK rfl rfl)
 · have hn : (c != 0) = true := by simp [h0]
   rw [mayT_make (by rw [hc]; exact h0), hc]
   have R3 : Row (W2.setCell ⟨B + 1, 0, none⟩ (.int .i64 c)) (B + 1) 29 #[.int .i64 c] := R1.set 0 _
   have y0 := R3.cell 0
   go_enter Tryz.func27, Tryz.ntmps27
   go_wp2_with (go_at_call 67; refine hr.mono ?_; rintro e w1 ⟨rfl, rfl⟩)
   simp at y0
   refine bodyPost_ret (v := .int .i64 c) (by simp [results, Tryz.results27, go_sem, y0]) rfl ⟨rfl, ?_⟩
   rw [hB]
   exact hb2.setCell (p := ⟨B + 1, 0, none⟩) (by show B ≤ B + 1; omega) _
end
section
open Go.RowKit
def One (base : Nat) (w' : World) (e : Ending) (c : Int) (s : List Int) (L : List Rat) (N : Nat) : Prop :=
 (c = 0 ∧ ∃ r, e = .returned (.tuple #[r, .int .i64 0]) ∧ ResT base w' r s L N) ∨ (c ≠ 0 ∧ e = .returned (.tuple #[noTensor, .int .i64 c]))
theorem mayT_valid {s : List Int} {qs : List Q3} (h : mayT s qs = 0) : (qs.length : Int) = countS s ∧ ∀ q ∈ qs, okQ q = true := by
 unfold mayT at h
 split at h
 · rename_i h1; exact absurd h h1
 · split at h
   · cases h
   · rename_i h2
     split at h
     · rename_i h3
       exact ⟨by omega, List.all_eq_true.1 h3⟩
     · cases h
theorem mayT_rank {s : List Int} {qs : List Q3} (h : mayT s qs = 0) : mayC s = 0 := by
 unfold mayT at h
 split at h
 · rename_i h1; exact absurd h h1
 · rename_i h1; simpa using h1
theorem ofOne_any {F : Nat} {cap : Array Value} {f : Rat → Rat} {n N : Nat} {w : World} {v : Value} {s : List Int} {qs : List Q3} {a b : Option Addr} {ca cb : Nat} (T : TensQ w v s qs a ca b cb) (hs : s.length ≤ 17592186044416) (hq : qs.length ≤ 1000000) (hl : lensQ qs n) (hn : n ≤ 1000000)
 (heF : ∀ args w, (callFunc F args).run Tryz.prog w = .ok (.enter F args) w)
 (hdo : ∀ (W : World) (x : Value) (q : Q3), q ∈ qs → okQ q = true → Below w.heap.size w W → RawQ W x q → Calls Tryz.prog F (#[x] ++ cap) W fun e w' => ∃ r, e = .returned r ∧ ResQ W.heap.size w' r (f q.rat) N ∧ Below W.heap.size W w') :
 Calls Tryz.prog 91 #[v, .func (.func F) #[] cap] w fun e w' => One w.heap.size w' e (mayT s qs) s (qs.map fun q => f q.rat) N ∧ Below w.heap.size w w' := by
 have HT := Lib.hid T
 obtain rfl := T.is
 obtain ⟨W, hW⟩ : ∃ W, ((w.alloc (.cells #[.slice a s.length ca, .slice b qs.length cb] 26)).alloc (.cells #[.slice none 0 0, .slice none 0 0] 26)) = W := ⟨_, rfl⟩
 have R0 : Row W (w.heap.size) 26 #[.slice a s.length ca, .slice b qs.length cb] := by rw [← hW]; have h := Row.new w 26 #[.slice a s.length ca, .slice b qs.length cb]; (try simp only [World.size_alloc] at h); exact (h.alloc _)
 have R1 : Row W (w.heap.size + 1) 26 #[.slice none 0 0, .slice none 0 0] := by rw [← hW]; have h := Row.new (w.alloc (.cells #[.slice a s.length ca, .slice b qs.length cb] 26)) 26 #[.slice none 0 0, .slice none 0 0]; (try simp only [World.size_alloc] at h); exact h
 have hBW : Below w.heap.size w W := by rw [← hW]; exact (((Below.refl _ _).alloc (by (try simp) <;> omega) _).alloc (by (try simp) <;> omega) _)
 have hsW : W.heap.size = w.heap.size + 1 + 1 := by rw [← hW]; simp
 have hm := mayT7_big (T.later hBW) (by omega) hl (by omega)
 obtain ⟨c, hc⟩ : ∃ c, mayT s qs = c := ⟨_, rfl⟩
 rw [hc] at hm
 obtain ⟨c0, c1, _, _⟩ := R0.two
 by_cases h0 : c = 0
 · subst h0
   have hok := (mayT_valid hc).2
   have he := fun (X : World) (hX : Below w.heap.size w X) => each_any (F := F) (cap := cap) (f := f) (N := N) (HT.out.later hX) hs hq heF (fun W x q hm hW hr => hdo W x q hm (hok q hm) (hX.trans (hW.mono hX.size)) hr)
   obtain ⟨L, hL⟩ : ∃ L, (qs.map fun q => f q.rat) = L := ⟨_, rfl⟩
   rw [hL] at he
   have HE := Lib.hid he
   rw [hc, hL]
   clear hdo T hc he hok hL hl
   go_enter Tryz.func91, Tryz.ntmps91
   (try rw [hW])
   go_wp2_with (go_at_call 27; refine hm.mono ?_; rintro e w1 ⟨rfl, hb1⟩; obtain ⟨k0, k1, _, _⟩ := (R0.later hb1).two)
   refine (HE.out w1 (hBW.trans (hb1.mono (by omega)))).mono ?_
   rintro e w2 ⟨r, rfl, hT, hb2⟩
   obtain ⟨a', b', ca', cb', rfl, RS, RO⟩ := hT
   have P2 := (R1.later hb1).later hb2
   have s1 := hb1.size
   have s2 := hb2.size
   obtain ⟨u0, u1, g0, g1⟩ := P2.two
   have HR := Lib.hid RS
   have HO := Lib.hid RO
   clear RS RO
   obtain ⟨l, hl⟩ : ∃ l, L.length = l := ⟨_, rfl⟩
   have HL2 := Lib.hid hl
   rw [hl]
   clear hl
   go_wp2_with fail
   have P3 := P2.set2 (.slice a' s.length ca') (.slice b' l cb')
   obtain ⟨z0, z1, _, _⟩ := P3.two
   refine bodyPost_ret (v := .tuple #[.agg #[.slice a' s.length ca', .slice b' l cb'], .int .i64 0]) (by simp [results, Tryz.results91, go_sem, z0, z1]) rfl ⟨.inl ⟨rfl, _, rfl, ?_⟩, below_set2 ((hBW.trans (hb1.mono (by omega))).trans (hb2.mono (by omega))) (by omega) _ _⟩
   have hR : ResT w.heap.size w2 (.agg #[.slice a' s.length ca', .slice b' l cb']) s L N := ResT.mono ⟨a', b', ca', cb', by rw [HL2.out], HR.out, HO.out⟩ (by omega)
   exact hR.far P2 (by decide) (by decide) (by decide) (kept2 _ _)
 · have hne : (c != 0) = true := by simp [h0]
   have H0 := Lib.hid h0
   clear hdo T
   rw [hc]
   clear hc h0
   go_enter Tryz.func91, Tryz.ntmps91
   (try rw [hW])
   go_wp2_with (go_at_call 27; refine hm.mono ?_; rintro e w1 ⟨rfl, hb1⟩; have P2 := R1.later hb1; have s1 := hb1.size; obtain ⟨u0, u1, g0, g1⟩ := P2.two)
   have P3 := P2.set2 (.slice none 0 0) (.slice none 0 0)
   obtain ⟨z0, z1, _, _⟩ := P3.two
   refine bodyPost_ret (v := .tuple #[noTensor, .int .i64 c]) (by simp [results, Tryz.results91, go_sem, z0, z1, noTensor]) rfl ⟨.inr ⟨H0.out, rfl⟩, below_set2 (hBW.trans (hb1.mono (by omega))) (by omega) _ _⟩
end
section
open Go.RowKit
theorem orL_zero {x y : Int} (h : orL [x, y] = 0) : x = 0 ∧ y = 0 := by
 unfold orL at h
 split at h
 · rename_i h1
   unfold orL at h
   split at h
   · rename_i h2; exact ⟨h1, h2⟩
   · rename_i h2; exact absurd h h2
 · rename_i h1; exact absurd h h1
theorem scaleP_any {m : Nat} {X : Rat} {y : Value} {n : Nat} {w : World} {v : Value} {s : List Int} {qs : List Q3} {a b : Option Addr} {ca cb : Nat} (T : TensQ w v s qs a ca b cb) (hs : s.length ≤ 17592186044416) (hq : qs.length ≤ 1000000) (hl : lensQ qs n) (hn : n ≤ 1000000) (hy : ArgQ w y X m) (hm : m ≤ 1000000) :
 Calls Tryz.prog 45 #[v, y] w fun e w' => One w.heap.size w' e (mayT s qs) s (qs.map fun q => q.rat * X) (2 * (n + m + 2) + 4) ∧ Below w.heap.size w w' := by
 have HT := Lib.hid T
 have HL := Lib.hid hl
 obtain rfl := T.is
 have HY := Lib.hid hy
 obtain ⟨yn, ps, rs, e1, e2, k1, k2, rfl⟩ := hy.box
 obtain ⟨W, hW⟩ : ∃ W, (((w.alloc (.cells #[.slice a s.length ca, .slice b qs.length cb] 26)).alloc (.cells #[.bool yn, .slice e1 ps.length k1, .slice e2 rs.length k2] 54)).alloc (.cells #[.slice none 0 0, .slice none 0 0] 26)) = W := ⟨_, rfl⟩
 have R0 : Row W (w.heap.size) 26 #[.slice a s.length ca, .slice b qs.length cb] := by rw [← hW]; have h := Row.new w 26 #[.slice a s.length ca, .slice b qs.length cb]; (try simp only [World.size_alloc] at h); exact ((h.alloc _).alloc _)
 have R1 : Row W (w.heap.size + 1) 54 #[.bool yn, .slice e1 ps.length k1, .slice e2 rs.length k2] := by rw [← hW]; have h := Row.new (w.alloc (.cells #[.slice a s.length ca, .slice b qs.length cb] 26)) 54 #[.bool yn, .slice e1 ps.length k1, .slice e2 rs.length k2]; (try simp only [World.size_alloc] at h); exact (h.alloc _)
 have R2 : Row W (w.heap.size + 1 + 1) 26 #[.slice none 0 0, .slice none 0 0] := by rw [← hW]; have h := Row.new ((w.alloc (.cells #[.slice a s.length ca, .slice b qs.length cb] 26)).alloc (.cells #[.bool yn, .slice e1 ps.length k1, .slice e2 rs.length k2] 54)) 26 #[.slice none 0 0, .slice none 0 0]; (try simp only [World.size_alloc] at h); exact h
 have hBW : Below w.heap.size w W := by rw [← hW]; exact ((((Below.refl _ _).alloc (by (try simp) <;> omega) _).alloc (by (try simp) <;> omega) _).alloc (by (try simp) <;> omega) _)
 have hsW : W.heap.size = w.heap.size + 1 + 1 + 1 := by rw [← hW]; simp
 have hnm := norm_any (HY.out.later hBW) (by omega)
 obtain ⟨c, hc⟩ : ∃ c, mayT s qs = c := ⟨_, rfl⟩
 have HC := Lib.hid hc
 obtain ⟨L, hL⟩ : ∃ L, (qs.map fun q => q.rat * X) = L := ⟨_, rfl⟩
 have HLL := Lib.hid hL
 have hmf : ∀ (fn : Fn) (first cap : Array Value) (w : World), (Instr.makeFunc fn first cap).run Tryz.prog w = .ok (.func fn first cap) w := fun _ _ _ _ => rfl
 rw [hc, hL]
 clear T hl hc hL hy
 obtain ⟨d0, d1, d2, _, _, _⟩ := R1.three
 go_enter Tryz.func45, Tryz.ntmps45
 (try rw [hW])
 go_wp2_with (go_at_call 90; refine hnm.mono ?_; rintro e w1 ⟨r, rfl, qv, hb1⟩; have Q1 := Lib.hid qv; obtain ⟨m5, f1, l1, j1, f2, l2, j2, rfl⟩ := qv.shape; clear qv; have P1 := R1.later hb1; have s1 := hb1.size; obtain ⟨u0, u1, u2, g0, g1, g2⟩ := P1.three; obtain ⟨k0, k1, _, _⟩ := (R0.later hb1).two; have t0 := ((R0.later hb1).far (p := ⟨w.heap.size + 1, 0, none⟩) (by show w.heap.size ≠ w.heap.size + 1; omega) (.bool m5)); have t1 := (t0.far (p := ⟨w.heap.size + 1, 1, none⟩) (by show w.heap.size ≠ w.heap.size + 1; omega) (.slice f1 l1 j1)); have t2 := (t1.far (p := ⟨w.heap.size + 1, 2, none⟩) (by show w.heap.size ≠ w.heap.size + 1; omega) (.slice f2 l2 j2)); obtain ⟨v0, v1, _, _⟩ := t2.two)
 obtain ⟨w2, hw2⟩ : ∃ w2, (((w1.setCell ⟨w.heap.size + 1, 0, none⟩ (.bool m5)).setCell ⟨w.heap.size + 1, 1, none⟩ (.slice f1 l1 j1)).setCell ⟨w.heap.size + 1, 2, none⟩ (.slice f2 l2 j2)) = w2 := ⟨_, rfl⟩
 have P2 : Row w2 (w.heap.size + 1) 54 #[.bool m5, .slice f1 l1 j1, .slice f2 l2 j2] := by rw [← hw2]; exact P1.set3 _ _ _
 have QN : ResQ W.heap.size w2 (.agg #[.bool m5, .slice f1 l1 j1, .slice f2 l2 j2]) X (m + 2) := by rw [← hw2]; exact Q1.out.far P1 (by decide) (kept3 _ _ _)
 have hB2 : Below w.heap.size w w2 := by rw [← hw2]; exact below_set3 (hBW.trans (hb1.mono (by omega))) (by omega) _ _ _
 have P3' : Row w2 (w.heap.size + 1 + 1) 26 #[.slice none 0 0, .slice none 0 0] := by
  rw [← hw2]
  exact (((R2.later hb1).far (p := ⟨w.heap.size + 1, 0, none⟩) (by show w.heap.size + 1 + 1 ≠ w.heap.size + 1; omega) _).far (p := ⟨w.heap.size + 1, 1, none⟩) (by show w.heap.size + 1 + 1 ≠ w.heap.size + 1; omega) _).far (p := ⟨w.heap.size + 1, 2, none⟩) (by show w.heap.size + 1 + 1 ≠ w.heap.size + 1; omega) _
 rw [hw2]
 have ho := ofOne_any (F := 92) (cap := #[.pointer (some ⟨w.heap.size + 1, 0, none⟩)]) (f := fun x => x * X) (N := 2 * (n + m + 2) + 4) (HT.out.later hB2) hs hq HL.out (by omega) (enters_of Tryz.func92 (by kernel_rfl) rfl)
  (fun Y x q hq2 _ hX hr => scale1_any (n := n + m + 2) (v := undef) hr (by have := (HL.out q hq2).1; omega) (by have := (HL.out q hq2).2; omega) (by omega) ((QN.arg.more (by omega)).later hX) (P2.later hX))
 have hLE := HLL.out
 rw [HC.out, hLE] at ho
 have HO2 := Lib.hid ho
 have hs2 : w.heap.size + 1 + 1 + 1 ≤ w2.heap.size := by rw [← hw2]; have := ((Only.set w1 (w.heap.size + 1) 0 (.bool m5)).trans ((Only.set _ (w.heap.size + 1) 1 (.slice f1 l1 j1)).trans (Only.set _ (w.heap.size + 1) 2 (.slice f2 l2 j2)))).size; omega
 clear ho hLE hw2 u0 u1 u2 g0 g1 g2 k0 k1 t0 t1 t2 v0 v1 d0 d1 d2
 refine HO2.out.mono ?_
 rintro e w2 ⟨h | ⟨h0, rfl⟩, hb2⟩
 · obtain ⟨rfl, r, rfl, a', b', ca', cb', rfl, RS, RO⟩ := h
   have P2 := P3'.later hb2
   have s2 := hb2.size
   obtain ⟨u0, u1, g0, g1⟩ := P2.two
   have HR := Lib.hid RS
   have HO := Lib.hid RO
   clear RS RO
   obtain ⟨l, hl⟩ : ∃ l, L.length = l := ⟨_, rfl⟩
   have HL2 := Lib.hid hl
   rw [hl]
   clear hl
   go_wp2_with fail
   have P3 := P2.set2 (.slice a' s.length ca') (.slice b' l cb')
   obtain ⟨z0, z1, _, _⟩ := P3.two
   refine bodyPost_ret (v := .tuple #[.agg #[.slice a' s.length ca', .slice b' l cb'], .int .i64 0]) (by simp [results, Tryz.results45, go_sem, z0, z1]) rfl ⟨.inl ⟨rfl, _, rfl, ?_⟩, below_set2 (hB2.trans (hb2.mono (by omega))) (by omega) _ _⟩
   have hR : ResT w.heap.size w2 (.agg #[.slice a' s.length ca', .slice b' l cb']) s L _ := ResT.mono ⟨a', b', ca', cb', by rw [HL2.out], HR.out, HO.out⟩ (by omega)
   exact hR.far P2 (by decide) (by decide) (by decide) (kept2 _ _)
 · have P2 := P3'.later hb2
   have s2 := hb2.size
   obtain ⟨u0, u1, g0, g1⟩ := P2.two
   have H0 := Lib.hid h0
   clear h0
   unfold noTensor
   go_wp2_with fail
   have P3 := P2.set2 (.slice none 0 0) (.slice none 0 0)
   obtain ⟨z0, z1, _, _⟩ := P3.two
   refine bodyPost_ret (v := .tuple #[noTensor, .int .i64 c]) (by simp [results, Tryz.results45, go_sem, z0, z1, noTensor]) rfl ⟨.inr ⟨H0.out, rfl⟩, below_set2 (hB2.trans (hb2.mono (by omega))) (by omega) _ _⟩
end
section
open Go.RowKit
theorem One.shape {base N : Nat} {w : World} {e : Ending} {c : Int} {s : List Int} {L : List Rat} (h : One base w e c s L N) :
 ∃ a b n m ca cb, e = .returned (.tuple #[.agg #[.slice a n ca, .slice b m cb], .int .i64 c]) ∧ ((c = 0 ∧ ResT base w (.agg #[.slice a n ca, .slice b m cb]) s L N) ∨ (c ≠ 0 ∧ Value.agg #[.slice a n ca, .slice b m cb] = noTensor)) := by
 rcases h with ⟨rfl, r, rfl, hT⟩ | ⟨h0, rfl⟩
 · obtain ⟨a, b, ca, cb, rfl, h1, h2⟩ := id hT
   exact ⟨a, b, _, _, ca, cb, rfl, .inl ⟨rfl, hT⟩⟩
 · exact ⟨none, none, 0, 0, 0, 0, rfl, .inr ⟨h0, rfl⟩⟩
theorem One.of {base N n m ca cb : Nat} {w : World} {a b : Option Addr} {c : Int} {s : List Int} {L : List Rat} (h : (c = 0 ∧ ResT base w (.agg #[.slice a n ca, .slice b m cb]) s L N) ∨ (c ≠ 0 ∧ Value.agg #[.slice a n ca, .slice b m cb] = noTensor)) :
 One base w (.returned (.tuple #[.agg #[.slice a n ca, .slice b m cb], .int .i64 c])) c s L N := by
 rcases h with ⟨rfl, h⟩ | ⟨h0, h⟩
 · exact .inl ⟨rfl, _, rfl, h⟩
 · exact .inr ⟨h0, by rw [h]⟩
end
section
open Go.RowKit
def Ans (base : Nat) (w : World) (r : Value) (c : Int) (s : List Int) (L : List Rat) (N : Nat) : Prop := (c = 0 ∧ ResT base w r s L N) ∨ (c ≠ 0 ∧ r = noTensor)
theorem Ans.later {base N : Nat} {w w' : World} {r : Value} {c : Int} {s : List Int} {L : List Rat} (h : Ans base w r c s L N) (hb : Below w.heap.size w w') : Ans base w' r c s L N := h.imp (fun h => ⟨h.1, h.2.later hb⟩) id
theorem Ans.mono {base base' N : Nat} {w : World} {r : Value} {c : Int} {s : List Int} {L : List Rat} (h : Ans base w r c s L N) (hb : base' ≤ base) : Ans base' w r c s L N := h.imp (fun h => ⟨h.1, h.2.mono hb⟩) id
theorem Ans.box {base N : Nat} {w : World} {r : Value} {c : Int} {s : List Int} {L : List Rat} (h : Ans base w r c s L N) : ∃ a b n m ca cb, r = .agg #[.slice a n ca, .slice b m cb] := by
 rcases h with ⟨_, a, b, ca, cb, rfl, _⟩ | ⟨_, rfl⟩
 · exact ⟨_, _, _, _, _, _, rfl⟩
 · exact ⟨_, _, _, _, _, _, rfl⟩
def BoxT (t : Value) : Prop := ∃ a b n m ca cb, t = .agg #[.slice a n ca, .slice b m cb]
theorem TenR.box {w : World} {v : Value} {s : List Int} {L : List Rat} {n : Nat} (h : TenR w v s L n) : BoxT v := by
 obtain ⟨a, ca, b, cb, h⟩ := h
 exact ⟨a, b, _, _, ca, cb, h.is⟩
end
section
open Go.RowKit
def mmS (s t : List Int) : List Int := [s.getD 0 0, t.getD 1 0]
def mmC (s t : List Int) : Int := if s.length = 2 ∧ t.length = 2 ∧ s.getD 1 0 = t.getD 0 0 then mayC (mmS s t) else 13
theorem shapeM_any {w : World} {s t : List Int} {a b : Option Addr} {ca cb : Nat} (A : ArgS w (.slice a s.length ca) s a ca) (B : ArgS w (.slice b t.length cb) t b cb) (h1 : 1 ≤ s.length) (h2 : 2 ≤ t.length) :
 Calls Tryz.prog 59 #[.slice a s.length ca, .slice b t.length cb] w fun e w' => ∃ r, e = .returned r ∧ ResS w.heap.size w' r (mmS s t) ∧ Below w.heap.size w w' := by
 obtain ⟨b1, o1, rfl, c1⟩ := A.at (i := 0) (by omega)
 obtain ⟨b2, o2, rfl, c2⟩ := B.at (i := 1) (by omega)
 have w1 := A.wf.getD 0
 have w2 := B.wf.getD 1
 obtain ⟨x, hx⟩ : ∃ x, s.getD 0 0 = x := ⟨_, rfl⟩
 obtain ⟨y, hy⟩ : ∃ y, t.getD 1 0 = y := ⟨_, rfl⟩
 have hm : mmS s t = [x, y] := by unfold mmS; rw [hx, hy]
 rw [hm]
 rw [hx] at c1 w1
 rw [hy] at c2 w2
 obtain ⟨sl, hsl⟩ : ∃ n, s.length = n := ⟨_, rfl⟩
 obtain ⟨tl, htl⟩ : ∃ n, t.length = n := ⟨_, rfl⟩
 rw [hsl] at h1 ⊢
 rw [htl] at h2 ⊢
 have i0 : (0 : Int) < (sl : Int) := by omega
 have i1 : (1 : Int) < (tl : Int) := by omega
 have j0 : 0 < sl := by omega
 have j1 : 1 < tl := by omega
 have R := Row.new w 3 #[.int .i64 x, .int .i64 y]
 have bA : Below w.heap.size w (w.alloc (.cells #[.int .i64 x, .int .i64 y] 3)) := (Below.refl _ _).alloc (Nat.le_refl _) _
 clear A B hx hy hm hsl htl
 simp only [Nat.add_zero] at c1
 have c2' : w.cell? ⟨b2, o2 + 1, none⟩ = some (.int .i64 y) := c2
 go_enter Tryz.func59, Tryz.ntmps59
 go_wp2_with fail
 have mkS : ∀ X, Below w.heap.size w X → X.cell? ⟨b1, o1, none⟩ = some (.int .i64 x) ∧ X.cell? ⟨b2, o2 + 1, none⟩ = some (.int .i64 y) ∧ Below w.heap.size w X := fun X h => ⟨(h.cell (World.block_lt_of_cell? _ _ c1)).trans c1, (h.cell (World.block_lt_of_cell? _ _ c2')).trans c2', h⟩
 have B0 : Below w.heap.size w w.drew := (Below.refl _ _).drew
 refine wp_region_held_drew (S := fun X => X.cell? ⟨b1, o1, none⟩ = some (.int .i64 x) ∧ X.cell? ⟨b2, o2 + 1, none⟩ = some (.int .i64 y) ∧ Below w.heap.size w X) (by kernel_rfl) (mkS _ B0) (fun hHeld => ?_)
 obtain ⟨y0, hdrh⟩ : ∃ Y, w.drew = Y := ⟨_, rfl⟩
 rw [hdrh] at B0 hHeld ⊢
 clear hdrh
 refine todo [0, 1, 2, 3, 4, 5] ?_
 iterate 6
  refine todoH (v := ?_) rfl (by kernel_rfl) (fun _ _ _ h => h) (by assumption) (Or.inl ⟨by rfl, ?_⟩) ?_
  rotate_left
  · intro w hSw; (try dsimp only at hSw); go_simp; (try with_reducible rfl)
  try simp only [Act.put, nA, nB, nC, nD, nE, nF]
 refine todone ?_
 obtain ⟨y1, hh1⟩ : ∃ Y, y0.alloc (.cells #[.int .i64 x, .int .i64 y] 3) = Y := ⟨_, rfl⟩
 have B1 : Below w.heap.size w y1 := by rw [← hh1]; exact B0.alloc B0.size _
 have Rh1 : Row y1 y0.heap.size 3 #[.int .i64 x, .int .i64 y] := by rw [← hh1]; exact Row.new _ _ _
 refine wpAnyH_ready (rs := [6]) (by kernel_rfl) (by simp) ?_
 refine AllReadyH.cons rfl (fun K hK => ?sh_6) AllReadyH.nil
 go_simp
 (try rw [hh1])
 clear hh1
 refine hK.out _ _ (mkS _ B1) (fun hHeld2 => ?mh_6)
 clear hK K hHeld
 have hHeld := hHeld2
 clear hHeld2
 try simp only [Act.put, nA, nB, nC, nD, nE, nF]
 refine todo [7] ?_
 iterate 1
  refine todoH (v := ?_) rfl (by kernel_rfl) (fun _ _ _ h => h) (by assumption) (Or.inl ⟨by rfl, ?_⟩) ?_
  rotate_left
  · intro w hSw; (try dsimp only at hSw); go_simp; (try with_reducible rfl)
  try simp only [Act.put, nA, nB, nC, nD, nE, nF]
 refine todone ?_
 refine wpAnyH_done (by kernel_rfl) ?_ _
 (try dsimp only [Straight])
 go_wp2_with fail
 go_ret
 refine ⟨_, rfl, ⟨?_, fun z hz => ?_⟩, B1⟩
 · exact ⟨rfl, .inr ⟨y0.heap.size, 2, #[.int .i64 x, .int .i64 y], rfl, B0.size, Rh1, Nat.le_refl _, by unfold maxLen; omega, by simp, by simp⟩⟩
 · rcases List.mem_cons.1 hz with rfl | hz
   · exact w1
   · rw [List.mem_singleton.1 hz]; exact w2
theorem mayProduct_any {w : World} {s t : List Int} {a b : Option Addr} {ca cb : Nat} (A : ArgS w (.slice a s.length ca) s a ca) (B : ArgS w (.slice b t.length cb) t b cb) (hs : s.length ≤ 17592186044416) (ht : t.length ≤ 17592186044416) :
 Calls Tryz.prog 56 #[.slice a s.length ca, .slice b t.length cb] w fun e w' => e = .returned (.int .i64 (mmC s t)) ∧ Below w.heap.size w w' := by
 obtain ⟨sl, hsl⟩ : ∃ n, s.length = n := ⟨_, rfl⟩
 obtain ⟨tl, htl⟩ : ∃ n, t.length = n := ⟨_, rfl⟩
 have hb0 := Below.refl w.heap.size w
 by_cases h1 : sl = 2
 · by_cases h2 : tl = 2
   · obtain ⟨b1, o1, rfl, c1⟩ := A.at (i := 1) (by omega)
     obtain ⟨b2, o2, rfl, c2⟩ := B.at (i := 0) (by omega)
     have hsh := fun (X : World) (hX : Below w.heap.size w X) => shapeM_any (A.later hX) (B.later hX) (by omega) (by omega)
     obtain ⟨m, hm⟩ : ∃ m, mmC s t = m := ⟨_, rfl⟩
     obtain ⟨x, hx⟩ : ∃ x, s.getD 1 0 = x := ⟨_, rfl⟩
     obtain ⟨y, hy⟩ : ∃ y, t.getD 0 0 = y := ⟨_, rfl⟩
     rw [hx] at c1
     rw [hy] at c2
     simp only [Nat.add_zero] at c2
     rw [hm]
     subst h1
     subst h2
     rw [hsl, htl] at hsh ⊢
     have g1 : ((2 : Nat) : Int) = 2 := rfl
     have j0 : 0 < 2 := by omega
     have j1 : 1 < 2 := by omega
     have hmm : m = if x = y then mayC (mmS s t) else 13 := by
      rw [← hm]
      unfold mmC
      rw [hx, hy]
      by_cases e : x = y
      · rw [if_pos ⟨hsl, htl, e⟩, if_pos e]
      · rw [if_neg (fun h => e h.2.2), if_neg e]
     have HMM := Lib.hid hmm
     by_cases e : x = y
     · have he : (x != y) = false := by simp [e]
       have hmv : m = mayC (mmS s t) := by rw [hmm, if_pos e]
       have HV := Lib.hid hmv
       clear A B hm hx hy hsl htl hmm hs ht e hmv
       go_enter Tryz.func56, Tryz.ntmps56
       go_wp2_with fail
       go_quiet (fail)
       go_wp2_with fail
       have hb1q := belowS_drew w.heap.size w nq
       refine (hsh _ hb1q).mono ?_
       rintro e w1 ⟨r, rfl, R, hb1⟩
       obtain ⟨a1, k1, rfl, _, A1, n1⟩ := R.slice
       have hmy := mayS_any A1 (by simp [mmS])
       rw [← HV.out] at hmy
       go_wp2_with fail
       refine hmy.mono ?_
       rintro e w2 ⟨rfl, hb2⟩
       go_wp2_with fail
       go_ret
       exact ⟨rfl, hb1q.trans ((hb1.trans (hb2.mono hb1.size)).mono hb1q.size)⟩
     · have he : (x != y) = true := by simp [e]
       obtain rfl : m = 13 := by rw [hmm, if_neg e]
       clear A B hm hx hy hsl htl hmm hs ht e hsh
       go_enter Tryz.func56, Tryz.ntmps56
       go_wp2_with fail
       go_quiet (fail)
       go_wp2_with fail
       go_ret
       exact ⟨rfl, belowS_drew _ _ _⟩
   · have hm : mmC s t = 13 := if_neg (fun h => by omega)
     have g1 : ((sl : Int) != 2) = false := by simp; omega
     have g2 : ((tl : Int) != 2) = true := by simp; omega
     rw [hm, hsl, htl]
     clear A B hm hsl htl hs ht h1 h2
     go_enter Tryz.func56, Tryz.ntmps56
     go_wp2_with fail
     go_quiet (fail)
     go_wp2_with fail
     go_ret
     exact ⟨rfl, belowS_drew _ _ _⟩
 · have hm : mmC s t = 13 := if_neg (fun h => by omega)
   have g1 : ((sl : Int) != 2) = true := by simp; omega
   rw [hm, hsl, htl]
   clear A B hm hsl htl hs ht h1
   go_enter Tryz.func56, Tryz.ntmps56
   go_wp2_with fail
   go_quiet (fail)
   go_wp2_with fail
   go_ret
   exact ⟨rfl, belowS_drew _ _ _⟩
theorem ArgQ.shape {w : World} {v : Value} {x : Rat} {n : Nat} (h : ArgQ w v x n) : ∃ m a1 n1 c1 a2 n2 c2, v = .agg #[.bool m, .slice a1 n1 c1, .slice a2 n2 c2] := by
 obtain ⟨m, xs, ds, a1, a2, c1, c2, rfl, _⟩ := h
 exact ⟨_, _, _, _, _, _, _, rfl⟩
def prdL (L1 L2 : List Rat) (k : Nat) : List Rat := (List.range k).map fun i => L1.getD i 0 * L2.getD i 0
theorem products_any {N : Nat} {w : World} {L1 L2 : List Rat} {a1 a2 : Option Addr} {c1 c2 : Nat} (E1 : RowA (fun W v x => ArgQ W v x N) w (.slice a1 L1.length c1) L1 a1 c1) (E2 : RowA (fun W v x => ArgQ W v x N) w (.slice a2 L2.length c2) L2 a2 c2) (hlen : L2.length = L1.length) (hq : L1.length ≤ 1000000) (hN : N ≤ 4000000) :
 Calls Tryz.prog 99 #[.slice a1 L1.length c1, .slice a2 L2.length c2] w fun e w' => ∃ r, e = .returned r ∧ RowO w.heap.size 54 (fun W v x => ResQ w.heap.size W v x (2 * N + 4)) w' r (prdL L1 L2 L1.length) ∧ Below w.heap.size w w' := by
 obtain ⟨i0, hi, hz0, hz1, hz2⟩ := info_parts infoQ
 have HE1 := Lib.hid E1
 have HE2 := Lib.hid E2
 obtain ⟨m, hm⟩ : ∃ m, L1.length = m := ⟨_, rfl⟩
 rw [hm] at hlen hq ⊢
 rw [hlen]
 have HM1 := Lib.hid hm
 have HM2 := Lib.hid hlen
 have hmk := make_rowP m (by omega)
 obtain ⟨V, hV⟩ : ∃ V, w.alloc (.cells (madeCells #[.bool false, .slice none 0 0, .slice none 0 0] (m * 3)) 54) = V := ⟨_, rfl⟩
 have hown0 : OwnE w.heap.size 54 V (.slice (some ⟨w.heap.size, 0, none⟩) 0 m) [] := by
  rw [← hV]
  exact World.ownsRow_made w _ m (Nat.le_refl _) (by unfold maxLen; omega) (madeP_len _ _)
 have bV : Below w.heap.size w V := by rw [← hV]; exact (Below.refl _ _).alloc (Nat.le_refl _) _
 have HO0 := Lib.hid hown0
 have HBV := Lib.hid bV
 clear E1 E2 hm hlen hown0 bV
 go_enter Tryz.func99, Tryz.ntmps99
 go_wp2_with fail
 (try rw [hV])
 clear hV hmk
 go_loopw [5, 13] (fun v i wr => ∃ (k : Nat), i = .int .i64 (k : Int) ∧ k ≤ m ∧ RowO w.heap.size 54 (fun W v x => ResQ w.heap.size W v x (2 * N + 4)) wr v (prdL L1 L2 k) ∧ Below w.heap.size w wr) (fun _ i _ => m - (intOf i).toNat)
 case atStart => exact ⟨0, rfl, Nat.zero_le _, ⟨[], HO0.out, AllE.nil _⟩, HBV.out⟩
 case round =>
  obtain ⟨k, rfl, hk, ⟨es, hown, hall⟩, hb⟩ := hrel
  obtain ⟨av, cv, rfl⟩ := ownT_slice hown
  have hsz := hb.size
  have hle : es.length = k := by rw [hall.1]; simp [prdL]
  subst hle
  by_cases hlt : es.length < m
  · obtain ⟨b1, o1, x0, x1, x2, q1, hbo1, hqk1, f0, f1, f2, hr1⟩ := (HE1.out.later hb (fun _ _ _ h => h.later hb)).at (i := es.length) (by rw [HM1.out]; exact hlt)
    obtain ⟨b2, o2, y0', y1', y2', q2, hbo2, hqk2, g0, g1, g2, hr2⟩ := (HE2.out.later hb (fun _ _ _ h => h.later hb)).at (i := es.length) (by rw [HM2.out]; exact hlt)
    obtain ⟨b1', o1', _, _, _, _, hbo1', _, f0', _, _, _⟩ := HE1.out.at (i := es.length) (by rw [HM1.out]; exact hlt)
    obtain ⟨b2', o2', _, _, _, _, hbo2', _, g0', _, _, _⟩ := HE2.out.at (i := es.length) (by rw [HM2.out]; exact hlt)
    rw [hbo1] at hbo1'
    rw [hbo2] at hbo2'
    obtain ⟨rfl, rfl⟩ : b1 = b1' ∧ o1 = o1' := by simpa using hbo1'
    obtain ⟨rfl, rfl⟩ : b2 = b2' ∧ o2 = o2' := by simpa using hbo2'
    have lt2 : b2 < w.heap.size := World.block_lt_of_cell? _ _ g0'
    subst hbo1
    subst hbo2
    obtain ⟨m1, u1, l1, j1, u2, l2, j2, e1⟩ := hr1.shape
    simp only [Value.agg.injEq, Array.mk.injEq, List.cons.injEq, and_true] at e1
    obtain ⟨rfl, rfl, rfl⟩ := e1
    obtain ⟨m2, u3, l3, j3, u4, l4, j4, e2⟩ := hr2.shape
    simp only [Value.agg.injEq, Array.mk.injEq, List.cons.injEq, and_true] at e2
    obtain ⟨rfl, rfl, rfl⟩ := e2
    have hval : prdL L1 L2 (es.length + 1) = prdL L1 L2 es.length ++ [q1 * q2] := by
     unfold prdL
     rw [List.range_succ, List.map_append, List.map_cons, List.map_nil, List.getD_eq_getElem?_getD, List.getD_eq_getElem?_getD, hqk1, hqk2]
     rfl
    have HVAL := Lib.hid hval
    have HR1 := Lib.hid hr1
    have HR2 := Lib.hid hr2
    obtain ⟨X, hX⟩ : ∃ X, wr.alloc (.cells #[.bool m1, .slice u1 l1 j1, .slice u2 l2 j2] 54) = X := ⟨_, rfl⟩
    have RX : Row X wr.heap.size 54 #[.bool m1, .slice u1 l1 j1, .slice u2 l2 j2] := by rw [← hX]; exact Row.new _ _ _
    have bX : Below wr.heap.size wr X := by rw [← hX]; exact (Below.refl _ _).alloc (Nat.le_refl _) _
    have bwX : Below w.heap.size w X := hb.trans (bX.mono hsz)
    have hownX := hown.later bX
    have sX := bwX.size
    obtain ⟨r, hrv, hrb, hrne, hrA⟩ := hownX.hits10 sX
    have np := hrA wr.heap.size RX.lt (fun e => by have := (hown.lt _ e).2; omega)
    have n2 : b2 ≠ r := by omega
    obtain ⟨d0, d1, d2, _, _, _⟩ := RX.three
    have h0 := (bX.cell (World.block_lt_of_cell? _ _ g0)).trans g0
    have h1 := (bX.cell (World.block_lt_of_cell? _ _ g1)).trans g1
    have h2 := (bX.cell (World.block_lt_of_cell? _ _ g2)).trans g2
    have mkS : ∀ Y, Kept r X Y → (Y.cell? ⟨wr.heap.size, 0, none⟩ = some (.bool m1) ∧ Y.cell? ⟨wr.heap.size, 1, none⟩ = some (.slice u1 l1 j1) ∧ Y.cell? ⟨wr.heap.size, 2, none⟩ = some (.slice u2 l2 j2)) ∧ (Y.cell? ⟨b2, o2 + es.length * 3, none⟩ = some (.bool m2) ∧ Y.cell? ⟨b2, o2 + es.length * 3 + 1, none⟩ = some (.slice u3 l3 j3) ∧ Y.cell? ⟨b2, o2 + es.length * 3 + 2, none⟩ = some (.slice u4 l4 j4)) ∧ Kept r X Y := fun Y h => ⟨⟨h.cell d0 np, h.cell d1 np, h.cell d2 np⟩, ⟨h.cell h0 n2, h.cell h1 n2, h.cell h2 n2⟩, h⟩
    have K0 : Kept r X X.drew := (Kept.refl r X).drew
    have hltI : (es.length : Int) < (m : Int) := by omega
    have HALL := Lib.hid hall
    have HOWN := Lib.hid hownX
    clear hval hr1 hr2 hqk1 hqk2 hbo1' hbo2' f0' g0' hall hown hownX g0 g1 g2
    go_wp2_with fail
    (try rw [hX])
    clear hX f0 f1 f2
    refine wp_region_held_drew (S := fun Y => (Y.cell? ⟨wr.heap.size, 0, none⟩ = some (.bool m1) ∧ Y.cell? ⟨wr.heap.size, 1, none⟩ = some (.slice u1 l1 j1) ∧ Y.cell? ⟨wr.heap.size, 2, none⟩ = some (.slice u2 l2 j2)) ∧ (Y.cell? ⟨b2, o2 + es.length * 3, none⟩ = some (.bool m2) ∧ Y.cell? ⟨b2, o2 + es.length * 3 + 1, none⟩ = some (.slice u3 l3 j3) ∧ Y.cell? ⟨b2, o2 + es.length * 3 + 2, none⟩ = some (.slice u4 l4 j4)) ∧ Kept r X Y) (by kernel_rfl) (mkS _ K0) (fun hHeld => ?_)
    obtain ⟨y0, hdr⟩ : ∃ Y, X.drew = Y := ⟨_, rfl⟩
    have B0 : Below X.heap.size X y0 := by rw [← hdr]; exact (Below.refl _ _).drew
    rw [hdr] at K0 hHeld ⊢
    clear hdr
    refine todo [0, 1, 2, 3, 4, 5] ?_
    iterate 6
     refine todoH (v := ?_) rfl (by kernel_rfl) (fun _ _ _ h => h) (by assumption) (Or.inl ⟨by rfl, ?_⟩) ?_
     rotate_left
     · intro w hSw; (try dsimp only at hSw); go_simp; (try with_reducible rfl)
     try simp only [Act.put, nA, nB, nC, nD, nE, nF]
    refine todone ?_
    refine wpAnyH_ready (rs := [6]) (by kernel_rfl) (by simp) ?_
    refine AllReadyH.cons rfl (fun K hK => ?sk_6) AllReadyH.nil
    go_simp
    refine (mulQ_any (n := N) (HR1.out.later (bX.trans (B0.mono bX.size))) (HR2.out.later (bX.trans (B0.mono bX.size))) (by omega)).mono ?_
    rintro e y1 ⟨rv, rfl, qv, hy⟩
    have K1 := K0.below hy
    have B1 : Below X.heap.size X y1 := B0.trans (hy.mono B0.size)
    have hBw : Below w.heap.size w y1 := bwX.trans (B1.mono sX)
    have sw5 := hBw.size
    have Q5 := Lib.hid (qv.mono (show w.heap.size ≤ y0.heap.size from Nat.le_trans sX B0.size))
    obtain ⟨m5, j5, j6, j7, j8, j9, k1, rfl⟩ := qv.shape
    clear qv hy
    have hownY := HOWN.out.later B1
    have hallY : AllE (fun v x => ResQ w.heap.size y1 v x (2 * N + 4)) es (prdL L1 L2 es.length) := HALL.out.imp fun u x _ h => h.later (bX.trans (B1.mono bX.size))
    go_simp
    refine hK.out _ _ (mkS _ K1) (fun hHeld2 => ?mk_6)
    clear hK K hHeld
    have hHeld := hHeld2
    clear hHeld2
    try simp only [Act.put, nA, nB, nC, nD, nE, nF]
    refine wpAnyH_ready (rs := [7]) (by kernel_rfl) (by simp) ?_
    refine AllReadyH.cons rfl (fun K hK => ?sk_7) AllReadyH.nil
    go_simp
    refine hK.out _ _ (mkS _ (K1.alloc _)) (fun hHeld2 => ?mk_7)
    clear hK K hHeld
    have hHeld := hHeld2
    clear hHeld2
    try simp only [Act.put, nA, nB, nC, nD, nE, nF]
    refine wpAnyH_ready (rs := [8]) (by kernel_rfl) (by simp) ?_
    refine AllReadyH.cons rfl (fun K hK => ?sk_8) AllReadyH.nil
    refine step_append_lies _ rfl _ _ 24 rfl w.heap.size 54 i0 _ 3 56 Tryz.underlying24 hi hz0 hz1 hz2 rfl (by decide) _ es.length (flat3 es) rfl (hownY.later ((Below.refl _ _).alloc (Nat.le_refl _) _)) ⟨y1.heap.size, 0, none⟩ 1 1 [.bool m5, .slice j5 j6 j7, .slice j8 j9 k1] rfl rfl (cell_three_new _ _ _ _ _) (by simp [Value.oneCell']) (by omega) (by unfold maxLen; omega) (by omega) (by simp; omega) _ rfl ?_
    intro g cp w7 hown' hgrow hg' hlt'
    have K7 := (K1.alloc _).grown hgrow hrv
    refine hK.out _ _ (mkS _ K7) (fun hHeld2 => ?mk_8)
    clear hK K hHeld
    have hHeld := hHeld2
    clear hHeld2
    try simp only [Act.put, nA, nB, nC, nD, nE, nF]
    refine todo [9] ?_
    iterate 1
     refine todoH (v := ?_) rfl (by kernel_rfl) (fun _ _ _ h => h) (by assumption) (Or.inl ⟨by rfl, ?_⟩) ?_
     rotate_left
     · intro w hSw; (try dsimp only at hSw); go_simp; (try with_reducible rfl)
     try simp only [Act.put, nA, nB, nC, nD, nE, nF]
    refine todone ?_
    refine wpAnyH_done (by kernel_rfl) ?_ _
    (try dsimp only [Straight])
    go_wp2
    go_roundw
    case rel =>
     obtain ⟨hrow8, hb8⟩ := pushE (P := fun W v x => ResQ w.heap.size W v x (2 * N + 4)) (o := .cells #[.bool m5, .slice j5 j6 j7, .slice j8 j9 k1] 54) (e := ⟨.bool m5, .slice j5 j6 j7, .slice j8 j9 k1⟩) hBw sw5 hownY hallY Q5.out (fun u y h => ResQ.apart hownY hgrow (by decide) h) hown' hgrow
     refine ⟨es.length + 1, by go_num, by omega, ?_, hb8⟩
     rw [HVAL.out]
     exact hrow8
    case measure => simp [intOf]; omega
  · have hkl : es.length = m := by omega
    have hltI : ¬ (es.length : Int) < (m : Int) := by omega
    have hrow : RowO w.heap.size 54 (fun W v x => ResQ w.heap.size W v x (2 * N + 4)) wr (.slice av es.length cv) (prdL L1 L2 m) := ⟨es, hown, by rw [← hkl]; exact hall⟩
    have HROW := Lib.hid hrow
    clear hown hall hkl hrow hlt
    go_wp2_with fail
    go_ret
    exact ⟨_, rfl, HROW.out, hb⟩
end
end Go.Proofs.YtengpgodmbfmkaaGreat
