/-
  Part 30 of 39: contracts and what they rest on (TCode3, TCode5, FMul).
-/
import Derived.Test.YtengpgodmbfmkaaGreatG27
import Derived.Test.YtengpgodmbfmkaaGreatG28
import Derived.Test.YtengpgodmbfmkaaGreatG29
namespace Go.Proofs.YtengpgodmbfmkaaGreat
set_option linter.unusedVariables false
set_option linter.unusedSimpArgs false
set_option maxRecDepth 100000
set_option maxHeartbeats 40000000
section
open Go.RowKit Go.Shelf
attribute [local go_sem] Oper.semAt_some
theorem room_any {u : Value} {s : List Int} {a : Option Addr} {ca : Nat} {w : World} (A : ArgS w u s a ca) (n : Nat) :
 Calls Tryz.prog 67 #[u, .int .i64 (n : Int)] w fun e w' => e = .returned (.int .i64 (makeC s n)) ∧ w = w' := by
 have h1 := mayS_eq A
 have h2 := countS_eq A
 have e : makeC s n = if mayC s ≠ 0 then mayC s else if (n : Int) ≠ countS s then 13 else 0 := rfl
 obtain rfl := A.is
 rw [e]
 generalize mayC s = m at *
 generalize countS s = c at *
 clear e A
 by_cases h : m = 0
 · subst h
   by_cases hc : (n : Int) = c
   · have hn : ((n : Int) != c) = false := by simp [hc]
     have hd : (if (0 : Int) ≠ 0 then (0 : Int) else if (n : Int) ≠ c then 13 else 0) = 0 := by simp [hc]
     rw [hd]
     go_enter Tryz.func67, Tryz.ntmps67
     go_wp2_with (first | (go_at_call 96; refine h1.mono ?_; rintro e w1 ⟨rfl, rfl⟩) | (go_at_call 84; refine h2.mono ?_; rintro e w1 ⟨rfl, rfl⟩))
     go_ret
     exact ⟨rfl, rfl⟩
   · have hn : ((n : Int) != c) = true := by simp [hc]
     have hd : (if (0 : Int) ≠ 0 then (0 : Int) else if (n : Int) ≠ c then 13 else 0) = 13 := by simp [hc]
     rw [hd]
     go_enter Tryz.func67, Tryz.ntmps67
     go_wp2_with (first | (go_at_call 96; refine h1.mono ?_; rintro e w1 ⟨rfl, rfl⟩) | (go_at_call 84; refine h2.mono ?_; rintro e w1 ⟨rfl, rfl⟩))
     go_ret
     exact ⟨rfl, rfl⟩
 · have hn : (m != 0) = true := by simp [h]
   rw [if_pos h]
   go_enter Tryz.func67, Tryz.ntmps67
   go_wp2_with (first | (go_at_call 96; refine h1.mono ?_; rintro e w1 ⟨rfl, rfl⟩) | (go_at_call 84; refine h2.mono ?_; rintro e w1 ⟨rfl, rfl⟩))
   go_ret
   exact ⟨rfl, rfl⟩
theorem elements_any (a b : Option Addr) (n m ca cb : Nat) (w : World) :
 Calls Tryz.prog 64 #[.agg #[.slice a n ca, .slice b m cb]] w fun e w' => e = .returned (.slice b m cb) ∧ Below w.heap.size w w' := by
 go_enter Tryz.func64, Tryz.ntmps64
 go_wp2
 go_ret
 exact ⟨rfl, (Below.refl _ _).alloc (Nat.le_refl _) _⟩
theorem copyShape_any {u : Value} {s : List Int} {a : Option Addr} {ca : Nat} {w : World} (A : ArgS w u s a ca) (hs : s.length ≤ 17592186044416) :
 Calls Tryz.prog 130 #[u] w fun e w' => ∃ r, e = .returned r ∧ ResS w.heap.size w' r s ∧ Below w.heap.size w w' := by
 have h := copiedI_any A.lim A.le hs
 have hw := A.wf
 obtain rfl := A.is
 clear A
 go_enter Tryz.func130, Tryz.ntmps130
 go_wp2_with (go_at_call 156; refine h.mono ?_; rintro e w1 ⟨r, rfl, hr, hb⟩)
 go_ret
 exact ⟨_, rfl, ⟨hr, hw⟩, hb⟩
theorem resS_slice {base : Nat} {w : World} {v : Value} {s : List Int} (h : ResS base w v s) : ∃ a c, v = .slice a s.length c := ownT_slice h.num
theorem rowO_slice {α : Type} {base : Nat} {T : TypeId} {P : World → Value → α → Prop} {w : World} {v : Value} {L : List α} (h : RowO base T P w v L) : ∃ a c, v = .slice a L.length c := by
 obtain ⟨es, h1, h2⟩ := h
 rw [← h2.1]
 exact ownT_slice h1
end
section
open Go.RowKit Go.Shelf
attribute [local go_sem] Oper.semAt_some
theorem mayT_make {s : List Int} {qs : List Q3} (h : makeC s qs.length ≠ 0) : mayT s qs = makeC s qs.length := by
 unfold makeC at h ⊢
 unfold mayT
 split
 · rfl
 · rename_i h1
   rw [if_neg h1] at h
   split
   · rfl
   · rename_i h2
     rw [if_neg h2] at h
     exact absurd rfl h
theorem mayT_all {s : List Int} {qs : List Q3} (h : makeC s qs.length = 0) : mayT s qs = if qs.all okQ = true then 0 else 6 := by
 unfold makeC at h
 unfold mayT
 split at h
 · rename_i h1; exact absurd h h1
 · rename_i h1
   rw [if_neg h1]
   split at h
   · cases h
   · rename_i h2
     rw [if_neg h2]
theorem mayRaw_any {n : Nat} {w : World} {v : Value} {q : Q3} (h : RawQ w v q) (h1 : q.num.length ≤ n) (h2 : q.den.length ≤ n) (hn : n ≤ 16777000) :
 Calls Tryz.prog 69 #[v] w fun e w' => e = .returned (.int .i64 (mayCode (okQ q))) ∧ Below w.heap.size w w' := by
 obtain ⟨ad, bd, ca, cb, rfl, A, D, _, _⟩ := h
 exact mayQ_any A D h1 h2 hn
theorem mayT7_big {n : Nat} {w : World} {v : Value} {s : List Int} {qs : List Q3} {a b : Option Addr} {ca cb : Nat} (T : TensQ w v s qs a ca b cb) (hq : qs.length ≤ 1048576) (hl : lensQ qs n) (hn : n ≤ 4000000) :
 Calls Tryz.prog 27 #[v] w fun e w' => e = .returned (.int .i64 (mayT s qs)) ∧ Below w.heap.size w w' := by
 obtain rfl := T.is
 obtain ⟨B, hB⟩ : ∃ B, w.heap.size = B := ⟨_, rfl⟩
 obtain ⟨W1, hW1⟩ : ∃ W1, w.alloc (.cells #[.slice a s.length ca, .slice b qs.length cb] 26) = W1 := ⟨_, rfl⟩
 obtain ⟨W2, hW2⟩ : ∃ W2, W1.alloc (.cells #[.int .i64 0] 29) = W2 := ⟨_, rfl⟩
 have s1 : W1.heap.size = B + 1 := by rw [← hW1, ← hB]; simp
 have s2 : W2.heap.size = B + 1 + 1 := by rw [← hW2, World.size_alloc, s1]
 have R0 : Row W2 B 26 #[.slice a s.length ca, .slice b qs.length cb] := by rw [← hW2, ← hW1, ← hB]; exact (Row.new _ _ _).alloc _
 have R1 : Row W2 (B + 1) 29 #[.int .i64 0] := by rw [← hW2, ← s1]; exact Row.new _ _ _
 have hb2 : Below B w W2 := by rw [← hW2, ← hW1]; exact ((Below.refl _ w).alloc (by omega) _).alloc (by simp; omega) _
 have T2 := T.later (by rw [hB]; exact hb2)
 obtain ⟨c0, c1, _, _⟩ := R0.two
 have hr := room_any T2.sh qs.length
 obtain ⟨c, hc⟩ : ∃ c, makeC s qs.length = c := ⟨_, rfl⟩
 rw [hc] at hr
 have HL := Lib.hid hl
 have HT := Lib.hid T
 have d1 := R1.cell 0
 have f1 := R1.free 0
 obtain ⟨n', hn'⟩ : ∃ n' : Nat, Hid (3 ≤ n') := ⟨3, Nat.le_refl 3⟩
 clear T T2 hl
 by_cases h0 : c = 0
 · subst h0
   have hmt := mayT_all hc
   rw [hmt]
   obtain ⟨dd, hdd⟩ : ∃ d : Int, (if qs.all okQ = true then 0 else 6) = d := ⟨_, rfl⟩
   rw [hdd]
   have HD := Lib.hid hdd
   clear hdd
   obtain ⟨es, hlim, hall⟩ := HT.out.el.limE
   have hsh : ShE es := shE_of hall (fun v x h => h.form)
   have hcap := HT.out.el.le
   have hel : es.length = qs.length := hall.1
   have HEL := Lib.hid hel
   have HA := Lib.hid hall
   have HC := Lib.hid hc
   rw [← hel] at hr hcap c1 R0 hq hW1 ⊢
   rw [hB] at hlim
   clear hall hmt hel hc
   refine (callsIn_wide (n := n')).1 ?_
   refine callsIn_of_wp_marks Tryz.func27 rfl trivial ?_ rfl
   simp only [Tryz.ntmps27, List.size_toArray, List.length_cons, List.length_nil, Nat.reduceAdd, Nat.reduceSub, Array.replicate_succ, Array.replicate_zero, List.push_toArray, List.append_toArray, List.nil_append, List.cons_append]
   gi_wp2_with fail
   refine wideCall (hr.mono ?_)
   rintro e w' ⟨rfl, rfl⟩
   gi_wp2_with fail
   refine wideCall ((elements_any _ _ _ _ _ _ _).mono ?_)
   rintro e w3 ⟨rfl, b3⟩
   gi_wp2_with fail
   refine wideCall ((allQ_any _ _ _ _).mono ?_)
   rintro e w' ⟨rfl, rfl⟩
   gi_wp2_with fail
   have s3 := b3.size
   obtain ⟨I, hI⟩ : ∃ I, w3.heap.size = I := ⟨_, rfl⟩
   obtain ⟨V, hV⟩ : ∃ V, w3.alloc (.cells #[.slice b es.length cb] 96) = V := ⟨_, rfl⟩
   have sV : V.heap.size = I + 1 := by rw [← hV, World.size_alloc, hI]
   have b4 : Below w3.heap.size w3 V := by rw [← hV]; exact (Below.refl _ _).alloc (Nat.le_refl _) _
   have d4 : Boxed V I 96 (.slice b es.length cb) := by rw [← hV, ← hI]; exact Boxed.new _ _ _
   have b2V : Below W2.heap.size W2 V := b3.trans (b4.mono s3)
   have e1 := R1.later b2V
   have e0 := R0.later b2V
   have hbV : Below B w V := hb2.trans (b2V.mono (by omega))
   have hlimV : LimE V b es B := hlim.below hbV
   simp only [hI, hV]
   have h3 : 3 ≤ n' := hn'
   clear hV
   refine wpIn_rangeFunc_ownH (F := Fence.wide) (n := n') rfl (by omega) (gf := 107) (lb := #[.pointer (some ⟨I, 0, none⟩)]) rfl trivial (enters_of Tryz.func107 (by kernel_rfl) rfl)
    (allQ_stops (n' - 1) I B b es cb (by omega) hcap V (by omega) (by omega) d4.cell hlimV hsh) belowK_t (belowK_b (by omega)) (Below.refl _ _) (fun _ => rfl)
    (fun (pre : List (Fin es.length)) X => Row X (B + 1) 29 #[.int .i64 0] ∧ (∀ x ∈ pre, okQ (qs[x.val]?.getD ⟨false, [], []⟩) = true) ∧ Below B w X ∧ I + 1 ≤ X.heap.size)
    (fun c pre X => c = .ret ∧ Row X (B + 1) 29 #[.int .i64 6] ∧ (∃ x ∈ pre, okQ (qs[x.val]?.getD ⟨false, [], []⟩) = false) ∧ Below B w X)
    (fun pre X Y row ⟨h1, h2, h3, h4⟩ hg hr => ⟨h1.keepC (KeepC.grown hg (fun r e => (hr r e).2)), h2, h3.grown hg (by have := h3.size; omega) (fun k e => by have := (hr k e).1; omega), Nat.le_trans h4 hg.size⟩)
    (fun c pre X Y row ⟨h0, h1, h2, h3⟩ hg hr => ⟨h0, h1.keepC (KeepC.grown hg (fun r e => (hr r e).2)), h2, h3.grown hg (by have := h3.size; omega) (fun k e => by have := (hr k e).1; omega)⟩)
    ⟨e1, (fun x h => by cases h), hbV, by omega⟩
    (fun (x : Fin es.length) a' X => ∃ p, I + 1 ≤ p ∧ Row X p 54 #[(es[x.val]?.getD dfE).a, (es[x.val]?.getD dfE).b, (es[x.val]?.getD dfE).c] ∧
      a' = { tmps := #[.agg #[.slice a s.length ca, .slice b es.length cb], .pointer (some ⟨B, 0, none⟩), .pointer (some ⟨B + 1, 0, none⟩), .int .i64 0, .pointer (some ⟨p, 0, none⟩), undef, .pointer (some ⟨B, 0, none⟩), .slice a s.length ca, .pointer (some ⟨B, 1, none⟩), .slice b es.length cb, .int .i64 es.length, .int .i64 0, .int .i64 0, .bool false, undef,
       .agg #[.slice a s.length ca, .slice b es.length cb], .slice b es.length cb, .func (.func 107) #[] #[.pointer (some ⟨I, 0, none⟩)], .agg #[(es[x.val]?.getD dfE).a, (es[x.val]?.getD dfE).b, (es[x.val]?.getD dfE).c], undef, undef, undef, undef, undef], defers := [] })
    (fun x a' _ X Y row ⟨p, h1, h2, h3⟩ hg hr => ⟨p, h1, h2.keepC (KeepC.grown hg (fun r e => (hr r e).2)), h3⟩)
    ?assign ?body ?done ?stop
   case assign =>
    rintro l pre ⟨k, hk⟩ X K ⟨h1, h2, h3, h4⟩ hK
    obtain ⟨z1, z2, z3, z4, z5, z6, z7, he⟩ := hsh k hk
    have hs3 := h3.size
    have hbX : Below X.heap.size X (X.alloc (.cells #[.bool z1, .slice z2 z3 z4, .slice z5 z6 z7] 54)) := (Below.refl _ _).alloc (Nat.le_refl _) _
    have kk := KeepC.below hbX
    have HK := Lib.hid hK
    simp only [ratAt]
    rw [he]
    simp only
    clear hK
    gi_wp2
    refine HK.out _ _ ⟨by simp, fun q o _ ho _ => (Below.heap_alloc _ _ _ (lt_of_block ho)).trans ho⟩ (hbX.mono (by omega)) ⟨h1.keepC kk, h2, h3.trans (hbX.mono (by omega)), by simp; omega⟩ ⟨X.heap.size, h4, ?_, ?_⟩
    · simp only [he]; exact Row.new _ _ _
    · simp only [he]
   case body =>
    rintro l pre ⟨k, hk⟩ a' X hl hrec ⟨h1, h2, h3, h4⟩ ⟨p, hp, hR, rfl⟩ hlt
    obtain ⟨z1, z2, z3, z4, z5, z6, z7, he⟩ := hsh k hk
    simp only at hR ⊢
    rw [he] at hR ⊢
    simp only at hR ⊢
    have hkq : k < qs.length := by rw [← HEL.out]; exact hk
    have hqk : qs[k]? = some qs[k] := List.getElem?_eq_getElem hkq
    obtain ⟨q, hq2⟩ : ∃ q, qs[k] = q := ⟨_, rfl⟩
    rw [hq2] at hqk
    have hek : es[k]? = some es[k] := List.getElem?_eq_getElem hk
    have hraw := HA.out.2 k _ _ hek hqk
    have e2 : es[k] = ⟨.bool z1, .slice z2 z3 z4, .slice z5 z6 z7⟩ := by rw [hek] at he; exact he
    rw [e2] at hraw
    have hmem := List.mem_of_getElem? hqk
    have hlq := HL.out q hmem
    have hgd : qs[k]?.getD ⟨false, [], []⟩ = q := by rw [hqk]; rfl
    obtain ⟨g0, g1, g2, _, _, _⟩ := hR.three
    have hs3 := h3.size
    have hrX := hraw.later (hB.symm ▸ h3 : Below w.heap.size w X)
    gi_wp2_with fail
    refine roundCall ((mayRaw_any hrX hlq.1 hlq.2 (by omega)).mono ?_)
    rintro e w5 ⟨rfl, b5⟩
    have s5 := b5.size
    have R5 := h1.later b5
    have f5 := R5.free 0
    have d5 := R5.cell 0
    by_cases hok : okQ q = true
    · rw [hok]
      have hm : mayCode true = 0 := rfl
      rw [hm]
      gi_wp2
      refine ⟨keepsFrom_below b5, b5.mono (by omega), R5, fun x hx => ?_, h3.trans (b5.mono (by omega)), by omega⟩
      rcases List.mem_append.1 hx with hx | hx
      · exact h2 x hx
      · simp at hx
        subst hx
        rw [hgd]
        exact hok
    · have hok2 : okQ q = false := by simpa using hok
      rw [hok2]
      have hm : mayCode false = 6 := rfl
      rw [hm]
      have R6 : Row (w5.setCell ⟨B + 1, 0, none⟩ (.int .i64 6)) (B + 1) 29 #[.int .i64 6] := R5.set 0 _
      gi_wp2
      refine ⟨keepsFrom_set (keepsFrom_below b5) _ _, rfl, R6, ⟨_, List.mem_append_right _ (List.mem_singleton.2 rfl), ?_⟩, (h3.trans (b5.mono (by omega))).setCell (by show B ≤ B + 1; omega) _⟩
      show okQ (qs[k]?.getD ⟨false, [], []⟩) = false
      rw [hgd]
      exact hok2
   case done =>
    rintro D ys X hD hup ⟨h1, h2, h3, h4⟩ hK
    have hall : qs.all okQ = true := by
     rw [List.all_eq_true]
     intro q hq
     obtain ⟨k, hk, rfl⟩ := List.mem_iff_getElem.1 hq
     have hk2 : k < es.length := by rw [HEL.out]; exact hk
     have hm : (⟨k, hk2⟩ : Fin es.length) ∈ ys := by
      have h5 : k ∈ ys.map Fin.val := by rw [show ys.map Fin.val = List.range es.length from hup]; exact List.mem_range.2 hk2
      obtain ⟨x, hx, hv⟩ := List.mem_map.1 h5
      have : x = ⟨k, hk2⟩ := Fin.ext hv
      rw [← this]
      exact hx
     have h5 := h2 _ hm
     simp only at h5
     rw [List.getElem?_eq_getElem hk] at h5
     exact h5
    have c5 := h1.cell 0
    have f5 := h1.free 0
    gi_wp2
    have hK' := (KeepsOthers.setCell X ⟨B + 1, 0, none⟩ (.int .i64 0)).same D _ hK rfl
    refine ⟨by simp, .inl ⟨_, _, rfl, run_takeDeferred hK', ?_⟩⟩
    have hc5 := cell_kept ((h1.set 0 (.int .i64 0)).cell 0) (grownBy_putObj' _ D (.deferred none)) (fun r e => by cases e; exact ⟨_, hK', rfl⟩)
    simp at hc5
    refine ⟨.int .i64 0, by simp [results, Tryz.f27, go_sem, hc5], by rw [← HD.out, if_pos hall], ?_⟩
    rw [hB]
    exact (h3.setCell (p := ⟨B + 1, 0, none⟩) (by show B ≤ B + 1; omega) _).trans (belowK_b (n₀ := B) (w := w) (by omega) _ D _ _ (by omega) hK' rfl rfl)
   case stop =>
    rintro D c pre X hD ⟨k, hk, hup⟩ ⟨rfl, h1, ⟨x, hx, hbad⟩, h3⟩ hK
    have hall : ¬ qs.all okQ = true := by
     intro h
     rw [List.all_eq_true] at h
     have hk2 : x.val < qs.length := by rw [← HEL.out]; exact x.isLt
     rw [List.getElem?_eq_getElem hk2] at hbad
     have := h _ (List.getElem_mem hk2)
     simp only [Option.getD_some] at hbad
     rw [hbad] at this
     cases this
    gi_wp2
    refine ⟨by simp, .inl ⟨_, _, rfl, run_takeDeferred hK, ?_⟩⟩
    have hc5 := cell_kept (h1.cell 0) (grownBy_putObj' _ D (.deferred none)) (fun r e => by cases e; exact ⟨_, hK, rfl⟩)
    simp at hc5
    refine ⟨.int .i64 6, by simp [results, Tryz.f27, go_sem, hc5], by rw [← HD.out, if_neg hall], ?_⟩
    rw [hB]
    exact h3.trans (belowK_b (n₀ := B) (w := w) (by omega) _ D _ _ (by omega) hK rfl rfl)
 · have hn : (c != 0) = true := by simp [h0]
   rw [mayT_make (by rw [hc]; exact h0), hc]
   have R3 : Row (W2.setCell ⟨B + 1, 0, none⟩ (.int .i64 c)) (B + 1) 29 #[.int .i64 c] := R1.set 0 _
   have y0 := R3.cell 0
   go_enter Tryz.func27, Tryz.ntmps27
   go_wp2_with (go_at_call 67; refine hr.mono ?_; rintro e w1 ⟨rfl, rfl⟩)
   simp at y0
   refine bodyPost_ret (v := .int .i64 c) (by simp [results, Tryz.results27, go_sem, y0]) rfl ⟨rfl, ?_⟩
   rw [hB]
   exact hb2.setCell (p := ⟨B + 1, 0, none⟩) (by show B ≤ B + 1; omega) _
end
section
open Go.RowKit Go.Shelf
attribute [local go_sem] Oper.semAt_some
theorem columns_any (a b : Option Addr) (n m ca cb : Nat) (w : World) :
 Calls Tryz.prog 98 #[.agg #[.slice a n ca, .slice b m cb]] w fun e w' => e = .returned (.func (.func 142) #[] #[.pointer (some ⟨w.heap.size, 0, none⟩)]) ∧ w' = w.alloc (.cells #[.slice a n ca, .slice b m cb] 26) := by
 have hmf : ∀ (fn : Fn) (first cap : Array Value) (w : World), (Instr.makeFunc fn first cap).run Tryz.prog w = .ok (.func fn first cap) w := fun _ _ _ _ => rfl
 go_enter Tryz.func98, Tryz.ntmps98
 go_wp2
 go_ret
 exact ⟨rfl, rfl⟩
def elemM (b C : Nat) (X Y : List Rat) (i j : Nat) : Rat := sumK (fun k => X.getD (b * i + k) 0 * Y.getD (C * k + j) 0) b
def rowM (b C : Nat) (X Y : List Rat) (i : Nat) : List Rat := (List.range C).map fun j => elemM b C X Y i j
theorem mmF_rows (a b C : Nat) (X Y : List Rat) : mmF a b C X Y = (List.range a).flatMap fun i => rowM b C X Y i := by
 have key : ∀ (i j : Nat), j ≤ C → (List.range (C * i + j)).map (fun n => sumK (fun k => X.getD (b * (n / C) + k) 0 * Y.getD (C * k + n % C) 0) b) = ((List.range i).flatMap fun i => rowM b C X Y i) ++ (List.range j).map (fun j => elemM b C X Y i j) := fun i => by
  induction i with
  | zero =>
    intro j
    induction j with
    | zero => intro _; rfl
    | succ j ih =>
      intro hj
      have h := ih (by omega)
      rw [← Nat.add_assoc, mmF_next 0 b C X Y (by omega), h, List.range_succ (n := j), List.map_append, ← List.append_assoc]
      rfl
  | succ i ihi =>
    intro j
    induction j with
    | zero =>
      intro _
      rw [Nat.add_zero, Nat.mul_succ, ihi C (Nat.le_refl _), List.range_succ, List.flatMap_append]
      simp [rowM]
    | succ j ih =>
      intro hj
      have h := ih (by omega)
      rw [← Nat.add_assoc, mmF_next 0 b C X Y (by omega), h, List.range_succ (n := j), List.map_append, ← List.append_assoc]
      rfl
 have h := key a 0 (Nat.zero_le _)
 simp only [Nat.add_zero, List.range_zero, List.map_nil, List.append_nil] at h
 unfold mmF
 rw [Nat.mul_comm a C]
 exact h
theorem RowA.ratsQ {n : Nat} {w : World} {u : Value} {qs : List Q3} {ad : Option Addr} {cap : Nat} (h : RowA RawQ w u qs ad cap) (hl : lensQ qs n) : RowA (fun W v x => ArgQ W v x n) w u (qs.map Q3.rat) ad cap := by
 refine ⟨by rw [List.length_map]; exact h.is, by rw [List.length_map]; exact h.le, ?_⟩
 rcases h.els with e | ⟨b, o, es, e, c, k⟩
 · exact .inl (by rw [e]; rfl)
 · refine .inr ⟨b, o, es, e, c, by rw [List.length_map]; exact k.1, fun i d x h1 h2 => ?_⟩
   rw [List.getElem?_map] at h2
   cases hq : qs[i]? with
   | none => rw [hq] at h2; cases h2
   | some q =>
     rw [hq] at h2
     simp only [Option.map_some, Option.some.injEq] at h2
     subst h2
     have hm := List.mem_of_getElem? hq
     exact (k.2 i d q h1 hq).arg (hl q hm).1 (hl q hm).2
theorem flat_len {b C R : Nat} {X Y : List Rat} (pre : List (Fin R)) : (pre.flatMap fun x : Fin R => rowM b C X Y x.val).length = pre.length * C := by
 induction pre with
 | nil => simp
 | cons x xs ih => rw [List.flatMap_cons, List.length_append, ih, List.length_cons, Nat.succ_mul, Nat.add_comm]; simp [rowM]
theorem AllE.ratsQ {n : Nat} {w : World} {es : List E3} {qs : List Q3} (h : AllE (RawQ w) es qs) (hl : lensQ qs n) : AllE (fun v x => ArgQ w v x n) es (qs.map Q3.rat) := by
 refine ⟨by rw [List.length_map]; exact h.1, fun i d x h1 h2 => ?_⟩
 rw [List.getElem?_map] at h2
 cases hq : qs[i]? with
 | none => rw [hq] at h2; cases h2
 | some q =>
   rw [hq] at h2
   simp only [Option.map_some, Option.some.injEq] at h2
   subst h2
   have hm := List.mem_of_getElem? hq
   exact (h.2 i d q h1 hq).arg (hl q hm).1 (hl q hm).2
structure PI (B : Nat) (V : World) (BB : Nat) (l : List Rat) (X : World) : Prop where
 kept : Kept (B + 1 + 1 + 1) V X
 row : ∃ v es, Boxed X (B + 1 + 1 + 1) 24 v ∧ OwnE V.heap.size 54 X v es ∧ AllE (fun u x => ResQ B X u x BB) es l
theorem PI.grown {B BB : Nat} {V X Y : World} {l : List Rat} {row : Option Nat} (h : PI B V BB l X) (hg : X.grownBy Y row) (hr : ∀ r, row = some r → V.heap.size ≤ r ∧ ∃ o : Obj, X.heap[r]? = some o ∧ o.isCells = false) : PI B V BB l Y := by
 have kk := KeepC.grown hg (fun r e => (hr r e).2)
 obtain ⟨k, v, es, h1, h2, h3⟩ := h
 exact ⟨⟨hg.os.trans k.os, hg.tape.trans k.tape, hg.output.trans k.output, Nat.le_trans k.size hg.size, fun j hj hne => (hg.block j (Nat.lt_of_lt_of_le hj k.size) (fun e => by have := (hr j e.symm).1; omega)).trans (k.block j hj hne)⟩, v, es, Boxed.keepC h1 kk, h2.keepC kk, h3.imp fun _ _ _ h => h.keepC kk⟩
theorem PI.later {B BB : Nat} {V X Y : World} {l : List Rat} (h : PI B V BB l X) (hb : Below X.heap.size X Y) : PI B V BB l Y := by
 have kk := KeepC.below hb
 obtain ⟨k, v, es, h1, h2, h3⟩ := h
 exact ⟨k.below hb, v, es, Boxed.keepC h1 kk, h2.keepC kk, h3.imp fun _ _ _ h => h.keepC kk⟩
def colL (L : List Rat) (C R k : Nat) : List Rat := (List.range R).map fun i => L.getD (i * C + k) 0
theorem colL_len (L : List Rat) (C R k : Nat) : (colL L C R k).length = R := by simp [colL]
theorem AllE.col {P : Value → Rat → Prop} {es : List E3} {L : List Rat} {C R k : Nat} (h : AllE P es L) (hl : es.length = R * C) (hk : k < C) : AllE P (colE es C R k) (colL L C R k) := by
 refine ⟨by rw [colE_len, colL_len], fun i e x h1 h2 => ?_⟩
 have hi : i < R := by
  rcases Nat.lt_or_ge i R with g | g
  · exact g
  · rw [List.getElem?_eq_none (by rw [colE_len]; exact g)] at h1; cases h1
 have hik : i * C + k < R * C := by
  have := Nat.mul_le_mul_right C (show i + 1 ≤ R by omega)
  rw [Nat.succ_mul] at this
  omega
 unfold colE at h1
 unfold colL at h2
 rw [List.getElem?_map, List.getElem?_range hi] at h1 h2
 simp only [Option.map_some, Option.some.injEq] at h1 h2
 have hk2 : i * C + k < L.length := by rw [← h.1, hl]; exact hik
 have a1 : es[i * C + k]? = some es[i * C + k] := List.getElem?_eq_getElem (by rw [hl]; exact hik)
 have a2 : L[i * C + k]? = some L[i * C + k] := List.getElem?_eq_getElem hk2
 rw [a1] at h1
 rw [List.getD_eq_getElem?_getD, a2] at h2
 simp only [Option.getD_some] at h1 h2
 rw [← h1, ← h2]
 exact h.2 _ _ _ a1 a2
theorem elem_of {b C i j : Nat} {X Y : List Rat} : totL (prdL ((X.drop (i * b)).take b) (colL Y C b j) b) = elemM b C X Y i j := by
 unfold prdL elemM
 rw [totL_range]
 refine sumK_congr fun k hk => ?_
 have e1 : ((X.drop (i * b)).take b).getD k 0 = X.getD (b * i + k) 0 := by
  rw [List.getD_eq_getElem?_getD, List.getElem?_take, if_pos hk, List.getElem?_drop, ← List.getD_eq_getElem?_getD, Nat.mul_comm]
 have e2 : (colL Y C b j).getD k 0 = Y.getD (C * k + j) 0 := by
  unfold colL
  rw [List.getD_eq_getElem?_getD, List.getElem?_map, List.getElem?_range hk, Nat.mul_comm C k]
  rfl
 rw [e1, e2]
theorem productM_any (kb : Nat) {n R b C : Nat} {w : World} {u v : Value} {s t : List Int} {q1 q2 : List Q3} {a1 b1 a2 b2 : Option Addr} {ca1 cb1 ca2 cb2 : Nat} (T1 : TensQ w u s q1 a1 ca1 b1 cb1) (T2 : TensQ w v t q2 a2 ca2 b2 cb2) (hs : s = [(R : Int), (b : Int)]) (ht : t = [(b : Int), (C : Int)])
 (hR : 1 ≤ R) (hb : 1 ≤ b) (hC : 1 ≤ C) (hq1 : q1.length = R * b) (hq2 : q2.length = b * C) (hm1 : R * b ≤ 1024) (hm2 : b * C ≤ 1024) (hm3 : R * C ≤ 1024) (hl1 : lensQ q1 n) (hl2 : lensQ q2 n) (hn : (2 * n + 4 + 10) * 2 ^ kb ≤ 16000000) (hkb : b ≤ 2 ^ kb) (hn4 : n ≤ 4000000) :
 Calls Tryz.prog 57 #[u, v] w fun e w' => ∃ r, e = .returned r ∧ ResT w.heap.size w' r [(R : Int), (C : Int)] (mmF R b C (q1.map Q3.rat) (q2.map Q3.rat)) ((2 * n + 4 + 10) * 2 ^ kb) ∧ Below w.heap.size w w' := by
 obtain ⟨i0, hi, hz0, hz1, hz2⟩ := info_parts infoQ
 subst hs
 subst ht
 obtain rfl := T1.is
 obtain rfl := T2.is
 obtain ⟨B, hB⟩ : ∃ B, w.heap.size = B := ⟨_, rfl⟩
 obtain ⟨f1, o1, E1s, hbo1, hE1, hA1⟩ : ∃ f o es, b1 = some ⟨f, o, none⟩ ∧ CellsE w f o es ∧ AllE (RawQ w) es q1 := by
  rcases T1.el.els with e | ⟨f, o, es, e, h1, h2⟩
  · rw [e] at hq1; have := Nat.mul_le_mul hR hb; simp at hq1; omega
  · exact ⟨f, o, es, e, h1, h2⟩
 obtain ⟨f2, o2, E2s, hbo2, hE2, hA2⟩ : ∃ f o es, b2 = some ⟨f, o, none⟩ ∧ CellsE w f o es ∧ AllE (RawQ w) es q2 := by
  rcases T2.el.els with e | ⟨f, o, es, e, h1, h2⟩
  · rw [e] at hq2; have := Nat.mul_le_mul hb hC; simp at hq2; omega
  · exact ⟨f, o, es, e, h1, h2⟩
 subst hbo1
 subst hbo2
 have hsh2 : ShE E2s := shE_of hA2 (fun _ _ h => h.form)
 have hlE2 : E2s.length = b * C := by rw [hA2.1, hq2]
 obtain ⟨g2, p2, hga, _⟩ : ∃ g p, a2 = some ⟨g, p, none⟩ ∧ True := by
  obtain ⟨g, p, e, _⟩ := T2.sh.at (i := 0) (by simp)
  exact ⟨g, p, e, trivial⟩
 subst hga
 have hg2 : g2 < w.heap.size := T2.sh.lim.lt (by simp) _ rfl
 have hf2 : f2 < w.heap.size := T2.el.low (by intro e; rw [e] at hq2; have := Nat.mul_le_mul hb hC; simp at hq2; omega) rfl
 have hcap1 : R * b ≤ cb1 := by rw [← hq1]; exact T1.el.le
 have hcap2 : b * C ≤ cb2 := by rw [← hq2]; exact T2.el.le
 have X1 := T1.el.ratsQ hl1
 have X2 := T2.el.ratsQ hl2
 have HX1 := Lib.hid X1
 have HX2 := Lib.hid X2
 have HA2 := Lib.hid hA2
 have HE2 := Lib.hid hE2
 have HT1 := Lib.hid T1
 have HT2 := Lib.hid T2
 have HSH := Lib.hid hsh2
 have HLE := Lib.hid hlE2
 have HL2 := Lib.hid hl2
 obtain ⟨LX, hLX⟩ : ∃ L, q1.map Q3.rat = L := ⟨_, rfl⟩
 obtain ⟨LY, hLY⟩ : ∃ L, q2.map Q3.rat = L := ⟨_, rfl⟩
 have lX : LX.length = R * b := by rw [← hLX, List.length_map, hq1]
 have lY : LY.length = b * C := by rw [← hLY, List.length_map, hq2]
 rw [hLX] at HX1
 rw [hLY] at HX2
 rw [hLX, hLY, hq1, hq2]
 have HLY := Lib.hid hLY
 obtain ⟨BB, hBB⟩ : ∃ BB, (2 * n + 4 + 10) * 2 ^ kb = BB := ⟨_, rfl⟩
 have HTOT : Hid (TotQ kb B (2 * n + 4)) := @totalF_any kb B (2 * n + 4) hn
 have HBB := Lib.hid hBB
 rw [hBB]
 have HlX := Lib.hid lX
 have HlY := Lib.hid lY
 obtain ⟨W1, hW1⟩ : ∃ W, w.alloc (.cells #[.slice a1 2 ca1, .slice (some ⟨f1, o1, none⟩) (R * b) cb1] 26) = W := ⟨_, rfl⟩
 obtain ⟨W2, hW2⟩ : ∃ W, W1.alloc (.cells #[.slice (some ⟨g2, p2, none⟩) 2 ca2, .slice (some ⟨f2, o2, none⟩) (b * C) cb2] 26) = W := ⟨_, rfl⟩
 have s1 : W1.heap.size = B + 1 := by rw [← hW1, World.size_alloc, hB]
 have s2 : W2.heap.size = B + 1 + 1 := by rw [← hW2, World.size_alloc, s1]
 have R0 : Row W2 B 26 #[.slice a1 2 ca1, .slice (some ⟨f1, o1, none⟩) (R * b) cb1] := by rw [← hW2, ← hW1, ← hB]; exact (Row.new _ _ _).alloc _
 have R1 : Row W2 (B + 1) 26 #[.slice (some ⟨g2, p2, none⟩) 2 ca2, .slice (some ⟨f2, o2, none⟩) (b * C) cb2] := by rw [← hW2, ← s1]; exact Row.new _ _ _
 have bW2 : Below B w W2 := by rw [← hW2, ← hW1]; exact ((Below.refl _ w).alloc (by omega) _).alloc (by simp; omega) _
 obtain ⟨W3, hW3⟩ : ∃ W, W2.alloc (.cells #[.slice none 0 0, .slice none 0 0] 26) = W := ⟨_, rfl⟩
 obtain ⟨W4, hW4⟩ : ∃ W, W3.alloc (.cells #[.slice none 0 0] 24) = W := ⟨_, rfl⟩
 have s3 : W3.heap.size = B + 1 + 1 + 1 := by rw [← hW3, World.size_alloc, s2]
 have s4 : W4.heap.size = B + 1 + 1 + 1 + 1 := by rw [← hW4, World.size_alloc, s3]
 have b34 : Below W2.heap.size W2 W4 := by rw [← hW4, ← hW3]; exact ((Below.refl _ _).alloc (Nat.le_refl _) _).alloc (by simp) _
 have P0 := R0.later b34
 have P1 := R1.later b34
 have P2 : Row W4 (B + 1 + 1) 26 #[.slice none 0 0, .slice none 0 0] := by rw [← hW4, ← hW3, ← s2]; exact (Row.new _ _ _).alloc _
 have P3 : Row W4 (B + 1 + 1 + 1) 24 #[.slice none 0 0] := by rw [← hW4, ← s3]; exact Row.new _ _ _
 have bW4 : Below B w W4 := bW2.trans (b34.mono (by omega))
 have A1 : ArgS W4 (.slice a1 ([(R : Int), (b : Int)] : List Int).length ca1) [(R : Int), (b : Int)] a1 ca1 := T1.sh.later (by rw [hB]; exact bW4)
 have hrw := rows_any (s := [(R : Int), (b : Int)]) (b := some ⟨f1, o1, none⟩) (m := R * b) (cb := cb1) A1 (Nat.le_refl 2)
 simp only [List.length_cons, List.length_nil, Nat.reduceAdd] at hrw ⊢
 rw [s4] at hrw
 obtain ⟨x0, x1, _, _⟩ := P0.two
 have HP0 := Lib.hid P0
 have HP1 := Lib.hid P1
 have HP2 := Lib.hid P2
 have HP3 := Lib.hid P3
 have HB := Lib.hid hB
 have HBW4 := Lib.hid bW4
 obtain ⟨n', hn'⟩ : ∃ n' : Nat, Hid (12 ≤ n') := ⟨12, Nat.le_refl 12⟩
 clear T1 T2 hE1 hA1 hE2 hA2 X1 X2 hLX hLY hBB A1 P0 P1 P2 P3 R0 R1 hsh2 hlE2 lX lY hl2 hl1 hn
 refine (callsIn_wide (n := n')).1 ?_
 refine callsIn_of_wp_marks Tryz.func57 rfl trivial ?_ rfl
 simp only [Tryz.ntmps57, List.size_toArray, List.length_cons, List.length_nil, Nat.reduceAdd, Nat.reduceSub, Array.replicate_succ, Array.replicate_zero, List.push_toArray, List.append_toArray, List.nil_append, List.cons_append]
 gi_wp2_with fail
 refine wideCallS (hrw.mono ?_)
 rintro e V ⟨rfl, RX, RWd, hb4, hs5⟩
 have Q0 := HP0.out.below hb4 (by omega)
 have Q1 := HP1.out.below hb4 (by omega)
 have Q2 := HP2.out.below hb4 (by omega)
 have Q3' := HP3.out.below hb4 (by omega)
 have bV : Below B w V := HBW4.out.trans (hb4.mono (by omega))
 have HQ0 := Lib.hid Q0
 have HQ1 := Lib.hid Q1
 have HQ2 := Lib.hid Q2
 have HQ3 := Lib.hid Q3'
 have HBV := Lib.hid bV
 have HRX := Lib.hid RX
 have HRW := Lib.hid RWd
 have h12 : 12 ≤ n' := hn'
 clear Q0 Q1 Q2 Q3' bV hrw
 gi_wp2_with fail
 refine wpIn_rangeFunc_ownH (F := Fence.wide) (n := n') rfl (by omega) (gf := 141) (lb := #[.pointer (some ⟨B + 1 + 1 + 1 + 1, 0, none⟩), .pointer (some ⟨B + 1 + 1 + 1 + 1 + 1, 0, none⟩)]) rfl trivial (enters_of Tryz.func141 (by kernel_rfl) rfl)
  (rows1_stops (n' - 1) (B + 1 + 1 + 1 + 1) (B + 1 + 1 + 1 + 1 + 1) f1 o1 cb1 R b hb (by omega) hcap1 V (by omega) (by omega) (RX.cell 1) (RWd.cell 0)) KpR.trans (KpR.b (by omega) (by omega)) (Below.refl _ _) (fun _ => rfl)
  (fun (pre : List (Fin R)) X => PI B V BB (pre.flatMap fun x => rowM b C LX LY x.val) X)
  (fun c pre X => False)
  (by intro pre X Y row h hgr hr; exact PI.grown h hgr hr)
  (fun _ _ _ _ _ hs _ _ => hs)
  ⟨Kept.refl _ _, _, [], HQ3.out, OwnE.nil _ _ _, AllE.nil _⟩
  (fun (x : Fin R) a' X => ∃ p, V.heap.size ≤ p ∧ Row X p 24 #[.slice (some ⟨f1, o1 + x.val * b * 3, none⟩) b (cb1 - x.val * b)] ∧ a' = { tmps := #[.agg #[.slice a1 2 ca1, .slice (some ⟨f1, o1, none⟩) (R * b) cb1], .agg #[.slice (some ⟨g2, p2, none⟩) 2 ca2, .slice (some ⟨f2, o2, none⟩) (b * C) cb2], .pointer (some ⟨B, 0, none⟩), .pointer (some ⟨B + 1, 0, none⟩), .pointer (some ⟨B + 1 + 1, 0, none⟩), .pointer (some ⟨B + 1 + 1 + 1, 0, none⟩), .pointer (some ⟨p, 0, none⟩), undef, .agg #[.slice a1 2 ca1, .slice (some ⟨f1, o1, none⟩) (R * b) cb1], .func (.func 141) #[] #[.pointer (some ⟨B + 1 + 1 + 1 + 1, 0, none⟩), .pointer (some ⟨B + 1 + 1 + 1 + 1 + 1, 0, none⟩)], .slice (some ⟨f1, o1 + x.val * b * 3, none⟩) b (cb1 - x.val * b), undef, undef, undef, undef, undef, undef, undef, undef, undef, undef, undef, undef, undef, undef, undef, undef, undef], defers := [] })
  (fun x a' _ X Y row ⟨p, g1, h1, h2⟩ hg hr => ⟨p, g1, h1.keepC (KeepC.grown hg (fun r e => (hr r e).2)), h2⟩)
  ?assign ?body ?done ?stop
 case stop =>
  rintro D c pre X _ _ h _
  exact h.elim
 case assign =>
  rintro l2 pre ⟨i, hi⟩ X K hI hK
  simp only [rowAt]
  obtain ⟨Y, hY⟩ : ∃ Y, X.alloc (.cells #[.slice (some ⟨f1, o1 + i * b * 3, none⟩) b (cb1 - i * b)] 24) = Y := ⟨_, rfl⟩
  have hbX : Below X.heap.size X Y := by rw [← hY]; exact (Below.refl _ _).alloc (Nat.le_refl _) _
  have RY : Row Y X.heap.size 24 #[.slice (some ⟨f1, o1 + i * b * 3, none⟩) b (cb1 - i * b)] := by rw [← hY]; exact Row.new _ _ _
  have hs := hI.kept.size
  have HK := Lib.hid hK
  clear hK
  gi_wp2
  (try rw [hY])
  refine HK.out _ _ (keepsFrom_below hbX) ⟨hbX.block _ (by omega), hbX.block _ (by omega)⟩ (hI.later hbX) ⟨_, hs, RY, rfl⟩
 case body =>
  rintro l pre ⟨i, hiR⟩ a' X hl hrec hPI ⟨p, hp, hRp, rfl⟩ hlt
  simp only at hRp ⊢
  have hVX := hPI.kept.size
  have bX : Below B w X := hPI.kept.under HBV.out (by omega) (by omega)
  have RY := Row.kept HQ1.out hPI.kept (by omega)
  obtain ⟨y0, y1, _, _⟩ := RY.two
  gi_wp2_with fail
  refine roundCall ((columns_any _ _ _ _ _ _ _).mono ?_)
  rintro e X1 ⟨rfl, hX1⟩
  obtain ⟨q, hq⟩ : ∃ q, X.heap.size = q := ⟨_, rfl⟩
  have sX1 : X1.heap.size = q + 1 := by rw [hX1, World.size_alloc, hq]
  have RC : Row X1 q 26 #[.slice (some ⟨g2, p2, none⟩) 2 ca2, .slice (some ⟨f2, o2, none⟩) (b * C) cb2] := by rw [hX1, ← hq]; exact Row.new _ _ _
  have bX1 : Below X.heap.size X X1 := by rw [hX1]; exact (Below.refl _ _).alloc (Nat.le_refl _) _
  rw [hq]
  have bwX1 : Below w.heap.size w X1 := by rw [HB.out]; exact bX.trans (bX1.mono (by omega))
  have hB2 := HB.out
  have hMat : MatB B q b C E2s g2 p2 ca2 f2 o2 cb2 X1 := ⟨RC, HT2.out.sh.later bwX1, HE2.out.later bwX1, HLE.out, hcap2, by omega, by omega⟩
  obtain ⟨r₀, hr₀⟩ := hrec
  have hl₀ : X1.heap[l]? = some (.loop r₀) := (bX1.block l (lt_of_block hr₀)).trans hr₀
  have hTold := columns1_told (n' - 1 - 1 - 1) B q b C E2s g2 p2 ca2 f2 o2 cb2 X1 (by omega) hb hC (by omega) (by omega) (by omega) hMat HSH.out
  clear hX1 y0 y1 RY hMat
  gi_wp2_with fail
  refine wpIn_rangeFunc_told (F := Fence.wide.inRound l) (n := n' - 1 - 1) rfl hl₀ (by omega) (gf := 142) (lb := #[.pointer (some ⟨q, 0, none⟩)]) rfl trivial (enters_of Tryz.func142 (by kernel_rfl) rfl) (V := ColV E2s C b) (N := C) hTold (Below.refl _ _) rfl KpC.trans (KpC.b (by omega) (by omega)) (fun k v W l r r' _ h k1 => k1.b h)
   (fun k Y => PI B V BB ((pre.flatMap fun x : Fin R => rowM b C LX LY x.val) ++ (List.range k).map fun j => elemM b C LX LY i j) Y ∧ KeepsFrom V.heap.size X Y ∧ KpR (B + 1 + 1 + 1 + 1) (B + 1 + 1 + 1 + 1 + 1) X Y ∧ Row Y p 24 #[.slice (some ⟨f1, o1 + i * b * 3, none⟩) b (cb1 - i * b)] ∧ Row Y q 26 #[.slice (some ⟨g2, p2, none⟩) 2 ca2, .slice (some ⟨f2, o2, none⟩) (b * C) cb2])
   ?own ?start (fun v => { tmps := #[.agg #[.slice a1 2 ca1, .slice (some ⟨f1, o1, none⟩) (R * b) cb1], .agg #[.slice (some ⟨g2, p2, none⟩) 2 ca2, .slice (some ⟨f2, o2, none⟩) (b * C) cb2], .pointer (some ⟨B, 0, none⟩), .pointer (some ⟨B + 1, 0, none⟩), .pointer (some ⟨B + 1 + 1, 0, none⟩), .pointer (some ⟨B + 1 + 1 + 1, 0, none⟩), .pointer (some ⟨p, 0, none⟩), v, .agg #[.slice a1 2 ca1, .slice (some ⟨f1, o1, none⟩) (R * b) cb1], .func (.func 141) #[] #[.pointer (some ⟨B + 1 + 1 + 1 + 1, 0, none⟩), .pointer (some ⟨B + 1 + 1 + 1 + 1 + 1, 0, none⟩)], .slice (some ⟨f1, o1 + i * b * 3, none⟩) b (cb1 - i * b), .agg #[.slice (some ⟨g2, p2, none⟩) 2 ca2, .slice (some ⟨f2, o2, none⟩) (b * C) cb2], .func (.func 142) #[] #[.pointer (some ⟨q, 0, none⟩)], v, undef, undef, undef, undef, undef, undef, undef, undef, undef, undef, undef, undef, undef, undef], defers := [] }) ?assign2 ?body2 ?done2
  case own =>
   rintro k Y Z row ⟨h1, h2, h3, h4, h5⟩ hg hr
   have kk := KeepC.grown hg (fun r e => (hr r e).2)
   have hs1 := h1.kept.size
   exact ⟨h1.grown hg (fun r e => ⟨by have := (hr r e).1; omega, (hr r e).2⟩), (ownFrom_keepsFrom (w₀ := X) (B := V.heap.size) (B' := X1.heap.size) (by omega)) () Y Z row h2 hg hr,
    ⟨(hg.block _ (by omega) (fun e => by have := (hr _ e.symm).1; omega)).trans h3.b1, (hg.block _ (by omega) (fun e => by have := (hr _ e.symm).1; omega)).trans h3.b2⟩, h4.keepC kk, h5.keepC kk⟩
  case start =>
   refine ⟨?_, keepsFrom_below bX1, ⟨bX1.block _ (by omega), bX1.block _ (by omega)⟩, hRp.later bX1, RC⟩
   rw [List.range_zero, List.map_nil, List.append_nil]
   exact hPI.later bX1
  case assign2 =>
   intro l3 v W K hK
   gi_wp2
   exact hK
  case done2 =>
   rintro Y ⟨h1, h2, h3, h4, h5⟩
   have hfl : ((pre ++ [(⟨i, hiR⟩ : Fin R)]).flatMap fun x : Fin R => rowM b C LX LY x.val) = (pre.flatMap fun x : Fin R => rowM b C LX LY x.val) ++ (List.range C).map fun j => elemM b C LX LY i j := by
    rw [List.flatMap_append]
    simp [rowM]
   gi_wp2
   refine ⟨h2, h3, ?_⟩
   show PI B V BB ((pre ++ [(⟨i, hiR⟩ : Fin R)]).flatMap fun x : Fin R => rowM b C LX LY x.val) Y
   rw [hfl]
   exact h1
  case body2 =>
   rintro l3 k v W hl3 hrec3 hk ⟨h1, h2, h3, h4, h5⟩ ⟨g, cap, rfl, hcells, hcap⟩
   have hsz := h1.kept.size
   have bW : Below B w W := h1.kept.under HBV.out (by omega) (by omega)
   have hbW : Below w.heap.size w W := by rw [HB.out]; exact bW
   have PX := Row.kept HRX.out h1.kept (by omega)
   have PW := Row.kept HRW.out h1.kept (by omega)
   have HK1 := Lib.hid h1.kept
   obtain ⟨v5, es, hbx, hown, hall⟩ := h1.row
   obtain ⟨r, hrv, hrb, hrne, hrc, hro⟩ := ownV_hits hown hsz
   obtain ⟨av, cv, rfl⟩ := ownT_slice hown
   have n5 := hrne _ _ _ hbx (by decide)
   have np := hrne _ _ _ h4 (by decide)
   have nq := hrne _ _ _ h5 (by decide)
   have nx := hrne _ _ _ PX (by decide)
   have nw := hrne _ _ _ PW (by decide)
   have hib : i * b + b ≤ R * b := by
    have := Nat.mul_le_mul_right b (show i + 1 ≤ R by omega)
    rw [Nat.succ_mul] at this
    exact this
   have e1 : ((LX.drop (i * b)).take b).length = b := by rw [List.length_take, List.length_drop, HlX.out]; omega
   have bWd : Below w.heap.size w W.drew := hbW.trans (((Below.refl _ W).drew).mono hbW.size)
   have E1 := ((HX1.out.later bWd (fun _ _ _ h => h.later bWd)).dropL (i * b) (by rw [HlX.out]; omega)).takeL b
   have cd : CellsE W.drew g 0 (colE E2s C b k) := hcells.later ((Below.refl _ W).drew)
   have E2 : RowA (fun Y v x => ArgQ Y v x n) W.drew (.slice (some ⟨g, 0, none⟩) (colL LY C b k).length cap) (colL LY C b k) (some ⟨g, 0, none⟩) cap := by
    have ha := AllE.ratsQ HA2.out HL2.out
    rw [HLY.out] at ha
    exact ⟨rfl, by rw [colL_len]; exact hcap, .inr ⟨g, 0, colE E2s C b k, rfl, cd, (AllE.col ha HLE.out hk).imp fun _ _ _ h => h.later bWd⟩⟩
   have hpr := products_any E1 E2 (by rw [colL_len, e1]) (by rw [e1]; omega) hn4
   rw [e1, colL_len] at hpr
   have lP : (prdL ((LX.drop (i * b)).take b) (colL LY C b k) b).length = b := by simp [prdL]
   have hval : totL (prdL ((LX.drop (i * b)).take b) (colL LY C b k) b) = elemM b C LX LY i k := elem_of
   obtain ⟨P, hP⟩ : ∃ P, prdL ((LX.drop (i * b)).take b) (colL LY C b k) b = P := ⟨_, rfl⟩
   rw [hP] at hpr lP hval
   have x1 := Boxed.cell hbx
   have x2 := h4.cell 0
   have mkA : ∀ Y, Kept r W Y → Y.cell? ⟨B + 1 + 1 + 1, 0, none⟩ = some (.slice av es.length cv) ∧ Y.cell? ⟨p, 0, none⟩ = some (.slice (some ⟨f1, o1 + i * b * 3, none⟩) b (cb1 - i * b)) ∧ Kept r W Y := fun Y h => ⟨h.cell x1 n5, h.cell x2 np, h⟩
   have k0 : Kept r W W.drew := (Kept.refl r W).drew
   have HPR := Lib.hid hpr
   have HLP := Lib.hid lP
   have HVAL := Lib.hid hval
   have HOWN := Lib.hid hown
   have HALL := Lib.hid hall
   have hln : es.length ≤ 100000 := by
    rw [HALL.out.1, List.length_append, List.length_map, List.length_range]
    have hfl := flat_len (b := b) (C := C) (X := LX) (Y := LY) pre
    rw [hfl]
    have := Nat.mul_le_mul_right C (show pre.length + 1 ≤ R by omega)
    rw [Nat.succ_mul] at this
    omega
   clear E1 E2 hpr lP hP hval hown hall cd e1 hcells
   refine wpIn_block ?_
   refine region_roundL (fun Y => Y.cell? ⟨B + 1 + 1 + 1, 0, none⟩ = some (.slice av es.length cv) ∧ Y.cell? ⟨p, 0, none⟩ = some (.slice (some ⟨f1, o1 + i * b * 3, none⟩) b (cb1 - i * b)) ∧ Kept r W Y) 7 (by kernel_rfl) (by kernel_rfl) (by rintro ⟨a', w', h⟩; exact h) (mkA _ k0) (fun hHeld => ?_)
   refine todo [0, 1, 2] ?_
   iterate 3
    refine todoL (v := ?_) rfl (by kernel_rfl) (fun _ _ _ h => h) (by assumption) (Or.inl ⟨by rfl, ?_⟩) ?_
    rotate_left
    · intro w hSw; (try dsimp only at hSw); go_simp; (try with_reducible rfl)
    try simp only [Act.put, nA, nB, nC, nD, nE, nF]
   refine todone ?_
   refine wpAnyL_one (i := 3) (by kernel_rfl) rfl (fun K hK => ?sbm_3)
   go_simp
   refine (HPR.out).mono ?_
   rintro e w5 ⟨r5, rfl, hr5, hb5⟩
   have b5 : Below W.heap.size W w5 := ((Below.refl _ W).drew).trans (hb5.mono (by simp))
   obtain ⟨ad5, cp5, A5, _, _⟩ := hr5.arg
   obtain rfl := A5.is
   go_simp
   have k5 : Kept r W w5 := (Kept.refl r W).below b5
   have hT5 := HTOT.out (show RowA (fun Y v x => ResQ B Y v x (2 * n + 4)) w5 _ P ad5 cp5 from ⟨A5.is, A5.le, A5.els.imp id fun ⟨b', o', es', e', c', a'⟩ => ⟨b', o', es', e', c', a'.imp fun _ _ _ h => h.mono (by have := hbW.size; simp; omega)⟩⟩) (by rw [HLP.out]; exact hb) (by rw [HLP.out]; exact hkb) (by have := b5.size; omega)
   refine hK.out _ _ (fun _ => mkA _ k5) (fun hHeld2 => ?mbm_3)
   clear hK K hHeld
   have hHeld := hHeld2 (by decide)
   clear hHeld2
   try simp only [Act.put, nA, nB, nC, nD, nE, nF]
   refine wpAnyL_one (i := 4) (by kernel_rfl) rfl (fun K hK => ?sbm_4)
   go_simp
   refine (hT5).mono ?_
   rintro e w6 ⟨r6, rfl, q6, hb6⟩
   have b6 : Below W.heap.size W w6 := b5.trans (hb6.mono b5.size)
   have k6 : Kept r W w6 := (Kept.refl r W).below b6
   have z6 := b6.size
   have Q6 := Lib.hid (HVAL.out ▸ q6)
   obtain ⟨m5, u1, l1, j1, u2, l2, j2, rfl⟩ := q6.shape
   clear q6
   go_simp
   refine hK.out _ _ (fun _ => mkA _ (k5.below hb6)) (fun hHeld2 => ?mbm_4)
   clear hK K hHeld
   have hHeld := hHeld2 (by decide)
   clear hHeld2
   try simp only [Act.put, nA, nB, nC, nD, nE, nF]
   refine wpAnyL_one (i := 5) (by kernel_rfl) rfl (fun K hK => ?sbm_5)
   go_simp
   refine hK.out _ _ (fun _ => mkA _ (k6.alloc _)) (fun hHeld2 => ?mbm_5)
   clear hK K hHeld
   have hHeld := hHeld2 (by decide)
   clear hHeld2
   try simp only [Act.put, nA, nB, nC, nD, nE, nF]
   refine wpAnyL_one (i := 6) (by kernel_rfl) rfl (fun K hK => ?sbm_6)
   refine step_append_lies _ rfl _ _ 24 rfl V.heap.size 54 i0 _ 3 56 Tryz.underlying24 hi hz0 hz1 hz2 rfl (by decide) _ es.length (flat3 es) rfl ((HOWN.out.later b6).later ((Below.refl _ _).alloc (Nat.le_refl _) _)) ⟨w6.heap.size, 0, none⟩ 1 1 [.bool m5, .slice u1 l1 j1, .slice u2 l2 j2] rfl rfl (cell_three_new _ _ _ _ _) (by simp [Value.oneCell']) (by omega) (by unfold maxLen; omega) (by omega) (by simp; omega) _ rfl ?_
   intro g7 cp w7 hown' hgrow hg' hlt'
   have hk7 : Kept r W w7 := (k6.alloc _).grown hgrow hrv
   refine hK.out _ _ (fun _ => mkA _ hk7) (fun hHeld2 => ?mbm_6)
   clear hK K hHeld
   have hHeld := hHeld2 (by decide)
   clear hHeld2
   try simp only [Act.put, nA, nB, nC, nD, nE, nF]
   have R7 : Row w7 (B + 1 + 1 + 1) 24 #[.slice av es.length cv] := Row.kept hbx hk7 n5
   have f7 := R7.free 0
   have c7 := R7.cell 0
   refine wpAnyL_one (i := 7) (by kernel_rfl) rfl (fun K hK => ?sbm_7)
   go_simp
   refine hK.out _ _ (fun h => absurd rfl h) (fun _ => ?mbm_7)
   clear hK K
   try simp only [Act.put, nA, nB, nC, nD, nE, nF]
   refine wpAnyL_done (by kernel_rfl) ?_ _
   have Q6' : ResQ B w6 (E3.agg ⟨.bool m5, .slice u1 l1 j1, .slice u2 l2 j2⟩) (elemM b C LX LY i k) BB := ResQ.more Q6.out (by rw [← HBB.out]; omega)
   obtain ⟨hrow7, _⟩ := pushE (P := fun Y v x => ResQ B Y v x BB) (e := ⟨.bool m5, .slice u1 l1 j1, .slice u2 l2 j2⟩) (base := V.heap.size) (w := w6) (wr := w6) (Below.refl _ _) (by have := b6.size; omega) (HOWN.out.later b6) (HALL.out.imp fun u x _ h => h.later b6) Q6' (fun u y h => h.apart (HOWN.out.later b6) hgrow (by decide)) hown' hgrow
   obtain ⟨es', ho', ha'⟩ := RowO.far (w' := w7.setCell ⟨B + 1 + 1 + 1, 0, none⟩ (.slice (some ⟨g7, 0, none⟩) (es.length + 1) cp)) hrow7 R7 (by decide) (kept1 _) (fun u y h => h.far R7 (by decide) (kept1 _))
   have hkf : ∀ N, KeepsFrom N W (w7.setCell ⟨B + 1 + 1 + 1, 0, none⟩ (.slice (some ⟨g7, 0, none⟩) (es.length + 1) cp)) := fun N => keepsFrom_set (keepsFrom_kept hk7 hrc) _ _
   have hbk : Below B W w7 := ⟨hk7.os, hk7.tape, hk7.output, hk7.size, fun k hk => hk7.block k (by omega) (by omega)⟩
   have hq3 : q ≠ B + 1 + 1 + 1 := by omega
   have hp3 : p ≠ B + 1 + 1 + 1 := by omega
   refine ⟨hkf _, ⟨hbk.setCell (by show B ≤ B + 1 + 1 + 1; omega) _, (Below.heap_setCell _ _ _ _ (by show q ≠ B + 1 + 1 + 1; exact hq3)).trans (hk7.block _ h5.lt nq), fun D hD => (hkf 0).same D _ (Nat.zero_le _) hD rfl⟩, ⟨?_, _, es', Boxed.set _ R7, ho', ?_⟩, h2.trans (hkf _), ⟨((Below.heap_setCell _ _ _ _ (by show B + 1 + 1 + 1 + 1 ≠ B + 1 + 1 + 1; omega)).trans (hk7.block _ (by omega) nx)).trans h3.b1, ((Below.heap_setCell _ _ _ _ (by show B + 1 + 1 + 1 + 1 + 1 ≠ B + 1 + 1 + 1; omega)).trans (hk7.block _ (by omega) nw)).trans h3.b2⟩, (Row.kept h4 hk7 np).far hp3 _, (Row.kept h5 hk7 nq).far hq3 _⟩
   · have hkV : Kept (B + 1 + 1 + 1) V w7 := ⟨hk7.os.trans HK1.out.os, hk7.tape.trans HK1.out.tape, hk7.output.trans HK1.out.output, Nat.le_trans hsz hk7.size, fun j hj hne => (hk7.block j (by omega) (by omega)).trans (HK1.out.block j hj hne)⟩
     exact hkV.set 0 _
   · rw [List.range_succ, List.map_append, ← List.append_assoc]
     exact ha'
 case done =>
  rintro D ys X hD hup hPI hK
  have hflx : (ys.flatMap fun x : Fin R => rowM b C LX LY x.val) = mmF R b C LX LY := by
   rw [mmF_rows, ← (show ys.map Fin.val = List.range R from hup), List.flatMap_map]
  have hsz := hPI.kept.size
  have bX : Below B w X := hPI.kept.under HBV.out (by omega) (by omega)
  have hbX : Below w.heap.size w X := by rw [HB.out]; exact bX
  obtain ⟨v5, es, hbx, hown, hall⟩ := hPI.row
  have hrow : RowO B 54 (fun Y v x => ResQ B Y v x BB) X v5 (mmF R b C LX LY) := RowO.mono (P := fun Y v x => ResQ B Y v x BB) ⟨es, hown, hflx ▸ hall⟩ (by omega) (fun _ _ h => h)
  have hel : es.length = R * C := by rw [hall.1, hflx]; simp [mmF]
  have hml : (mmF R b C LX LY).length = R * C := by simp [mmF]
  obtain ⟨av, cv, rfl⟩ := ownT_slice hown
  have z0 := Row.kept HQ0.out hPI.kept (by omega)
  have z1 := Row.kept HQ1.out hPI.kept (by omega)
  have z2 := Row.kept HQ2.out hPI.kept (by omega)
  have c0 := z0.cell 0
  have c1 := z1.cell 0
  have c3 := Boxed.cell hbx
  have bd : Below X.heap.size X X.drew := (Below.refl _ X).drew
  have bwd : Below w.heap.size w X.drew := hbX.trans (bd.mono hbX.size)
  have hsm := shapeM_any (HT1.out.sh.later bwd) (HT2.out.sh.later bwd) (by simp) (by simp)
  simp only [List.length_cons, List.length_nil, Nat.reduceAdd] at hsm
  have mkR : ∀ Y, Below X.heap.size X Y → Y.cell? ⟨B, 0, none⟩ = some (.slice a1 2 ca1) ∧ Y.cell? ⟨B + 1, 0, none⟩ = some (.slice (some ⟨g2, p2, none⟩) 2 ca2) ∧ Y.cell? ⟨B + 1 + 1 + 1, 0, none⟩ = some (.slice av es.length cv) ∧ Below X.heap.size X Y := fun Y h => ⟨(h.cell (World.block_lt_of_cell? _ _ c0)).trans c0, (h.cell (World.block_lt_of_cell? _ _ c1)).trans c1, (h.cell (World.block_lt_of_cell? _ _ c3)).trans c3, h⟩
  have HROW := Lib.hid hrow
  have HSM := Lib.hid hsm
  have HEL := Lib.hid hel
  have HML := Lib.hid hml
  clear hrow hsm hall hown hflx hel hml HX1 HX2
  gi_wp2_with fail
  refine wpIn_mono (Q := fun e a' y => e = .normal ∧ ∃ u21 u22 u23 u24 u25 u26 u27 ad cap, a' = { tmps := #[.agg #[.slice a1 2 ca1, .slice (some ⟨f1, o1, none⟩) (R * b) cb1], .agg #[.slice (some ⟨g2, p2, none⟩) 2 ca2, .slice (some ⟨f2, o2, none⟩) (b * C) cb2], .pointer (some ⟨B, 0, none⟩), .pointer (some ⟨B + 1, 0, none⟩), .pointer (some ⟨B + 1 + 1, 0, none⟩), .pointer (some ⟨B + 1 + 1 + 1, 0, none⟩), undef, undef, .agg #[.slice a1 2 ca1, .slice (some ⟨f1, o1, none⟩) (R * b) cb1], .func (.func 141) #[] #[.pointer (some ⟨B + 1 + 1 + 1 + 1, 0, none⟩), .pointer (some ⟨B + 1 + 1 + 1 + 1 + 1, 0, none⟩)], undef, undef, undef, undef, undef, undef, undef, undef, undef, undef, undef, u21, u22, u23, u24, u25, u26, u27], defers := [{ target := .collected D, args := #[] }] } ∧ Row y (B + 1 + 1) 26 #[.slice ad 2 cap, .slice av es.length cv] ∧ ResT B y (.agg #[.slice ad 2 cap, .slice av es.length cv]) [(R : Int), (C : Int)] (mmF R b C LX LY) BB ∧ Below B w y ∧ y.heap[D]? = some (.deferred (some []))) ?reg ?cont
  case reg =>
   refine wpIn_wide.2 ?_
   refine wp_region_L (S := fun Y => Y.cell? ⟨B, 0, none⟩ = some (.slice a1 2 ca1) ∧ Y.cell? ⟨B + 1, 0, none⟩ = some (.slice (some ⟨g2, p2, none⟩) 2 ca2) ∧ Y.cell? ⟨B + 1 + 1 + 1, 0, none⟩ = some (.slice av es.length cv) ∧ Below X.heap.size X Y) (z := 7) (by kernel_rfl) (mkR _ bd) (fun hHeld => ?_)
   refine todo [0, 1, 2, 3, 5] ?_
   iterate 5
    refine todoL (v := ?_) rfl (by kernel_rfl) (fun _ _ _ h => nomatch h.1) (by assumption) (Or.inl ⟨by rfl, ?_⟩) ?_
    rotate_left
    · intro w hSw; (try dsimp only at hSw); go_simp; (try with_reducible rfl)
    try simp only [Act.put, nA, nB, nC, nD, nE, nF]
   refine todone ?_
   refine wpAnyL_one (i := 4) (by kernel_rfl) rfl (fun K hK => ?sbr_4)
   go_simp
   refine (HSM.out).mono ?_
   rintro e w5 ⟨r5, rfl, hr5, hb5⟩
   have b5 : Below X.heap.size X w5 := bd.trans (hb5.mono (by simp))
   obtain ⟨ad5, cp5, rfl, RS5⟩ := hr5.slice
   have HRS := Lib.hid RS5
   clear hr5 RS5
   simp only [mmS, List.length_cons, List.length_nil, Nat.reduceAdd]
   go_simp
   refine hK.out _ _ (fun _ => mkR _ b5) (fun hHeld2 => ?mbr_4)
   clear hK K hHeld
   have hHeld := hHeld2 (by decide)
   clear hHeld2
   try simp only [Act.put, nA, nB, nC, nD, nE, nF]
   refine wpAnyL_one (i := 6) (by kernel_rfl) rfl (fun K hK => ?sbr_6)
   go_simp
   refine hK.out _ _ (fun _ => mkR _ b5) (fun hHeld2 => ?mbr_6)
   clear hK K hHeld
   have hHeld := hHeld2 (by decide)
   clear hHeld2
   try simp only [Act.put, nA, nB, nC, nD, nE, nF]
   have P2 := z2.later b5
   have bw5 : Below B w w5 := bX.trans (b5.mono (by omega))
   obtain ⟨u0, u1, e0, e1⟩ := P2.two
   refine wpAnyL_one (i := 7) (by kernel_rfl) rfl (fun K hK => ?sbr_7)
   go_simp
   refine hK.out _ _ (fun h => absurd rfl h) (fun _ => ?mbr_7)
   clear hK K
   try simp only [Act.put, nA, nB, nC, nD, nE, nF]
   refine wpAnyL_done (by kernel_rfl) ?_ _
   have hT : ResT B w5 (.agg #[.slice ad5 2 cp5, .slice av es.length cv]) [(R : Int), (C : Int)] (mmF R b C LX LY) BB := ⟨ad5, av, cp5, cv, by rw [HML.out, HEL.out]; rfl, HRS.out.1.mono (by simp; omega), by have h := HROW.out.later b5 (fun _ _ h => h.later b5); rw [HML.out]; rw [HEL.out] at h; exact h⟩
   have hsd := P2.set2 (.slice ad5 2 cp5) (.slice av es.length cv)
   refine ⟨rfl, _, _, _, _, _, _, _, ad5, cp5, rfl, hsd, hT.far P2 (by decide) (by decide) (by decide) (kept2 _ _), below_set2 bw5 (by omega) _ _, ?_⟩
   have hk5 : w5.heap[D]? = some (.deferred (some [])) := (b5.block D (lt_of_block hK)).trans hK
   exact (KeepsOthers.setCell _ _ _).same D _ ((KeepsOthers.setCell _ _ _).same D _ hk5 rfl) rfl
  case cont =>
   rintro e a' y ⟨rfl, u21, u22, u23, u24, u25, u26, u27, ad, cap, rfl, RY, hT, hbY, hD'⟩
   gi_wp2
   refine ⟨by simp, .inl ⟨_, _, rfl, run_takeDeferred hD', ?_⟩⟩
   have kk : ∀ o', KeepC y (y.putObj D o') := fun o' => KeepC.grown (grownBy_putObj' y D o') (fun r e => by cases e; exact ⟨_, hD', rfl⟩)
   have hc1 := (Row.keepC RY (kk (.deferred none))).cell 0
   have hc2 := (Row.keepC RY (kk (.deferred none))).cell 1
   simp at hc1 hc2
   refine ⟨.agg #[.slice ad 2 cap, .slice av es.length cv], by simp [results, Tryz.f57, go_sem, hc1, hc2], _, rfl, by rw [HB.out]; exact hT.keepC (kk _), ?_⟩
   rw [HB.out]
   exact hbY.trans (belowK_b (n₀ := B) (w := w) (by omega) _ D _ _ (by omega) hD' rfl rfl)
end
end Go.Proofs.YtengpgodmbfmkaaGreat
