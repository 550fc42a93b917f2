/-
  Package tensor as it landed: May, At.
-/
import Derived.Test.YtnhfjacifajdlaaGreatTCode4
namespace Go.Proofs.YtnhfjacifajdlaaGreat
open Go.RowKit Go.Shelf
attribute [local go_sem] Oper.semAt_some
set_option linter.unusedVariables false
set_option linter.unusedSimpArgs false

theorem mayT_make {s : List Int} {qs : List Q3} (h : makeC s qs.length ≠ 0) : mayT s qs = makeC s qs.length := by
  unfold makeC at h ⊢
  unfold mayT
  split
  · rfl
  · rename_i h1
    rw [if_neg h1] at h
    split
    · rfl
    · rename_i h2
      rw [if_neg h2] at h
      exact absurd rfl h
theorem mayT_all {s : List Int} {qs : List Q3} (h : makeC s qs.length = 0) : mayT s qs = if qs.all okQ = true then 0 else 6 := by
  unfold makeC at h
  unfold mayT
  split at h
  · rename_i h1; exact absurd h h1
  · rename_i h1
    rw [if_neg h1]
    split at h
    · cases h
    · rename_i h2
      rw [if_neg h2]
theorem mayRaw_any {n : Nat} {w : World} {v : Value} {q : Q3} (h : RawQ w v q) (h1 : q.num.length ≤ n) (h2 : q.den.length ≤ n) (hn : n ≤ 16777000) :
    Calls Tryz.prog 47 #[v] w fun e w' => e = .returned (.int .i64 (mayCode (okQ q))) ∧ Below w.heap.size w w' := by
  obtain ⟨ad, bd, ca, cb, rfl, A, D, _, _⟩ := h
  exact mayQ_any A D h1 h2 hn

set_option maxRecDepth 100000 in
set_option maxHeartbeats 8000000 in
theorem mayT7_any {n : Nat} {w : World} {v : Value} {s : List Int} {qs : List Q3} {a b : Option Addr} {ca cb : Nat} (T : TensQ w v s qs a ca b cb) (hs : s.length ≤ 1048576) (hq : qs.length ≤ 1048576) (hl : lensQ qs n) (hn : n ≤ 4000000) :
    Calls Tryz.prog 11 #[v] w fun e w' => e = .returned (.int .i64 (mayT s qs)) ∧ Below w.heap.size w w' := by
  obtain rfl := T.is
  obtain ⟨B, hB⟩ : ∃ B, w.heap.size = B := ⟨_, rfl⟩
  obtain ⟨W1, hW1⟩ : ∃ W1, w.alloc (.cells #[.slice a s.length ca, .slice b qs.length cb] 26) = W1 := ⟨_, rfl⟩
  obtain ⟨W2, hW2⟩ : ∃ W2, W1.alloc (.cells #[.int .i64 0] 27) = W2 := ⟨_, rfl⟩
  have s1 : W1.heap.size = B + 1 := by rw [← hW1, ← hB]; simp
  have s2 : W2.heap.size = B + 1 + 1 := by rw [← hW2, World.size_alloc, s1]
  have R0 : Row W2 B 26 #[.slice a s.length ca, .slice b qs.length cb] := by rw [← hW2, ← hW1, ← hB]; exact (Row.new _ _ _).alloc _
  have R1 : Row W2 (B + 1) 27 #[.int .i64 0] := by rw [← hW2, ← s1]; exact Row.new _ _ _
  have hb2 : Below B w W2 := by rw [← hW2, ← hW1]; exact ((Below.refl _ w).alloc (by omega) _).alloc (by simp; omega) _
  have T2 := T.later (by rw [hB]; exact hb2)
  obtain ⟨c0, c1, _, _⟩ := R0.two
  have hr := room_any T2.sh qs.length
  obtain ⟨c, hc⟩ : ∃ c, makeC s qs.length = c := ⟨_, rfl⟩
  rw [hc] at hr
  have HL := Lib.hid hl
  have HT := Lib.hid T
  have d1 := R1.cell 0
  have f1 := R1.free 0
  obtain ⟨n', hn'⟩ : ∃ n' : Nat, Hid (3 ≤ n') := ⟨3, Nat.le_refl 3⟩
  clear T T2 hl
  by_cases h0 : c = 0
  · subst h0
    have hmt := mayT_all hc
    rw [hmt]
    obtain ⟨dd, hdd⟩ : ∃ d : Int, (if qs.all okQ = true then 0 else 6) = d := ⟨_, rfl⟩
    rw [hdd]
    have HD := Lib.hid hdd
    clear hdd
    obtain ⟨es, hlim, hall⟩ := HT.out.el.limE
    have hsh : ShE es := shE_of hall (fun v x h => h.form)
    have hcap := HT.out.el.le
    have hel : es.length = qs.length := hall.1
    have HEL := Lib.hid hel
    have HA := Lib.hid hall
    have HC := Lib.hid hc
    rw [← hel] at hr hcap c1 R0 hq hW1 ⊢
    rw [hB] at hlim
    clear hall hmt hel hc
    refine (callsIn_wide (n := n')).1 ?_
    refine callsIn_of_wp_marks Tryz.func11 rfl trivial ?_ rfl
    simp only [Tryz.ntmps11, List.size_toArray, List.length_cons, List.length_nil, Nat.reduceAdd, Nat.reduceSub, Array.replicate_succ, Array.replicate_zero, List.push_toArray, List.append_toArray, List.nil_append, List.cons_append]
    gi_wp2_with fail
    refine wideCall (hr.mono ?_)
    rintro e w' ⟨rfl, rfl⟩
    gi_wp2_with fail
    refine wideCall ((elements_any _ _ _ _ _ _ _).mono ?_)
    rintro e w3 ⟨rfl, b3⟩
    gi_wp2_with fail
    refine wideCall ((allQ_any _ _ _ _).mono ?_)
    rintro e w' ⟨rfl, rfl⟩
    gi_wp2_with fail
    have s3 := b3.size
    obtain ⟨I, hI⟩ : ∃ I, w3.heap.size = I := ⟨_, rfl⟩
    obtain ⟨V, hV⟩ : ∃ V, w3.alloc (.cells #[.slice b es.length cb] 76) = V := ⟨_, rfl⟩
    have sV : V.heap.size = I + 1 := by rw [← hV, World.size_alloc, hI]
    have b4 : Below w3.heap.size w3 V := by rw [← hV]; exact (Below.refl _ _).alloc (Nat.le_refl _) _
    have d4 : Boxed V I 76 (.slice b es.length cb) := by rw [← hV, ← hI]; exact Boxed.new _ _ _
    have b2V : Below W2.heap.size W2 V := b3.trans (b4.mono s3)
    have e1 := R1.later b2V
    have e0 := R0.later b2V
    have hbV : Below B w V := hb2.trans (b2V.mono (by omega))
    have hlimV : LimE V b es B := hlim.below hbV
    simp only [hI, hV]
    have h3 : 3 ≤ n' := hn'
    clear hV
    refine wpIn_rangeFunc_ownH (F := Fence.wide) (n := n') rfl (by omega) (gf := 82) (lb := #[.pointer (some ⟨I, 0, none⟩)]) rfl trivial (enters_of Tryz.func82 (by kernel_rfl) rfl)
      (allQ_stops (n' - 1) I B b es cb (by omega) hcap V (by omega) (by omega) d4.cell hlimV hsh) belowK_t (belowK_b (by omega)) (Below.refl _ _) (fun _ => rfl)
      (fun (pre : List (Fin es.length)) X => Row X (B + 1) 27 #[.int .i64 0] ∧ (∀ x ∈ pre, okQ (qs[x.val]?.getD ⟨false, [], []⟩) = true) ∧ Below B w X ∧ I + 1 ≤ X.heap.size)
      (fun c pre X => c = .ret ∧ Row X (B + 1) 27 #[.int .i64 6] ∧ (∃ x ∈ pre, okQ (qs[x.val]?.getD ⟨false, [], []⟩) = false) ∧ Below B w X)
      (fun pre X Y row ⟨h1, h2, h3, h4⟩ hg hr => ⟨h1.keepC (KeepC.grown hg (fun r e => (hr r e).2)), h2, h3.grown hg (by have := h3.size; omega) (fun k e => by have := (hr k e).1; omega), Nat.le_trans h4 hg.size⟩)
      (fun c pre X Y row ⟨h0, h1, h2, h3⟩ hg hr => ⟨h0, h1.keepC (KeepC.grown hg (fun r e => (hr r e).2)), h2, h3.grown hg (by have := h3.size; omega) (fun k e => by have := (hr k e).1; omega)⟩)
      ⟨e1, (fun x h => by cases h), hbV, by omega⟩
      (fun (x : Fin es.length) a' X => ∃ p, I + 1 ≤ p ∧ Row X p 44 #[(es[x.val]?.getD dfE).a, (es[x.val]?.getD dfE).b, (es[x.val]?.getD dfE).c] ∧
        a' = { tmps := #[.agg #[.slice a s.length ca, .slice b es.length cb], .pointer (some ⟨B, 0, none⟩), .pointer (some ⟨B + 1, 0, none⟩), .int .i64 0, .pointer (some ⟨p, 0, none⟩), undef, .pointer (some ⟨B, 0, none⟩), .slice a s.length ca, .pointer (some ⟨B, 1, none⟩), .slice b es.length cb, .int .i64 es.length, .int .i64 0, .int .i64 0, .bool false, undef,
          .agg #[.slice a s.length ca, .slice b es.length cb], .slice b es.length cb, .func (.func 82) #[] #[.pointer (some ⟨I, 0, none⟩)], .agg #[(es[x.val]?.getD dfE).a, (es[x.val]?.getD dfE).b, (es[x.val]?.getD dfE).c], undef, undef, undef, undef, undef], defers := [] })
      (fun x a' _ X Y row ⟨p, h1, h2, h3⟩ hg hr => ⟨p, h1, h2.keepC (KeepC.grown hg (fun r e => (hr r e).2)), h3⟩)
      ?assign ?body ?done ?stop
    case assign =>
      rintro l pre ⟨k, hk⟩ X K ⟨h1, h2, h3, h4⟩ hK
      obtain ⟨z1, z2, z3, z4, z5, z6, z7, he⟩ := hsh k hk
      have hs3 := h3.size
      have hbX : Below X.heap.size X (X.alloc (.cells #[.bool z1, .slice z2 z3 z4, .slice z5 z6 z7] 44)) := (Below.refl _ _).alloc (Nat.le_refl _) _
      have kk := KeepC.below hbX
      have HK := Lib.hid hK
      simp only [ratAt]
      rw [he]
      simp only
      clear hK
      gi_wp2
      refine HK.out _ _ ⟨by simp, fun q o _ ho _ => (Below.heap_alloc _ _ _ (lt_of_block ho)).trans ho⟩ (hbX.mono (by omega)) ⟨h1.keepC kk, h2, h3.trans (hbX.mono (by omega)), by simp; omega⟩ ⟨X.heap.size, h4, ?_, ?_⟩
      · simp only [he]; exact Row.new _ _ _
      · simp only [he]
    case body =>
      rintro l pre ⟨k, hk⟩ a' X hl hrec ⟨h1, h2, h3, h4⟩ ⟨p, hp, hR, rfl⟩ hlt
      obtain ⟨z1, z2, z3, z4, z5, z6, z7, he⟩ := hsh k hk
      simp only at hR ⊢
      rw [he] at hR ⊢
      simp only at hR ⊢
      have hkq : k < qs.length := by rw [← HEL.out]; exact hk
      have hqk : qs[k]? = some qs[k] := List.getElem?_eq_getElem hkq
      obtain ⟨q, hq2⟩ : ∃ q, qs[k] = q := ⟨_, rfl⟩
      rw [hq2] at hqk
      have hek : es[k]? = some es[k] := List.getElem?_eq_getElem hk
      have hraw := HA.out.2 k _ _ hek hqk
      have e2 : es[k] = ⟨.bool z1, .slice z2 z3 z4, .slice z5 z6 z7⟩ := by rw [hek] at he; exact he
      rw [e2] at hraw
      have hmem := List.mem_of_getElem? hqk
      have hlq := HL.out q hmem
      have hgd : qs[k]?.getD ⟨false, [], []⟩ = q := by rw [hqk]; rfl
      obtain ⟨g0, g1, g2, _, _, _⟩ := hR.three
      have hs3 := h3.size
      have hrX := hraw.later (hB.symm ▸ h3 : Below w.heap.size w X)
      gi_wp2_with fail
      refine roundCall ((mayRaw_any hrX hlq.1 hlq.2 (by omega)).mono ?_)
      rintro e w5 ⟨rfl, b5⟩
      have s5 := b5.size
      have R5 := h1.later b5
      have f5 := R5.free 0
      have d5 := R5.cell 0
      by_cases hok : okQ q = true
      · rw [hok]
        have hm : mayCode true = 0 := rfl
        rw [hm]
        gi_wp2
        refine ⟨keepsFrom_below b5, b5.mono (by omega), R5, fun x hx => ?_, h3.trans (b5.mono (by omega)), by omega⟩
        rcases List.mem_append.1 hx with hx | hx
        · exact h2 x hx
        · simp at hx
          subst hx
          rw [hgd]
          exact hok
      · have hok2 : okQ q = false := by simpa using hok
        rw [hok2]
        have hm : mayCode false = 6 := rfl
        rw [hm]
        have R6 : Row (w5.setCell ⟨B + 1, 0, none⟩ (.int .i64 6)) (B + 1) 27 #[.int .i64 6] := R5.set 0 _
        gi_wp2
        refine ⟨keepsFrom_set (keepsFrom_below b5) _ _, rfl, R6, ⟨_, List.mem_append_right _ (List.mem_singleton.2 rfl), ?_⟩, (h3.trans (b5.mono (by omega))).setCell (by show B ≤ B + 1; omega) _⟩
        show okQ (qs[k]?.getD ⟨false, [], []⟩) = false
        rw [hgd]
        exact hok2
    case done =>
      rintro D ys X hD hup ⟨h1, h2, h3, h4⟩ hK
      have hall : qs.all okQ = true := by
        rw [List.all_eq_true]
        intro q hq
        obtain ⟨k, hk, rfl⟩ := List.mem_iff_getElem.1 hq
        have hk2 : k < es.length := by rw [HEL.out]; exact hk
        have hm : (⟨k, hk2⟩ : Fin es.length) ∈ ys := by
          have h5 : k ∈ ys.map Fin.val := by rw [show ys.map Fin.val = List.range es.length from hup]; exact List.mem_range.2 hk2
          obtain ⟨x, hx, hv⟩ := List.mem_map.1 h5
          have : x = ⟨k, hk2⟩ := Fin.ext hv
          rw [← this]
          exact hx
        have h5 := h2 _ hm
        simp only at h5
        rw [List.getElem?_eq_getElem hk] at h5
        exact h5
      have c5 := h1.cell 0
      have f5 := h1.free 0
      gi_wp2
      have hK' := (KeepsOthers.setCell X ⟨B + 1, 0, none⟩ (.int .i64 0)).same D _ hK rfl
      refine ⟨by simp, .inl ⟨_, _, rfl, run_takeDeferred hK', ?_⟩⟩
      have hc5 := cell_kept ((h1.set 0 (.int .i64 0)).cell 0) (grownBy_putObj' _ D (.deferred none)) (fun r e => by cases e; exact ⟨_, hK', rfl⟩)
      simp at hc5
      refine ⟨.int .i64 0, by simp [results, Tryz.f11, go_sem, hc5], by rw [← HD.out, if_pos hall], ?_⟩
      rw [hB]
      exact (h3.setCell (p := ⟨B + 1, 0, none⟩) (by show B ≤ B + 1; omega) _).trans (belowK_b (n₀ := B) (w := w) (by omega) _ D _ _ (by omega) hK' rfl rfl)
    case stop =>
      rintro D c pre X hD ⟨k, hk, hup⟩ ⟨rfl, h1, ⟨x, hx, hbad⟩, h3⟩ hK
      have hall : ¬ qs.all okQ = true := by
        intro h
        rw [List.all_eq_true] at h
        have hk2 : x.val < qs.length := by rw [← HEL.out]; exact x.isLt
        rw [List.getElem?_eq_getElem hk2] at hbad
        have := h _ (List.getElem_mem hk2)
        simp only [Option.getD_some] at hbad
        rw [hbad] at this
        cases this
      gi_wp2
      refine ⟨by simp, .inl ⟨_, _, rfl, run_takeDeferred hK, ?_⟩⟩
      have hc5 := cell_kept (h1.cell 0) (grownBy_putObj' _ D (.deferred none)) (fun r e => by cases e; exact ⟨_, hK, rfl⟩)
      simp at hc5
      refine ⟨.int .i64 6, by simp [results, Tryz.f11, go_sem, hc5], by rw [← HD.out, if_neg hall], ?_⟩
      rw [hB]
      exact h3.trans (belowK_b (n₀ := B) (w := w) (by omega) _ D _ _ (by omega) hK rfl rfl)
  · have hn : (c != 0) = true := by simp [h0]
    rw [mayT_make (by rw [hc]; exact h0), hc]
    have R3 : Row (W2.setCell ⟨B + 1, 0, none⟩ (.int .i64 c)) (B + 1) 27 #[.int .i64 c] := R1.set 0 _
    have y0 := R3.cell 0
    go_enter Tryz.func11, Tryz.ntmps11
    go_wp2_with (go_at_call 44; refine hr.mono ?_; rintro e w1 ⟨rfl, rfl⟩)
    simp at y0
    refine bodyPost_ret (v := .int .i64 c) (by simp [results, Tryz.results11, go_sem, y0]) rfl ⟨rfl, ?_⟩
    rw [hB]
    exact hb2.setCell (p := ⟨B + 1, 0, none⟩) (by show B ≤ B + 1; omega) _
end Go.Proofs.YtnhfjacifajdlaaGreat
