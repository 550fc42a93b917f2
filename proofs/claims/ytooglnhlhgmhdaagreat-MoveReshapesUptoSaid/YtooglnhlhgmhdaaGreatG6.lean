/-
  Layer 9's reference: count, Reshape.
-/
import Derived.Test.YtooglnhlhgmhdaaGreatG5
namespace Go.Proofs.YtooglnhlhgmhdaaGreat
set_option maxRecDepth 100000
section
open Go.RowKit Go.Shelf
attribute [local go_sem] Oper.semAt_some
set_option linter.unusedVariables false
set_option linter.unusedSimpArgs false
theorem ResT.keepC {base m : Nat} {w w' : World} {v : Value} {s : List Int} {L : List Rat} (h : ResT base w v s L m) (k : KeepC w w') : ResT base w' v s L m := by
  obtain ⟨a, b, ca, cb, e, RS, es, hown, hall⟩ := h
  exact ⟨a, b, ca, cb, e, RS.keepC k, es, hown.keepC k, hall.imp fun v x _ h => h.keepC k⟩
set_option maxRecDepth 100000 in
set_option maxHeartbeats 4000000 in
theorem slice_any {n : Nat} {w : World} {v : Value} {s t : List Int} {qs : List Q3} {a b ad : Option Addr} {ca cb cd : Nat} (T : TensQ w v s qs a ca b cb) (D : ArgS w (.slice ad t.length cd) t ad cd) (nd : ad = none → cd = 0) (hs : s.length ≤ 1048576) (ht : t.length ≤ 8000000) (hq : qs.length ≤ 1048576) (hl : lensQ qs n) (hn : n ≤ 3000000) :
    Calls Tryz.prog 24 #[v, .slice ad t.length cd] w fun e w' => One w.heap.size w' e (orL [mayT s qs, slC s t]) (slS s t) (fillV (slS s t) (fun xs => elV s (qs.map Q3.rat) ((List.range s.length).map fun i : Nat => IntKind.i64.wrap (xs.getD i 0 + fstP t i)))) (n + 2) ∧ Below w.heap.size w w' := by
  have HT := Lib.hid T
  have HD := Lib.hid D
  have HND := Lib.hid nd
  have HL := Lib.hid hl
  obtain rfl := T.is
  obtain ⟨W, hW⟩ : ∃ W, (((w.alloc (.cells #[.slice a s.length ca, .slice b qs.length cb] 26)).alloc (.cells #[.slice ad t.length cd] 22)).alloc (.cells #[.slice none 0 0, .slice none 0 0] 26)) = W := ⟨_, rfl⟩
  have R0 : Row W (w.heap.size) 26 #[.slice a s.length ca, .slice b qs.length cb] := by rw [← hW]; have h := Row.new w 26 #[.slice a s.length ca, .slice b qs.length cb]; (try simp only [World.size_alloc] at h); exact ((h.alloc _).alloc _)
  have R1 : Row W (w.heap.size + 1) 22 #[.slice ad t.length cd] := by rw [← hW]; have h := Row.new (w.alloc (.cells #[.slice a s.length ca, .slice b qs.length cb] 26)) 22 #[.slice ad t.length cd]; (try simp only [World.size_alloc] at h); exact (h.alloc _)
  have R2 : Row W (w.heap.size + 1 + 1) 26 #[.slice none 0 0, .slice none 0 0] := by rw [← hW]; have h := Row.new ((w.alloc (.cells #[.slice a s.length ca, .slice b qs.length cb] 26)).alloc (.cells #[.slice ad t.length cd] 22)) 26 #[.slice none 0 0, .slice none 0 0]; (try simp only [World.size_alloc] at h); exact h
  have hBW : Below w.heap.size w W := by rw [← hW]; exact ((((Below.refl _ _).alloc (by (try simp) <;> omega) _).alloc (by (try simp) <;> omega) _).alloc (by (try simp) <;> omega) _)
  have hsW : W.heap.size = w.heap.size + 1 + 1 + 1 := by rw [← hW]; simp
  have hm := fun (X : World) (hX : Below W.heap.size W X) => mayT7_any (HT.out.later (hBW.trans (hX.mono (by omega)))) (by omega) (by omega) HL.out (by omega)
  obtain ⟨m, hmm⟩ : ∃ m, mayT s qs = m := ⟨_, rfl⟩
  have hp := fun (X : World) (hX : Below W.heap.size W X) => mayCuts_any (HT.out.later (hBW.trans (hX.mono (by omega)))).sh (HD.out.later (hBW.trans (hX.mono (by omega)))) (by omega) (by omega)
  obtain ⟨pc, hpe⟩ : ∃ c, slC s t = c := ⟨_, rfl⟩
  have Hp := Lib.hid hpe
  rw [hpe] at hp
  rw [hmm] at hm
  have mkS : ∀ X, Below W.heap.size W X → X.cell? ⟨w.heap.size, 0, none⟩ = some (.slice a s.length ca) ∧ X.cell? ⟨w.heap.size, 1, none⟩ = some (.slice b qs.length cb) ∧ X.cell? ⟨w.heap.size + 1, 0, none⟩ = some (.slice ad t.length cd) := fun X h => by
    obtain ⟨x0, x1, _⟩ := (R0.later h).two
    exact ⟨x0, x1, (R1.later h).cell 0⟩
  have B0 : Below W.heap.size W W.drew := (Below.refl _ W).drew
  obtain ⟨LR, hLR⟩ : ∃ L, (fillV (slS s t) (fun xs => elV s (qs.map Q3.rat) ((List.range s.length).map fun i : Nat => IntKind.i64.wrap (xs.getD i 0 + fstP t i)))) = L := ⟨_, rfl⟩
  have HMM := Lib.hid hmm
  have HLR := Lib.hid hLR
  rw [hmm, hpe, hLR]
  obtain ⟨c, hc⟩ : ∃ c, orL [m, pc] = c := ⟨_, rfl⟩
  have HC := Lib.hid hc
  rw [hc]
  clear T D nd hmm hpe hLR hc hl
  obtain ⟨n', hn'⟩ : ∃ n' : Nat, Hid (3 ≤ n') := ⟨3, Nat.le_refl 3⟩
  refine (callsIn_wide (n := n')).1 ?_
  refine callsIn_of_wp_marks Tryz.func24 rfl trivial ?_ rfl
  simp only [Tryz.ntmps24, List.size_toArray, List.length_cons, List.length_nil, Nat.reduceAdd, Nat.reduceSub, Array.replicate_succ, Array.replicate_zero, List.push_toArray, List.append_toArray, List.nil_append, List.cons_append]
  gi_wp2_with fail
  (try rw [hW])
  clear hW
  refine wpIn_mono (Q := fun e a' y => ∃ u, e = .normal ∧ a' = { tmps := #[.agg #[.slice a s.length ca, .slice b qs.length cb], .slice ad t.length cd, .pointer (some ⟨w.heap.size, 0, none⟩), .pointer (some ⟨w.heap.size + 1, 0, none⟩), .pointer (some ⟨w.heap.size + 1 + 1, 0, none⟩), .int .i64 0,
      .int .i64 c, undef, undef, undef, .agg #[.slice a s.length ca, .slice b qs.length cb], .int .i64 m, .pointer (some ⟨w.heap.size, 0, none⟩), .slice a s.length ca, .slice ad t.length cd, .int .i64 pc, u, .int .i64 c, undef, undef, undef, undef, undef, undef, undef, undef, undef, undef, undef, undef, undef, undef, undef, undef, undef, undef, undef, undef, undef, undef], defers := [] } ∧ Below W.heap.size W y) ?reg ?cont
  case reg =>
   refine wpIn_region_L (fun X => X.cell? ⟨w.heap.size, 0, none⟩ = some (.slice a s.length ca) ∧ X.cell? ⟨w.heap.size, 1, none⟩ = some (.slice b qs.length cb) ∧ X.cell? ⟨w.heap.size + 1, 0, none⟩ = some (.slice ad t.length cd)) [] (by kernel_rfl) (mkS _ B0) (fun hHeld => ?_)
   refine wpAnyInL_take (i := 0) (v := ?va0) [1, 5, 6, 7, 8] rfl rfl (by kernel_rfl) (by kernel_rfl) (by kernel_rfl) (by kernel_rfl) (by kernel_rfl) (by kernel_rfl) (fun _ _ _ h => by obtain ⟨_, h, _⟩ := h; cases h) (Or.inl ⟨by rfl, ?ha0⟩) (fun _ => rfl) (by assumption) ?ra0
   case ha0 =>
     intro w hSw
     try dsimp only at hSw
     go_simp
     try with_reducible rfl
   try simp only [Act.put, List.setIfInBounds_toArray, List.set_cons_zero, List.set_cons_succ]
   refine wpAnyInL_take (i := 2) (v := ?va2) [3, 5, 6, 7, 8] rfl rfl (by kernel_rfl) (by kernel_rfl) (by kernel_rfl) (by kernel_rfl) (by kernel_rfl) (by kernel_rfl) (fun _ _ _ h => by obtain ⟨_, h, _⟩ := h; cases h) (Or.inl ⟨by rfl, ?ha2⟩) (fun _ => rfl) (by assumption) ?ra2
   case ha2 =>
     intro w hSw
     try dsimp only at hSw
     go_simp
     try with_reducible rfl
   try simp only [Act.put, List.setIfInBounds_toArray, List.set_cons_zero, List.set_cons_succ]
   refine wpAnyInL_take (i := 3) (v := ?va3) [5, 6, 7, 8] rfl rfl (by kernel_rfl) (by kernel_rfl) (by kernel_rfl) (by kernel_rfl) (by kernel_rfl) (by kernel_rfl) (fun _ _ _ h => by obtain ⟨_, h, _⟩ := h; cases h) (Or.inl ⟨by rfl, ?ha3⟩) (fun _ => rfl) (by assumption) ?ra3
   case ha3 =>
     intro w hSw
     try dsimp only at hSw
     go_simp
     try with_reducible rfl
   try simp only [Act.put, List.setIfInBounds_toArray, List.set_cons_zero, List.set_cons_succ]
   refine wpAnyInL_take (i := 4) (v := ?va4) [5, 6, 7, 8] rfl rfl (by kernel_rfl) (by kernel_rfl) (by kernel_rfl) (by kernel_rfl) (by kernel_rfl) (by kernel_rfl) (fun _ _ _ h => by obtain ⟨_, h, _⟩ := h; cases h) (Or.inl ⟨by rfl, ?ha4⟩) (fun _ => rfl) (by assumption) ?ra4
   case ha4 =>
     intro w hSw
     try dsimp only at hSw
     go_simp
     try with_reducible rfl
   try simp only [Act.put, List.setIfInBounds_toArray, List.set_cons_zero, List.set_cons_succ]
   refine wpAnyInL_one (i := 1) (by kernel_rfl) rfl (fun K hK => ?o1)
   go_simp
   refine wideCallS ((hm _ B0).mono ?_)
   rintro e y1 ⟨rfl, hy⟩
   have B1 : Below W.heap.size W y1 := B0.trans (hy.mono B0.size)
   clear hy
   go_simp
   refine hK.out _ _ (fun _ => mkS _ B1) (fun hHeld2 => ?p1)
   clear hK K hHeld
   have hHeld := hHeld2 (by decide)
   clear hHeld2
   try simp only [Act.put, List.setIfInBounds_toArray, List.set_cons_zero, List.set_cons_succ]
   refine wpAnyInL_one (i := 5) (by kernel_rfl) rfl (fun K hK => ?o5)
   go_simp
   refine wideCallS ((hp _ B1).mono ?_)
   rintro e y2 ⟨rfl, hy⟩
   have B2 : Below W.heap.size W y2 := B1.trans (hy.mono B1.size)
   clear hy
   go_simp
   refine hK.out _ _ (fun _ => mkS _ B2) (fun hHeld2 => ?p5)
   clear hK K hHeld
   have hHeld := hHeld2 (by decide)
   clear hHeld2
   try simp only [Act.put, List.setIfInBounds_toArray, List.set_cons_zero, List.set_cons_succ]
   have z2 := B2.size
   have A2 : Below W.heap.size W (y2.alloc (.cells #[.int .i64 m, .int .i64 pc] 27)) := B2.alloc (by omega) _
   refine wpAnyInL_one (i := 6) (by kernel_rfl) rfl (fun K hK => ?o6)
   go_simp
   refine hK.out _ _ (fun _ => mkS _ A2) (fun hHeld2 => ?p6)
   clear hK K hHeld
   have hHeld := hHeld2 (by decide)
   clear hHeld2
   try simp only [Act.put, List.setIfInBounds_toArray, List.set_cons_zero, List.set_cons_succ]
   refine wpAnyInL_one (i := 7) (by kernel_rfl) rfl (fun K hK => ?o7)
   go_simp
   refine wideCallS ((or_any (xs := [m, pc]) (b := y2.heap.size) (fun k hk => by
    have R := Row.new y2 27 #[.int .i64 m, .int .i64 pc]
    simp only [List.length_cons, List.length_nil] at hk
    by_cases h0 : k = 0
    · subst h0; exact R.cell 0
    by_cases h1 : k = 1
    · subst h1; exact R.cell 1
    · omega) (by simp)).mono ?_)
   rintro e y3 ⟨rfl, rfl⟩
   go_simp
   refine hK.out _ _ (fun _ => mkS _ A2) (fun hHeld2 => ?p7)
   clear hK K hHeld
   have hHeld := hHeld2 (by decide)
   clear hHeld2
   try simp only [Act.put, List.setIfInBounds_toArray, List.set_cons_zero, List.set_cons_succ]
   rw [HC.out]
   refine wpAnyInL_one (i := 8) (by kernel_rfl) rfl (fun K hK => ?o8)
   go_simp
   refine hK.out _ _ (fun _ => mkS _ A2) (fun hHeld2 => ?p8)
   clear hK K hHeld
   have hHeld := hHeld2 (by decide)
   clear hHeld2
   try simp only [Act.put, List.setIfInBounds_toArray, List.set_cons_zero, List.set_cons_succ]
   refine wpAnyInL_done (by kernel_rfl) ?_ _
   exact ⟨_, rfl, rfl, A2⟩
  rintro e a' y ⟨u, rfl, rfl, AY⟩
  have X0 := R0.later AY
  have P1 := R2.later AY
  have X1 := R1.later AY
  obtain ⟨x0, x1, _⟩ := X0.two
  have x2 := X1.cell 0
  have s2 := AY.size
  have hB2 : Below w.heap.size w y := hBW.trans (AY.mono (by omega))
  have hmf : ∀ (fn : Fn) (first cap : Array Value) (w : World), (Instr.makeFunc fn first cap).run Tryz.prog w = .ok (.func fn first cap) w := fun _ _ _ _ => rfl
  by_cases h0 : c = 0
  · subst h0
    obtain ⟨hm0, hc0⟩ := or0 HC.out
    have hp0 := or1 hc0
    rw [← Hp.out] at hp0
    rw [← HMM.out] at hm0
    have okS := mayC_zero.1 (mayT_rank hm0)
    have hrk := okS.rank
    obtain ⟨htl, hin⟩ := slC_is hp0
    have okP := slS_ok hp0 okS
    have TY := HT.out.later hB2
    have DY := HD.out.later hB2
    have hcl := cloneS_any TY.sh TY.nila (by omega)
    clear mkS
    gi_wp2_with fail
    refine wideCallS (hcl.mono ?_)
    rintro e W3 ⟨r3, rfl, RS3, b3⟩
    obtain ⟨a3, c3, rfl, I3, hc3, n3, w3⟩ := RS3.idx
    have s3 := b3.size
    obtain ⟨M, hM⟩ : ∃ M, s.length = M := ⟨_, rfl⟩
    obtain ⟨By, hBy⟩ : ∃ B, y.heap.size = B := ⟨_, rfl⟩
    obtain ⟨G, hG⟩ : ∃ G, W3.heap.size = G := ⟨_, rfl⟩
    rw [hBy] at I3
    rw [hM] at hc3
    obtain ⟨U, hU⟩ : ∃ U, W3.alloc (.cells #[.slice a3 M c3] 23) = U := ⟨_, rfl⟩
    have R7 : Row U G 23 #[.slice a3 M c3] := by rw [← hU, ← hG]; exact Row.new _ _ _
    have bU : Below W3.heap.size W3 U := by rw [← hU]; exact (Below.refl _ _).alloc (Nat.le_refl _) _
    have sU : U.heap.size = G + 1 := by rw [← hU, ← hG]; simp
    have HM := Lib.hid hM
    have HTL : Hid (t.length = 2 * M) := Lib.hid (by rw [← hM]; exact htl)
    have HCL := HTL
    have hyU : Below y.heap.size y U := b3.trans (bU.mono s3)
    have DU := DY.later hyU
    have HX0 := Lib.hid X0
    have HX1 := Lib.hid X1
    have HTY := Lib.hid TY
    have HDY := Lib.hid DY
    have HP1 := Lib.hid P1
    have HOKP := Lib.hid okP
    have HIN := Lib.hid hin
    have hM4 : M ≤ 4 := by omega
    have ht8 : t.length ≤ 8 := by omega
    have HCB : Hid (t ≠ [] → ∀ x, ad = some x → x.block < By) := Lib.hid (fun h1 x h2 => by have := HD.out.lim.lt h1 x h2; omega)
    have x2' := (HX1.out.later hyU).cell 0
    rw [hM]
    have HI := Lib.hid I3
    clear hM htl X0 X1 TY P1 okP hin hcl x0 x1 x2 hp0 RS3
    gi_wp2_with fail
    (try rw [hU])
    (try rw [hG])
    refine wideCallS ((pairs_any _ _ _ _).mono ?_)
    rintro e w' ⟨rfl, rfl⟩
    gi_wp2_with fail
    obtain ⟨V, hV⟩ : ∃ V, U.alloc (.cells #[.slice ad t.length cd] 22) = V := ⟨_, rfl⟩
    have sV : V.heap.size = G + 1 + 1 := by rw [← hV, World.size_alloc, sU]
    have b4 : Below U.heap.size U V := by rw [← hV]; exact (Below.refl _ _).alloc (Nat.le_refl _) _
    have d4 : Boxed V (G + 1) 22 (.slice ad t.length cd) := by rw [← hV, ← sU]; exact Boxed.new _ _ _
    have q0 := R7.later b4
    have q2 := (I3.later bU).later b4
    have hbV : Below By y V := by rw [← hBy]; exact hyU.trans (b4.mono (by omega))
    have hlimV : LimS V ad t := DU.lim.later b4
    (try rw [sU])
    (try rw [hV])
    have h3 : 3 ≤ n' := hn'
    clear hV hU R7 I3 DU DY x2'
    refine wpIn_rangeFunc_ownH (F := Fence.wide) (n := n') rfl (by omega) (gf := 95) (lb := #[.pointer (some ⟨G + 1, 0, none⟩)]) rfl trivial (enters_of Tryz.func95 (by kernel_rfl) rfl)
      (pairs_stops (n' - 1) (G + 1) (By) M ad t cd (by omega) HCL.out HCB.out V (by omega) d4.cell hlimV) KpS.trans (KpS.b (by omega) (by omega)) (Below.refl _ _) (fun _ => rfl)
      (fun (pre : List (Fin M)) X => IdxP By X a3 c3 (stpOf (fun i z => IntKind.i64.wrap (sndP t i - fstP t i)) s (pre.map Fin.val)) ∧ Row X G 23 #[.slice a3 M c3] ∧ Below By y X ∧ G + 1 + 1 ≤ X.heap.size)
      (fun c pre X => False)
      (fun pre X Y row ⟨e1, e2, e4, e5⟩ hg hr => have kk := KeepC.grown hg (fun r e => (hr r e).2); ⟨e1.keepC kk, e2.keepC kk, e4.grown hg (by have := e4.size; omega) (fun k e => by have := (hr k e).1; omega), Nat.le_trans e5 hg.size⟩)
      (fun _ _ _ _ _ hs _ _ => hs)
      ⟨q2, q0, hbV, by omega⟩
      (fun (x : Fin M) a' X => ∃ p, G + 1 + 1 ≤ p ∧ Row X p 89 #[.int .i64 (t[2 * x.val]?.getD 0), .int .i64 (t[2 * x.val + 1]?.getD 0)] ∧
        a' = { tmps := #[.agg #[.slice a M ca, .slice b qs.length cb], .slice ad t.length cd, .pointer (some ⟨w.heap.size, 0, none⟩), .pointer (some ⟨w.heap.size + 1, 0, none⟩), .pointer (some ⟨w.heap.size + 1 + 1, 0, none⟩), .int .i64 0, .int .i64 0, .pointer (some ⟨G, 0, none⟩), .int .i64 (x.val : Int), .pointer (some ⟨p, 0, none⟩), .agg #[.slice a M ca, .slice b qs.length cb], .int .i64 m, .pointer (some ⟨w.heap.size, 0, none⟩), .slice a M ca, .slice ad t.length cd, .int .i64 pc, u, .int .i64 0, .int .i64 0, .bool false, undef, undef, .pointer (some ⟨w.heap.size, 0, none⟩), .slice a M ca, .slice a3 M c3, .slice ad t.length cd, .func (.func 95) #[] #[.pointer (some ⟨G + 1, 0, none⟩)], .int .i64 (x.val : Int), .agg #[.int .i64 (t[2 * x.val]?.getD 0), .int .i64 (t[2 * x.val + 1]?.getD 0)], undef, undef, undef, undef, undef, undef, undef, undef, undef, undef, undef], defers := [] })
      (fun x a' _ X Y row ⟨p, h1, h2, h3⟩ hg hr => ⟨p, h1, h2.keepC (KeepC.grown hg (fun r e => (hr r e).2)), h3⟩)
      ?assign ?body ?done ?stop
    case assign =>
      rintro l pre ⟨k, hk⟩ X K ⟨e1, e2, e4, hsI⟩ hK
      obtain ⟨z0, hz0⟩ : ∃ z0, t[2 * k]?.getD 0 = z0 := ⟨_, rfl⟩
      obtain ⟨z1, hz1⟩ : ∃ z1, t[2 * k + 1]?.getD 0 = z1 := ⟨_, rfl⟩
      have hbX : Below X.heap.size X (X.alloc (.cells #[.int .i64 z0, .int .i64 z1] 89)) := (Below.refl _ _).alloc (Nat.le_refl _) _
      have kk := KeepC.below hbX
      have HK := Lib.hid hK
      have HZ0 := Lib.hid hz0
      have HZ1 := Lib.hid hz1
      simp only [pairV]
      rw [hz0, hz1]
      clear hK hz0 hz1
      gi_wp2
      refine HK.out _ _ ⟨by simp, fun q o _ ho _ => (Below.heap_alloc _ _ _ (lt_of_block ho)).trans ho⟩ ⟨hbX.mono (by omega), Below.heap_alloc _ _ _ (by omega)⟩ ⟨e1.keepC kk, e2.keepC kk, e4.trans (hbX.mono (by have := e4.size; omega)), by simp; omega⟩ ⟨X.heap.size, hsI, ?_, ?_⟩
      · simp only [HZ0.out, HZ1.out]; exact Row.new _ _ _
      · simp only [HZ0.out, HZ1.out]
    case body =>
      rintro l pre ⟨k, hk⟩ a' X hl hrec ⟨e1, e2, e4, hsI⟩ ⟨pp, hp, hR, rfl⟩ hlt
      simp only at hR ⊢
      have hln := stpOf_len (fun i z => IntKind.i64.wrap (sndP t i - fstP t i)) s (pre.map Fin.val)
      obtain ⟨zs, hzs⟩ : ∃ zs, stpOf (fun i z => IntKind.i64.wrap (sndP t i - fstP t i)) s (pre.map Fin.val) = zs := ⟨_, rfl⟩
      rw [hzs] at e1 hln
      have hnx : stpOf (fun i z => IntKind.i64.wrap (sndP t i - fstP t i)) s (pre.map Fin.val ++ [k]) = zs.set k (IntKind.i64.wrap (sndP t k - fstP t k)) := by rw [stpOf_snoc, hzs]; rfl
      obtain ⟨z0, hz0⟩ : ∃ z0, t[2 * k]?.getD 0 = z0 := ⟨_, rfl⟩
      obtain ⟨z1, hz1⟩ : ∃ z1, t[2 * k + 1]?.getD 0 = z1 := ⟨_, rfl⟩
      have hf0 : fstP t k = z0 := hz0
      have hf1 : sndP t k = z1 := hz1
      rw [hf0, hf1] at hnx
      rw [hz0, hz1] at hR
      rw [hz0, hz1]
      obtain ⟨g, rfl, hgB, hmx, hP⟩ := e1.at (i := k) (by rw [hln, HM.out]; exact hk)
      have hgl := hP.lt
      have hc := hP.cell k (by rw [hln, HM.out]; exact hk)
      have hf := hP.free k
      obtain ⟨yv, hy⟩ : ∃ y, IntKind.i64.wrap (z1 - z0) = y := ⟨_, rfl⟩
      rw [hy] at hnx
      have HNX := Lib.hid hnx
      have ci := e2.cell 0
      have cp0 := hR.cell 0
      have cp1 := hR.cell 1
      have hkI : (k : Int) < (M : Int) := by omega
      have hgG : g < G := by have := HI.out.lt; omega
      have HP := Lib.hid hP
      have E2 := Lib.hid e2
      clear hnx hzs hz0 hz1 hf0 hf1 e1 hP e2
      gi_wp2
      refine ⟨keepsFrom_set (keepsFrom_below (Below.refl _ _)) _ _, ⟨setBelow (Below.refl _ _) hgB _ _, Below.heap_setCell _ _ _ _ (by show G + 1 ≠ g; omega)⟩, ?_, E2.out.far (by show G ≠ g; omega) _, setBelow e4 hgB _ _, Nat.le_trans hsI (setBelow (B := 0) (Below.refl _ X) (Nat.zero_le g) k (.int .i64 yv)).size⟩
      rw [List.map_append, List.map_cons, List.map_nil, HNX.out]
      exact .inr ⟨g, rfl, hgB, hmx, PartS.set HP.out k (by rw [hln, HM.out]; exact hk) yv⟩
    case done =>
      rintro D ks X hD hup ⟨e1, e2, e4, hsI⟩ hK
      rw [show ks.map Fin.val = List.range M from hup, stpOf_all _ HM.out] at e1
      have hzs : ((List.range M).map fun i : Nat => IntKind.i64.wrap (sndP t i - fstP t i)) = slS s t := by
        unfold slS
        rw [HM.out]
        refine List.map_congr_left fun i hi => ?_
        have h1 := HIN.out i (by rw [HM.out]; exact List.mem_range.1 hi)
        have h2 := getD_le_prod okS.pos (k := i) (by rw [HM.out]; exact List.mem_range.1 hi)
        have h4 := okS.few
        exact wrap_i64 (by omega) (by omega)
      rw [hzs] at e1
      have hsl : (slS s t).length = M := by rw [slS_len, HM.out]
      have AZ := e1.res (okS_wid HOKP.out)
      obtain ⟨az, cz, A3, nz⟩ := AZ.arg2
      rw [hsl] at A3
      have e4' : Below y.heap.size y X := by rw [hBy]; exact e4
      have hbu := built_any (N := n + 2) (F := 62) (cap := #[.pointer (some ⟨w.heap.size + 1, 0, none⟩), .pointer (some ⟨w.heap.size, 0, none⟩)]) (f := fun xs => elV s (qs.map Q3.rat) ((List.range s.length).map fun i : Nat => IntKind.i64.wrap (xs.getD i 0 + fstP t i))) A3 nz HOKP.out (enters_of Tryz.func62 (by kernel_rfl) rfl)
        (fun B Y x xs hin hB hBX hX hx => by
          obtain ⟨ax, cx, rfl, IX, hcx, nx, hwx⟩ := hx.idx
          have hlx := inS_length hin
          exact slice1_any (m := s.length) (HTY.out.later e4') hm0 HL.out (by omega) hB hBX hX IX hcx nx (HX0.out.later e4') (HDY.out.later e4') ((HX1.out.later e4').cell 0) (by rw [HM.out]; exact HTL.out) (by rw [hlx, hsl, HM.out]) (by rw [HM.out]; exact hM4))
      rw [HLR.out] at hbu
      have P1' := HP1.out.later e4'
      have HBU := Lib.hid hbu
      have ci := e2.cell 0
      have hDlt := lt_of_block hK
      have hsX := e4'.size
      clear hbu A3 AZ hzs e1
      gi_wp2_with fail
      refine wideCallS (HBU.out.mono ?_)
      rintro e w7 ⟨r, rfl, hT, b7⟩
      obtain ⟨a', b', ca', cb', rfl, RS, RO⟩ := hT
      have P2 := P1'.later b7
      have s7 := b7.size
      obtain ⟨u0, u1, g0, g1⟩ := P2.two
      have HR := Lib.hid RS
      have HO := Lib.hid RO
      clear RS RO
      obtain ⟨l, hl⟩ : ∃ l, LR.length = l := ⟨_, rfl⟩
      have HL2 := Lib.hid hl
      rw [hl, hsl]
      clear hl
      have hK9 : w7.heap[D]? = some (.deferred (some [])) := (b7.block D hDlt).trans hK
      have hK10 : ((w7.setCell ⟨w.heap.size + 1 + 1, 0, none⟩ (.slice a' M ca')).setCell ⟨w.heap.size + 1 + 1, 1, none⟩ (.slice b' l cb')).heap[D]? = some (.deferred (some [])) := (kept2 _ _ D (by omega)).trans hK9
      have HR9 := Lib.hid P2
      have HR10 := Lib.hid (P2.set2 (.slice a' M ca') (.slice b' l cb'))
      clear P2
      gi_wp2
      refine ⟨by simp, .inl ⟨_, _, rfl, run_takeDeferred hK10, ?_⟩⟩
      have kk := KeepC.grown (grownBy_putObj' ((w7.setCell ⟨w.heap.size + 1 + 1, 0, none⟩ (.slice a' M ca')).setCell ⟨w.heap.size + 1 + 1, 1, none⟩ (.slice b' l cb')) D (.deferred none)) (fun r e => by cases e; exact ⟨_, hK10, rfl⟩)
      obtain ⟨v0, v1, _⟩ := (HR10.out.keepC kk).two
      refine ⟨.tuple #[.agg #[.slice a' M ca', .slice b' l cb'], .int .i64 0], by simp [results, Tryz.f24, go_sem, v0, v1], .inl ⟨rfl, _, rfl, ?_⟩, ?_⟩
      · have hR : ResT w.heap.size w7 (.agg #[.slice a' M ca', .slice b' l cb']) (slS s t) LR (n + 2) := ResT.mono ⟨a', b', ca', cb', by rw [HL2.out, hsl], HR.out, HO.out⟩ (by omega)
        exact (hR.far HR9.out (by decide) (by decide) (by decide) (kept2 _ _)).keepC kk
      · exact (below_set2 (g := w.heap.size + 1 + 1) (hB2.trans ((e4'.trans (b7.mono (by omega))).mono (by omega))) (by omega) _ _).trans (belowK_b (n₀ := w.heap.size) (w := w) (by omega) _ D _ _ (by omega) hK10 rfl rfl)
    case stop =>
      rintro D c pre X _ _ h _
      exact h.elim
  · have hne : (c != 0) = true := by simp [h0]
    have H0 := Lib.hid h0
    obtain ⟨u0, u1, g0, g1⟩ := P1.two
    have P3 := P1.set2 (.slice none 0 0) (.slice none 0 0)
    obtain ⟨z0, z1, _, _⟩ := P3.two
    clear h0 mkS
    gi_wp2_with fail
    exact ⟨.tuple #[noTensor, .int .i64 c], by simp [results, Tryz.f24, go_sem, z0, z1, noTensor], .inr ⟨H0.out, rfl⟩, below_set2 hB2 (by omega) _ _⟩
end
section
open Go.RowKit
set_option linter.unusedVariables false
set_option linter.unusedSimpArgs false
set_option maxRecDepth 100000 in
set_option maxHeartbeats 4000000 in
theorem whole9_any {w : World} {u v : Value} {s xs : List Int} {a b : Option Addr} {ca cb : Nat} (A : ArgS w u s a ca) (na : a = none → ca = 0) (B : ArgS w v xs b cb) (hs : s.length ≤ 1000) (hq : xs.length ≤ 1000) :
    Calls Tryz.prog 51 #[u, v] w fun e w' => ∃ r, e = .returned r ∧ ResT w.heap.size w' r s (xs.map intQ) 6 ∧ Below w.heap.size w w' := by
  obtain ⟨i0, hi, hz0, hz1, hz2⟩ := info_parts infoR
  have HA := Lib.hid A
  have NA := Lib.hid na
  have HB := Lib.hid B
  obtain rfl := A.is
  obtain rfl := B.is
  clear A na B
  go_enter Tryz.func51, Tryz.ntmps51
  go_wp2
  have R1 : Row ((w.alloc (.cells #[.slice none 0 0, .slice none 0 0] 26)).alloc (.cells #[.slice a s.length ca, .slice none 0 0] 34)) w.heap.size 26 #[.slice none 0 0, .slice none 0 0] := (Row.new _ _ _).alloc _
  have R2 : Row ((w.alloc (.cells #[.slice none 0 0, .slice none 0 0] 26)).alloc (.cells #[.slice a s.length ca, .slice none 0 0] 34)) (w.heap.size + 1) 34 #[.slice a s.length ca, .slice none 0 0] := by have h := (Row.new (w.alloc (.cells #[.slice none 0 0, .slice none 0 0] 26)) 34 #[.slice a s.length ca, .slice none 0 0]); simp only [World.size_alloc] at h; exact h
  have hBW : Below w.heap.size w ((w.alloc (.cells #[.slice none 0 0, .slice none 0 0] 26)).alloc (.cells #[.slice a s.length ca, .slice none 0 0] 34)) := ((Below.refl _ _).alloc (by simp) _).alloc (by simp) _
  have H1 := Lib.hid R1
  have H2 := Lib.hid R2
  have HBW := Lib.hid hBW
  clear R1 R2 hBW
  go_loopw [6] (fun i wr => ∃ (k : Nat) (v : Value), i = .int .i64 (k : Int) ∧ k ≤ xs.length ∧ Row wr w.heap.size 26 #[.slice none 0 0, .slice none 0 0] ∧
    Row wr (w.heap.size + 1) 34 #[.slice a s.length ca, v] ∧ RowO w.heap.size 75 (fun W v x => ResR w.heap.size W v x 6) wr v ((xs.take k).map intQ) ∧ Below w.heap.size w wr) (fun i _ => xs.length - (intOf i).toNat)
  case atStart => exact ⟨0, _, rfl, Nat.zero_le _, H1.out, H2.out, RowO.nil _ _ _ _, HBW.out⟩
  case round =>
    obtain ⟨k, v, rfl, hk, r1, r2, ⟨es, hown, hall⟩, hb⟩ := hrel
    have hsz := hb.size
    have hlt2 := r2.lt
    have c21 := r2.cell 1
    have hle : es.length = k := by rw [hall.1]; simp [hk]
    by_cases hlt : k < xs.length
    · obtain ⟨bb, o, hbo, hc⟩ := (HB.out.later hb).at hlt
      have hc0 := (HB.out.at hlt)
      have hqk := getD_some hlt
      have hwx := HB.out.wf.getD k
      obtain ⟨x, hxe⟩ : ∃ x, xs.getD k 0 = x := ⟨_, rfl⟩
      rw [hxe] at hc hqk hwx hc0
      have hb0 : bb < w.heap.size := by
        obtain ⟨b', o', e', h'⟩ := hc0
        rw [hbo] at e'
        cases e'
        exact World.block_lt_of_cell? w _ h'
      obtain ⟨hx0, hx1⟩ := hwx
      subst hbo
      obtain ⟨r, hrv, hrb, hrne⟩ := hown.hits hsz
      have n2 := hrne _ _ _ r2 (by decide)
      have n1 := hrne _ _ _ r1 (by decide)
      have mkS : ∀ X, Kept r wr X → X.cell? ⟨w.heap.size + 1, 1, none⟩ = some v ∧ X.cell? ⟨bb, o + k, none⟩ = some (.int .i64 x) ∧ Kept r wr X := fun X h => ⟨h.cell c21 n2, h.cell hc (by show bb ≠ r; omega), h⟩
      have hltI : (k : Int) < (xs.length : Int) := by omega
      have hS0 := mkS wr.drew ((Kept.refl r wr).drew)
      have HQK := Lib.hid hqk
      clear hc0 hxe hqk
      go_wp2_with fail
      refine wp_region_L (S := (fun X => X.cell? ⟨w.heap.size + 1, 1, none⟩ = some v ∧ X.cell? ⟨bb, o + k, none⟩ = some (.int .i64 x) ∧ Kept r wr X)) (z := 10) (by kernel_rfl) hS0 (fun hHeld => ?_)
      refine todo [0, 1, 2, 3, 4, 5] ?_
      iterate 6
       refine todoL (v := ?_) rfl (by kernel_rfl) (fun _ _ _ h => h) (by assumption) (Or.inl ⟨by rfl, ?_⟩) ?_
       rotate_left
       · intro w hSw; (try dsimp only at hSw); go_simp; (try with_reducible rfl)
       try simp only [Act.put, List.getElem_toArray, List.getElem_cons_succ, List.getElem_cons_zero, List.setIfInBounds_toArray, List.set_cons_zero, List.set_cons_succ]
      refine todone ?_
      refine wpAnyL_one (i := 6) (by kernel_rfl) rfl (fun K hK => ?sb6)
      go_simp
      refine (intRR_any x _ hx0 hx1).mono ?_
      rintro e w5 ⟨rv, rfl, qv, hb5⟩
      have Q5 := Lib.hid qv
      obtain ⟨m5, f1, l1, j1, f2, l2, j2, rfl⟩ := qv.shape
      clear qv
      go_simp
      have hB5 : Below w.heap.size w w5 := (hb.drew).trans (hb5.mono hsz)
      have hk5 : Kept r wr w5 := ((Kept.refl r wr).drew).below hb5
      refine hK.out _ _ (fun _ => mkS _ hk5) (fun hHeld2 => ?mb6)
      clear hK K hHeld
      have hHeld := hHeld2 (by decide)
      clear hHeld2
      try simp only [Act.put, List.setIfInBounds_toArray, List.set_cons_zero, List.set_cons_succ]
      refine wpAnyL_one (i := 7) (by kernel_rfl) rfl (fun K hK => ?sb7)
      go_simp
      refine hK.out _ _ (fun _ => mkS _ (hk5.alloc _)) (fun hHeld2 => ?mb7)
      clear hK K hHeld
      have hHeld := hHeld2 (by decide)
      clear hHeld2
      try simp only [Act.put, List.setIfInBounds_toArray, List.set_cons_zero, List.set_cons_succ]
      refine wpAnyL_one (i := 8) (by kernel_rfl) rfl (fun K hK => ?sb8)
      have hb5w : Below wr.heap.size wr w5 := (Below.refl _ wr).drew.trans hb5
      have hown5 : OwnE w.heap.size 75 w5 v es := hown.later hb5w
      have hall5 : AllE (fun v x => ResR w.heap.size w5 v x 6) es ((xs.take k).map intQ) := hall.imp fun u x _ h => h.later hb5w
      have hsz5 := hB5.size
      refine step_append_ownT rfl _ _ 32 rfl w.heap.size 75 i0 _ 3 56 Tryz.underlying32 hi hz0 hz1 hz2 rfl (by decide) _ es.length (flat3 es) rfl (hown5.later ((Below.refl _ _).alloc (Nat.le_refl _) _)) ⟨w5.heap.size, 0, none⟩ 1 1 [.bool m5, .slice f1 l1 j1, .slice f2 l2 j2] rfl rfl (cell_three_new _ _ _ _ _) (by simp [Value.oneCell']) (by unfold maxLen; omega) (by omega) (by simp; omega) ?_
      intro v' w6 hown' hgrow _
      obtain ⟨av, cv, rfl⟩ := ownT_slice hown'
      have hk6 : Kept r wr w6 := (hk5.alloc _).grown hgrow hrv
      refine hK.out _ _ (fun _ => mkS _ hk6) (fun hHeld2 => ?mb8)
      clear hK K hHeld
      have hHeld := hHeld2 (by decide)
      clear hHeld2
      try simp only [Act.put, List.setIfInBounds_toArray, List.set_cons_zero, List.set_cons_succ]
      refine wpAnyL_take (i := 9) (v := ?va9) rfl (by kernel_rfl) (by kernel_rfl) (by kernel_rfl) (by kernel_rfl) (fun _ _ _ h => h) (Or.inl ⟨by rfl, ?ha9⟩) (by assumption) ?ra9
      case ha9 =>
        intro w hSw
        try dsimp only at hSw
        go_simp
        try with_reducible rfl
      try simp only [Act.put, List.setIfInBounds_toArray, List.set_cons_zero, List.set_cons_succ]
      have R26 := r2.kept hk6 n2
      have f21 := R26.free 1
      have d21 := R26.cell 1
      refine wpAnyL_one (i := 10) (by kernel_rfl) rfl (fun K hK => ?sb10)
      go_simp
      refine hK.out _ _ (fun h => absurd rfl h) (fun _ => ?mb10)
      clear hK K
      try simp only [Act.put, List.setIfInBounds_toArray, List.set_cons_zero, List.set_cons_succ]
      refine wpAnyL_done (by kernel_rfl) ?_ _
      go_wp2
      go_roundw
      case rel =>
        have hx5 : ResR w.heap.size w5 (E3.agg ⟨.bool m5, .slice f1 l1 j1, .slice f2 l2 j2⟩) (intQ x) 6 := Q5.out.mono (by show w.heap.size ≤ wr.heap.size; exact hsz)
        obtain ⟨hrow6, hb6⟩ := pushE (P := fun W v x => ResR w.heap.size W v x 6) (e := ⟨.bool m5, .slice f1 l1 j1, .slice f2 l2 j2⟩) hB5 hsz5 hown5 hall5 hx5 (fun u y h => ResR.apart hown5 hgrow (by decide) h) hown' hgrow
        rw [hle] at hrow6
        have r16 := r1.kept hk6 n1
        refine ⟨k + 1, _, by go_num, by omega, r16.far (by show w.heap.size ≠ w.heap.size + 1; omega) _, R26.set21 _, ?_, hb6.setCell (by show w.heap.size ≤ w.heap.size + 1; omega) _⟩
        rw [take_nextL HQK.out, List.map_append]
        exact hrow6.far R26 (by decide) (kept1 _) (fun u y h => h.far R26 (by decide) (kept1 _))
      case measure => simp [intOf]; omega
    · obtain rfl : k = xs.length := by omega
      have hltI : ¬ (xs.length : Int) < (xs.length : Int) := by omega
      rw [List.take_length] at hall
      obtain ⟨av, cv, rfl⟩ := ownT_slice hown
      rw [hle] at r2 hown
      have fE : RowO w.heap.size 75 (fun W v x => ResR w.heap.size W v x 6) wr (.slice av xs.length cv) (xs.map intQ) := ⟨es, hown, hall⟩
      have fT := fE.at_
      have TT : TensR wr (.agg #[.slice a s.length ca, .slice av xs.length cv]) s (xs.map intQ) 6 a ca av cv := ⟨by rw [List.length_map], HA.out.later hb, NA.out, by rw [List.length_map]; exact fT.2.1.imp (fun v x _ h => h.arg), fT.2.2⟩
      have hback := backT_any TT (by omega) (by rw [List.length_map]; omega) (by omega)
      have c20 := r2.cell 0
      have d21 := r2.cell 1
      have HR1 := Lib.hid r1
      clear hown hall hle fE fT TT c21
      go_wp2_with (go_at_call 91; refine hback.mono ?_; rintro e w7 ⟨fa, fb, fca, fcb, rfl, fS, fO, hb7⟩; simp only [List.length_map] at fO; have R17 := HR1.out.later hb7; obtain ⟨c10, c11, g10, g11⟩ := R17.two; have R1s := R17.set2 (.slice fa s.length fca) (.slice fb xs.length fcb); obtain ⟨zz0, zz1, _, _⟩ := R1s.two; have HFS := Lib.hid fS; have HFO := Lib.hid fO; have HR17 := Lib.hid R17; clear fS fO R1s R17)
      have hB7 : Below w.heap.size w w7 := hb.trans (hb7.mono hsz)
      have hT7 : ResT w.heap.size w7 (.agg #[.slice fa s.length fca, .slice fb xs.length fcb]) s (xs.map intQ) 6 := ⟨fa, fb, fca, fcb, by rw [List.length_map], HFS.out.mono hsz, by rw [List.length_map]; exact HFO.out.mono hsz (fun v x h => h.mono hsz)⟩
      refine bodyPost_ret (v := .agg #[.slice fa s.length fca, .slice fb xs.length fcb]) (by simp [results, Tryz.results51, go_sem, zz0, zz1]) rfl ⟨_, rfl, ?_, ?_⟩
      · exact hT7.far HR17.out (by decide) (by decide) (by decide) (kept2 _ _)
      · exact below_set2 hB7 (Nat.le_refl _) _ _
/-- the ending of an operation that must succeed -/
def Good9 (base : Nat) (w' : World) (e : Ending) (s : List Int) (L : List Rat) (N : Nat) : Prop :=
  ∃ (a b : Option Addr) (ca cb : Nat), e = .returned (.tuple #[.agg #[.slice a s.length ca, .slice b L.length cb], .int .i64 0]) ∧ ResT base w' (.agg #[.slice a s.length ca, .slice b L.length cb]) s L N
theorem One.good9 {base N : Nat} {w : World} {e : Ending} {c : Int} {s : List Int} {L L' : List Rat} (h : One base w e c s L N) (h0 : c = 0) (hL : L = L') : Good9 base w e s L' N := by
  subst hL
  subst h0
  rcases h with ⟨_, r, rfl, hT⟩ | ⟨h, _⟩
  · obtain ⟨a, b, ca, cb, rfl, _⟩ := id hT
    exact ⟨a, b, ca, cb, rfl, hT⟩
  · exact absurd rfl h
theorem orL2 {x y : Int} (h : x = 0) : orL [x, y] = y := by
  subst h
  simp [orL]
  exact fun h => h.symm
/-- a tensor that may be: its shape, and how many elements it has -/
structure Ok9 (s : List Int) (k : Nat) : Prop where
  ok : OkS s
  len : (k : Int) = prodS s
theorem Ok9.may {s : List Int} {k : Nat} {qs : List Q3} (h : Ok9 s k) (hk : qs.length = k) (hok : ∀ q ∈ qs, okQ q = true) : mayT s qs = 0 := mayT_ok (mayC_ok h.ok) (by rw [hk, h.ok.count]; exact h.len) hok
theorem Ok9.le {s : List Int} {k : Nat} (h : Ok9 s k) : s.length ≤ 4 ∧ k ≤ 1024 := ⟨h.ok.rank, by have := h.len; have := h.ok.few; omega⟩
def trV (s p : List Int) (L : List Rat) : List Rat := fillV (trS s p) fun xs => elV s L (trI p xs)
def slV (s t : List Int) (L : List Rat) : List Rat := fillV (slS s t) fun xs => elV s L ((List.range s.length).map fun i : Nat => IntKind.i64.wrap (xs.getD i 0 + fstP t i))
def pdV (s t : List Int) (L : List Rat) : List Rat := fillV (pdW s t) fun xs => elV s L ((List.range s.length).map fun i : Nat => IntKind.i64.wrap (xs.getD i 0 - fstP t i))
theorem transK {b1 n : Nat} {w : World} {u : Value} {s t : List Int} {L : List Rat} {ad : Option Addr} {cd : Nat} (h1 : ResT b1 w u s L n) (D : ArgS w (.slice ad t.length cd) t ad cd) (nd : ad = none → cd = 0) (ht : t.length ≤ 8000000) (hs : Ok9 s L.length) (hn : n ≤ 2000000) (hp : permC t s.length = 0) :
    Calls Tryz.prog 13 #[u, .slice ad t.length cd] w fun e w' => Good9 w.heap.size w' e (trS s t) (trV s t L) (n + 2) ∧ Below w.heap.size w w' := by
  obtain ⟨q1, a1, c1, ca1, cc1, T1, e1, l1, k1⟩ := h1.tens
  have g1 : q1.length = L.length := by rw [← e1]; simp
  have m1 := hs.may g1 k1
  have hle := hs.le
  exact (transpose_any T1 D nd (by omega) ht (by omega) l1 (by omega)).mono fun e w' ⟨h, hb⟩ => ⟨h.good9 ((orL2 m1).trans hp) (by rw [e1]; rfl), hb⟩
theorem sliceK {b1 n : Nat} {w : World} {u : Value} {s t : List Int} {L : List Rat} {ad : Option Addr} {cd : Nat} (h1 : ResT b1 w u s L n) (D : ArgS w (.slice ad t.length cd) t ad cd) (nd : ad = none → cd = 0) (ht : t.length ≤ 8000000) (hs : Ok9 s L.length) (hn : n ≤ 2000000) (hp : slC s t = 0) :
    Calls Tryz.prog 24 #[u, .slice ad t.length cd] w fun e w' => Good9 w.heap.size w' e (slS s t) (slV s t L) (n + 2) ∧ Below w.heap.size w w' := by
  obtain ⟨q1, a1, c1, ca1, cc1, T1, e1, l1, k1⟩ := h1.tens
  have g1 : q1.length = L.length := by rw [← e1]; simp
  have m1 := hs.may g1 k1
  have hle := hs.le
  exact (slice_any T1 D nd (by omega) ht (by omega) l1 (by omega)).mono fun e w' ⟨h, hb⟩ => ⟨h.good9 ((orL2 m1).trans hp) (by rw [e1]; rfl), hb⟩
theorem padK {b1 n : Nat} {w : World} {u : Value} {s t : List Int} {L : List Rat} {ad : Option Addr} {cd : Nat} (h1 : ResT b1 w u s L n) (D : ArgS w (.slice ad t.length cd) t ad cd) (nd : ad = none → cd = 0) (ht : t.length ≤ 8000000) (hs : Ok9 s L.length) (hn : n ≤ 2000000) (hp : pdCW s t = 0) :
    Calls Tryz.prog 26 #[u, .slice ad t.length cd] w fun e w' => Good9 w.heap.size w' e (pdW s t) (pdV s t L) (n + 2) ∧ Below w.heap.size w w' := by
  obtain ⟨q1, a1, c1, ca1, cc1, T1, e1, l1, k1⟩ := h1.tens
  have g1 : q1.length = L.length := by rw [← e1]; simp
  have m1 := hs.may g1 k1
  have hle := hs.le
  exact (pad_any T1 D nd (by omega) ht (by omega) l1 (by omega)).mono fun e w' ⟨h, hb⟩ => ⟨h.good9 ((orL2 m1).trans hp) (by rw [e1]; rfl), hb⟩
set_option maxRecDepth 100000 in
set_option maxHeartbeats 4000000 in
theorem own9_any {w : World} {xs : List Int} {a : Option Addr} {ca : Nat} (A : ArgS w (.slice a xs.length ca) xs a ca) (na : a = none → ca = 0) (hx : xs.length ≤ 17592186044416) :
    Calls Tryz.prog 15 #[.slice a xs.length ca] w fun e w' => ∃ r, e = .returned r ∧ ResS w.heap.size w' r xs ∧ Below w.heap.size w w' := by
  have NA := Lib.hid na
  clear na
  go_enter Tryz.func15, Tryz.ntmps15
  go_wp2_with (at_builtin; refine step_copyT rfl _ 22 22 Tryz.underlying22 Tryz.underlying22 rfl rfl A NA.out hx ?_; intro ro w3 R3 hb3)
  go_ret
  exact ⟨_, rfl, R3, hb3⟩
/-- the reference's tensor: as it came, or of rank 0 -/
def shV (s : List Int) (qs : List Q3) : List Int := if mayT s qs = 0 then s else []
def elsV (s : List Int) (qs : List Q3) : List Rat := if mayT s qs = 0 then qs.map Q3.rat else [intQ 0]
set_option maxRecDepth 100000 in
set_option maxHeartbeats 4000000 in
theorem of9_any {n : Nat} {w : World} {v : Value} {s : List Int} {qs : List Q3} {a b : Option Addr} {ca cb : Nat} (T : TensQ w v s qs a ca b cb) (hs : s.length ≤ 1000000000) (hq : qs.length ≤ 1000000000) (hl : lensQ qs n) (hn : n ≤ 134217728) :
    Calls Tryz.prog 17 #[v] w fun e w' => ∃ r, e = .returned r ∧ TenR w' r (shV s qs) (elsV s qs) (5 * n + 6) ∧ Below w.heap.size w w' := by
  have HT := Lib.hid T
  obtain rfl := T.is
  obtain ⟨W, hW⟩ : ∃ W, ((w.alloc (.cells #[.slice a s.length ca, .slice b qs.length cb] 26)).alloc (.cells #[.slice none 0 0, .slice none 0 0] 34)) = W := ⟨_, rfl⟩
  have R0 : Row W (w.heap.size) 26 #[.slice a s.length ca, .slice b qs.length cb] := by rw [← hW]; exact (Row.new _ _ _).alloc _
  have R1 : Row W (w.heap.size + 1) 34 #[.slice none 0 0, .slice none 0 0] := by rw [← hW]; have h := Row.new (w.alloc (.cells #[.slice a s.length ca, .slice b qs.length cb] 26)) 34 #[.slice none 0 0, .slice none 0 0]; (try simp only [World.size_alloc] at h); exact h
  have hBW : Below w.heap.size w W := by rw [← hW]; exact (((Below.refl _ _).alloc (by (try simp) <;> omega) _).alloc (by (try simp) <;> omega) _)
  have hsW : W.heap.size = w.heap.size + 1 + 1 := by rw [← hW]; simp
  have hm := mayT_any (HT.out.later hBW) hq (fun q hq => ⟨Nat.le_trans (hl q hq).1 (by omega), Nat.le_trans (hl q hq).2 (by omega)⟩)
  obtain ⟨c, hc⟩ : ∃ c, mayT s qs = c := ⟨_, rfl⟩
  have HL := Lib.hid hl
  rw [hc] at hm
  obtain ⟨c0, c1, _, _⟩ := R0.two
  by_cases h0 : c = 0
  · subst h0
    have e1 : shV s qs = s := by unfold shV; rw [if_pos hc]
    have e2 : elsV s qs = qs.map Q3.rat := by unfold elsV; rw [if_pos hc]
    have hof := fun (X : World) (hX : Below w.heap.size w X) => ofT_any (HT.out.later hX) (by omega) hq HL.out hn
    have HOF := Lib.hid hof
    rw [e1, e2]
    clear T hc e1 e2 hl hof
    go_enter Tryz.func17, Tryz.ntmps17
    (try rw [hW])
    go_wp2_with (go_at_call 28; refine hm.mono ?_; rintro e w1 ⟨rfl, hb1⟩; obtain ⟨k0, k1, _, _⟩ := (R0.later hb1).two)
    have hB1 : Below w.heap.size w w1 := hBW.trans (hb1.mono (by omega))
    refine (HOF.out w1 hB1).mono ?_
    rintro e w2 ⟨a', b', ca', cb', rfl, RS, RO, hb2⟩
    have P2 := (R1.later hb1).later hb2
    have s1 := hb1.size
    have s2 := hb2.size
    obtain ⟨u0, u1, g0, g1⟩ := P2.two
    have HRS := Lib.hid RS
    have HRO := Lib.hid RO
    clear RS RO
    obtain ⟨l, hl⟩ : ∃ l, qs.length = l := ⟨_, rfl⟩
    have HL2 := Lib.hid hl
    rw [hl]
    clear hl
    go_wp2_with fail
    have P3 := P2.set2 (.slice a' s.length ca') (.slice b' l cb')
    obtain ⟨z0, z1, _, _⟩ := P3.two
    refine bodyPost_ret (v := .agg #[.slice a' s.length ca', .slice b' l cb']) (by simp [results, Tryz.results17, go_sem, z0, z1]) rfl ⟨_, rfl, ?_, below_set2 (hB1.trans (hb2.mono (by omega))) (by omega) _ _⟩
    rw [← HL2.out]
    exact ⟨a', ca', b', cb', ofT_tens (by simp) (HRS.out.far P2 (by decide) (kept2 _ _)) ((HRO.out.far P2 (by decide) (kept2 _ _) (fun u y h => h.far P2 (by decide) (kept2 _ _))).mono (Nat.le_refl _) (fun v x h => h.more (by omega)))⟩
  · have hne : (c != 0) = true := by simp [h0]
    have e1 : shV s qs = [] := by unfold shV; rw [if_neg (by rw [hc]; exact h0)]
    have e2 : elsV s qs = [intQ 0] := by unfold elsV; rw [if_neg (by rw [hc]; exact h0)]
    rw [e1, e2]
    clear T hc e1 e2 hl h0
    go_enter Tryz.func17, Tryz.ntmps17
    (try rw [hW])
    go_wp2_with (go_at_call 28; refine hm.mono ?_; rintro e w1 ⟨rfl, hb1⟩)
    have hB1 : Below w.heap.size w w1 := hBW.trans (hb1.mono (by omega))
    refine (intRR_any 0 w1 (by omega) (by omega)).mono ?_
    rintro e w2 ⟨r, rfl, qv, hb2⟩
    have Q2 := Lib.hid qv
    obtain ⟨m5, f1, l1, j1, f2, l2, j2, rfl⟩ := qv.shape
    clear qv
    have s1 := hb1.size
    have s2 := hb2.size
    obtain ⟨V, hV⟩ : ∃ V, w2.alloc (.cells #[.bool m5, .slice f1 l1 j1, .slice f2 l2 j2] 75) = V := ⟨_, rfl⟩
    have RL : Row V w2.heap.size 75 #[.bool m5, .slice f1 l1 j1, .slice f2 l2 j2] := by rw [← hV]; exact Row.new _ _ _
    have b3 : Below w2.heap.size w2 V := by rw [← hV]; exact (Below.refl _ _).alloc (Nat.le_refl _) _
    have P2 := ((R1.later hb1).later hb2).later b3
    have QV := Q2.out.later b3
    obtain ⟨u0, u1, g0, g1⟩ := P2.two
    have hB3 : Below w.heap.size w V := (hB1.trans (hb2.mono (by omega))).trans (b3.mono (by omega))
    go_wp2_with fail
    (try rw [hV])
    have P3 := P2.set2 (.slice none 0 0) (.slice (some ⟨w2.heap.size, 0, none⟩) 1 1)
    obtain ⟨z0, z1, _, _⟩ := P3.two
    have RL3 : Row _ w2.heap.size 75 #[.bool m5, .slice f1 l1 j1, .slice f2 l2 j2] := (kept2 (.slice none 0 0) (.slice (some ⟨w2.heap.size, 0, none⟩) 1 1) w2.heap.size (show w2.heap.size ≠ w.heap.size + 1 by omega)).trans RL
    refine bodyPost_ret (v := .agg #[.slice none 0 0, .slice (some ⟨w2.heap.size, 0, none⟩) 1 1]) (by simp [results, Tryz.results17, go_sem, z0, z1]) rfl ⟨_, rfl, ?_, below_set2 hB3 (by omega) _ _⟩
    refine ⟨none, 0, some ⟨w2.heap.size, 0, none⟩, 1, rfl, nil_argS _, (fun _ => rfl), ⟨rfl, Nat.le_refl _, .inr ⟨w2.heap.size, 0, [⟨.bool m5, .slice f1 l1 j1, .slice f2 l2 j2⟩], rfl, fun i e he => ?_, rfl, fun i e x he hx => ?_⟩⟩, (fun h => by cases h)⟩
    · match i, he with
      | 0, he => simp at he; subst he; exact ⟨RL3.cell 0, RL3.cell 1, RL3.cell 2⟩
      | i + 1, he => simp at he
    · match i, he, hx with
      | 0, he, hx => simp at he hx; subst he; subst hx; exact ((QV.far P2 (by decide) (kept2 _ _)).more (by omega)).arg
      | i + 1, he, hx => simp at he
theorem allBC_eq9 {s : List Int} {L : List Rat} {qs : List Q3} (h : qs.map Q3.rat = L) (hok : ∀ q ∈ qs, okQ q = true) : allBC (fun (x : Rat) (q : Q3) => validB q.neg q.num q.den x) s s L qs = true := by
  subst h
  refine allBC_yes rfl (by simp) fun k x q hx hq => ?_
  rw [List.getElem?_map, hq] at hx
  cases hx
  exact hok q (List.mem_of_getElem? hq)
set_option maxRecDepth 100000 in
set_option maxHeartbeats 4000000 in
theorem is9_any {base m n N : Nat} {w : World} {r v t : Value} {s s2 : List Int} {qs : List Q3} {a b : Option Addr} {ca cb : Nat} {c f : Int} {L : List Rat} (T : TensQ w v s qs a ca b cb) (hs : s.length ≤ 1000000000) (hq : qs.length ≤ 1000000000) (hl : lensQ qs n) (hn : n ≤ 134217728)
    (hA : (c = 0 ∧ ResT base w r s2 L N) ∨ (c ≠ 0 ∧ r = noTensor)) (hb : ∃ x0 x1 x2 x3 x4 x5, t = .agg #[.slice x0 x1 x2, .slice x3 x4 x5]) (hf : mayT s qs = 0 → f = c) (hm : mayT s qs ≠ 0 → c = mayT s qs) (ht : c = 0 → TenR w t s2 L m) (hs2 : s2.length ≤ 1000000000) (hL : L.length ≤ 1000000) (hm2 : m ≤ 1000000000) (hN : N ≤ 134217728) :
    Calls Tryz.prog 18 #[r, .int .i64 c, v, t, .int .i64 f] w fun e w' => e = .returned (.bool true) ∧ Below w.heap.size w w' := by
  have HT := Lib.hid T
  obtain rfl := T.is
  obtain ⟨x0, x1, x2, x3, x4, x5, rfl⟩ := hb
  obtain ⟨y0, y1, y2, y3, y4, y5, rfl⟩ : ∃ y0 y1 y2 y3 y4 y5, r = .agg #[.slice y0 y1 y2, .slice y3 y4 y5] := by
    rcases hA with ⟨_, hA⟩ | ⟨_, rfl⟩
    · obtain ⟨a', b', ca', cb', rfl, _⟩ := hA
      exact ⟨_, _, _, _, _, _, rfl⟩
    · exact ⟨_, _, _, _, _, _, rfl⟩
  obtain ⟨W, hW⟩ : ∃ W, (((w.alloc (.cells #[.slice y0 y1 y2, .slice y3 y4 y5] 26)).alloc (.cells #[.slice a s.length ca, .slice b qs.length cb] 26)).alloc (.cells #[.slice x0 x1 x2, .slice x3 x4 x5] 34)) = W := ⟨_, rfl⟩
  have R0 : Row W (w.heap.size) 26 #[.slice y0 y1 y2, .slice y3 y4 y5] := by rw [← hW]; exact ((Row.new _ _ _).alloc _).alloc _
  have R1 : Row W (w.heap.size + 1) 26 #[.slice a s.length ca, .slice b qs.length cb] := by rw [← hW]; have h := Row.new (w.alloc (.cells #[.slice y0 y1 y2, .slice y3 y4 y5] 26)) 26 #[.slice a s.length ca, .slice b qs.length cb]; (try simp only [World.size_alloc] at h); exact h.alloc _
  have R2 : Row W (w.heap.size + 1 + 1) 34 #[.slice x0 x1 x2, .slice x3 x4 x5] := by rw [← hW]; have h := Row.new ((w.alloc (.cells #[.slice y0 y1 y2, .slice y3 y4 y5] 26)).alloc (.cells #[.slice a s.length ca, .slice b qs.length cb] 26)) 34 #[.slice x0 x1 x2, .slice x3 x4 x5]; (try simp only [World.size_alloc] at h); exact h
  have hBW : Below w.heap.size w W := by rw [← hW]; exact ((((Below.refl _ _).alloc (by (try simp) <;> omega) _).alloc (by (try simp) <;> omega) _).alloc (by (try simp) <;> omega) _)
  have hsW : W.heap.size = w.heap.size + 1 + 1 + 1 := by rw [← hW]; simp
  have hmy := mayT_any (HT.out.later hBW) hq (fun q hq => ⟨Nat.le_trans (hl q hq).1 (by omega), Nat.le_trans (hl q hq).2 (by omega)⟩)
  obtain ⟨mm, hmm⟩ : ∃ c, mayT s qs = c := ⟨_, rfl⟩
  rw [hmm] at hmy hf hm
  obtain ⟨c0, c1, _, _⟩ := R0.two
  obtain ⟨c2, c3, _, _⟩ := R1.two
  obtain ⟨c4, c5, _, _⟩ := R2.two
  by_cases h0 : c = 0
  · subst h0
    have hR := (hA.resolve_right (fun h => h.1 rfl)).2
    obtain rfl : mm = 0 := by
      by_cases h : mm = 0
      · exact h
      · exact absurd (hm h).symm h
    obtain rfl := hf rfl
    obtain ⟨q2, a2, b2, ca2, cb2, T2, hqs, hl2, hok⟩ := hR.tens
    obtain ⟨a3, ca3, b3, cb3, U⟩ := ht rfl
    have hlen : q2.length = L.length := by rw [← hqs]; simp
    have hi := fun (X : World) (hX : Below w.heap.size w X) => isT_any (U.later hX) (T2.later hX) (by omega) (by omega) (by omega) hm2 (fun q hq => ⟨Nat.le_trans (hl2 q hq).1 hN, Nat.le_trans (hl2 q hq).2 hN⟩)
    rw [allBC_eq9 hqs hok] at hi
    have HI := Lib.hid hi
    clear hA hf hm ht T hi U T2 hR hqs hok hl2 hlen
    go_enter Tryz.func18, Tryz.ntmps18
    (try rw [hW])
    go_wp2_with (go_at_call 28; refine hmy.mono ?_; rintro e w1 ⟨rfl, hb1⟩; obtain ⟨k0, k1, _, _⟩ := (R0.later hb1).two; obtain ⟨k2, k3, _, _⟩ := (R2.later hb1).two)
    have hB1 : Below w.heap.size w w1 := hBW.trans (hb1.mono (by omega))
    refine (HI.out w1 hB1).mono ?_
    rintro e w2 ⟨rfl, hb2⟩
    go_wp2_with fail
    go_ret
    exact ⟨rfl, hB1.trans (hb2.mono hB1.size)⟩
  · have hr := (hA.resolve_left (fun h => h0 h.1)).2
    simp only [noTensor, Value.agg.injEq, Array.mk.injEq, List.cons.injEq, Value.slice.injEq, and_true] at hr
    obtain ⟨⟨rfl, rfl, rfl⟩, rfl, rfl, rfl⟩ := hr
    have hem := fun (X : World) => emptyT_any (w := X) (.agg #[.slice none 0 0, .slice none 0 0]) none none 0 0 0 0 rfl
    have HM := Lib.hid hem
    have hne : (c != 0) = true := by simp [h0]
    have hee : (c == c) = true := by simp
    by_cases h1 : mm = 0
    · subst h1
      obtain rfl := hf rfl
      clear hA hf hm ht T hem h0
      go_enter Tryz.func18, Tryz.ntmps18
      (try rw [hW])
      go_wp2_with (go_at_call 28; refine hmy.mono ?_; rintro e w1 ⟨rfl, hb1⟩; obtain ⟨k0, k1, _, _⟩ := (R0.later hb1).two)
      have hB1 : Below w.heap.size w w1 := hBW.trans (hb1.mono (by omega))
      refine (HM.out w1).mono ?_
      rintro e w2 ⟨rfl, hb2⟩
      go_wp2_with fail
      go_ret
      exact ⟨rfl, hB1.trans (hb2.mono hB1.size)⟩
    · obtain rfl := hm h1
      clear hA hf hm ht T hem h0 h1
      go_enter Tryz.func18, Tryz.ntmps18
      (try rw [hW])
      go_wp2_with (go_at_call 28; refine hmy.mono ?_; rintro e w1 ⟨rfl, hb1⟩; obtain ⟨k0, k1, _, _⟩ := (R0.later hb1).two)
      have hB1 : Below w.heap.size w w1 := hBW.trans (hb1.mono (by omega))
      refine (HM.out w1).mono ?_
      rintro e w2 ⟨rfl, hb2⟩
      go_wp2_with fail
      go_ret
      exact ⟨rfl, hB1.trans (hb2.mono hB1.size)⟩
end
section
open Go.RowKit
set_option linter.unusedVariables false
set_option linter.unusedSimpArgs false
theorem Row.argS {w : World} {g : Nat} {cs : Array Value} (R : Row w g 3 cs) (xs : List Int) (hc : cs = (xs.map (Value.int .i64)).toArray) (hw : Wid xs) : ArgS w (.slice (some ⟨g, 0, none⟩) xs.length xs.length) xs (some ⟨g, 0, none⟩) xs.length := by
  refine ⟨rfl, .inr ⟨g, 0, rfl, fun i hi => ?_⟩, Nat.le_refl _, hw⟩
  rw [Nat.zero_add, R.cell i, hc]
  simp [hi]
theorem widS {xs : List Int} (h : xs.all (fun x => decide (-1000 ≤ x) && decide (x ≤ 1000)) = true) : Wid xs := fun x hx => by
  have := List.all_eq_true.1 h x hx
  simp at this
  omega
theorem some_not {a : Addr} {c : Nat} : (some a = none → c = 0) := fun h => by cases h
theorem sameK9 {b1 b2 n m : Nat} {w : World} {u v : Value} {s : List Int} {L : List Rat} (h1 : ResT b1 w u s L n) (h2 : ResT b2 w v s L m) (hs : s.length ≤ 1000000) (hL : L.length ≤ 1000000) (hn : n ≤ 1000000) (hm : m ≤ 1000000) :
    Calls Tryz.prog 34 #[u, v] w fun e w' => e = .returned (.bool true) ∧ Below w.heap.size w w' := by
  obtain ⟨q1, a1, c1, ca1, cc1, T1, e1, l1, k1⟩ := h1.tens
  obtain ⟨q2, a2, c2, ca2, cc2, T2, e2, l2, k2⟩ := h2.tens
  have g1 : q1.length = L.length := by rw [← e1]; simp
  have g2 : q2.length = L.length := by rw [← e2]; simp
  have h := sameT_any (n := max n m) T1 T2 (by omega) (by omega) (by omega) (by omega) (fun q hq => ⟨Nat.le_trans (l1 q hq).1 (by omega), Nat.le_trans (l1 q hq).2 (by omega)⟩) (fun q hq => ⟨Nat.le_trans (l2 q hq).1 (by omega), Nat.le_trans (l2 q hq).2 (by omega)⟩)
  rw [allBC_yes rfl (by omega) (fun i x y hx hy => by
    have f1 : (q1.map Q3.rat)[i]? = some x.rat := by rw [List.getElem?_map, hx]; rfl
    have f2 : (q2.map Q3.rat)[i]? = some y.rat := by rw [List.getElem?_map, hy]; rfl
    rw [e1] at f1
    rw [e2, f1] at f2
    exact decide_eq_true (Option.some.inj f2))] at h
  exact h
set_option maxRecDepth 100000 in
set_option maxHeartbeats 8000000 in
theorem known9_any (w : World) : Calls Tryz.prog 19 #[] w fun e w' => e = .returned (.bool true) ∧ Below w.heap.size w w' := by
  have O1 := Lib.hid (show Ok9 [2, 3] (([1, 2, 3, 4, 5, 6] : List Int).map intQ).length from ⟨mayC_zero.1 (by decide +kernel), by decide +kernel⟩)
  have O2 := Lib.hid (show Ok9 [1, 2] (([2, 3] : List Int).map intQ).length from ⟨mayC_zero.1 (by decide +kernel), by decide +kernel⟩)
  have C1 := Lib.hid (show permC [1, 0] ([2, 3] : List Int).length = 0 by decide +kernel)
  have C2 := Lib.hid (show slC [2, 3] [0, 1, 1, 3] = 0 by decide +kernel)
  have C3 := Lib.hid (show pdCW [1, 2] [0, 0, 1, 0] = 0 by decide +kernel)
  have S1 := Lib.hid (show trS [2, 3] [1, 0] = [3, 2] by decide +kernel)
  have S2 := Lib.hid (show slS [2, 3] [0, 1, 1, 3] = [1, 2] by decide +kernel)
  have S3 := Lib.hid (show pdW [1, 2] [0, 0, 1, 0] = [1, 3] by decide +kernel)
  have Q1 := Lib.hid (show trV [2, 3] [1, 0] (([1, 2, 3, 4, 5, 6] : List Int).map intQ) = (([1, 4, 2, 5, 3, 6] : List Int).map intQ) by decide +kernel)
  have Q2 := Lib.hid (show slV [2, 3] [0, 1, 1, 3] (([1, 2, 3, 4, 5, 6] : List Int).map intQ) = (([2, 3] : List Int).map intQ) by decide +kernel)
  have Q3 := Lib.hid (show pdV [1, 2] [0, 0, 1, 0] (([2, 3] : List Int).map intQ) = (([0, 2, 3] : List Int).map intQ) by decide +kernel)
  have A0 : Below w.heap.size w ((w.alloc (.cells #[.int .i64 2, .int .i64 3] 3)).alloc (.cells #[.int .i64 1, .int .i64 2, .int .i64 3, .int .i64 4, .int .i64 5, .int .i64 6] 3)) := ((Below.refl _ _).alloc (by simp) _).alloc (by simp) _
  have L1 : ArgS ((w.alloc (.cells #[.int .i64 2, .int .i64 3] 3)).alloc (.cells #[.int .i64 1, .int .i64 2, .int .i64 3, .int .i64 4, .int .i64 5, .int .i64 6] 3)) (.slice (some ⟨w.heap.size, 0, none⟩) 2 2) [2, 3] (some ⟨w.heap.size, 0, none⟩) 2 := Row.argS ((Row.new w 3 #[.int .i64 2, .int .i64 3]).alloc _) [2, 3] rfl (widS (by decide))
  have L2 : ArgS ((w.alloc (.cells #[.int .i64 2, .int .i64 3] 3)).alloc (.cells #[.int .i64 1, .int .i64 2, .int .i64 3, .int .i64 4, .int .i64 5, .int .i64 6] 3)) (.slice (some ⟨w.heap.size + 1, 0, none⟩) 6 6) [1, 2, 3, 4, 5, 6] (some ⟨w.heap.size + 1, 0, none⟩) 6 := by
    have h := Row.new (w.alloc (.cells #[.int .i64 2, .int .i64 3] 3)) 3 #[.int .i64 1, .int .i64 2, .int .i64 3, .int .i64 4, .int .i64 5, .int .i64 6]
    simp only [World.size_alloc] at h
    exact Row.argS h [1, 2, 3, 4, 5, 6] rfl (widS (by decide))
  go_enter Tryz.func19, Tryz.ntmps19
  go_wp2_with fail
  refine (whole9_any L1 some_not L2 (by decide) (by decide)).mono ?_
  rintro e w1 ⟨r1, rfl, rt, hb1⟩
  have B1 : Below w.heap.size w w1 := A0.trans (hb1.mono A0.size)
  have X1 := Lib.hid rt
  obtain ⟨xa, xb, xca, xcb, rfl, _⟩ := rt
  clear A0 L1 L2 hb1
  obtain ⟨V, hV⟩ : ∃ V, w1.alloc (.cells #[.slice xa 2 xca, .slice xb 6 xcb] 26) = V := ⟨_, rfl⟩
  have b1V : Below w1.heap.size w1 V := by rw [← hV]; exact (Below.refl _ _).alloc (Nat.le_refl _) _
  have R0 : Row V w1.heap.size 26 #[.slice xa 2 xca, .slice xb 6 xcb] := by rw [← hV]; exact Row.new _ _ _
  have BV : Below w.heap.size w V := B1.trans (b1V.mono B1.size)
  have XV := X1.out.later b1V
  have HX := Lib.hid (fun Y (h : Below V.heap.size V Y) => XV.later h)
  have B0 : Below V.heap.size V V := Below.refl _ _
  obtain ⟨x0, x1, _, _⟩ := R0.two
  clear X1 XV b1V
  have U1 : Below V.heap.size V (V.alloc (.cells #[.int .i64 1, .int .i64 0] 3)) := (Below.refl _ _).alloc (Nat.le_refl _) _
  have D1 : ArgS (V.alloc (.cells #[.int .i64 1, .int .i64 0] 3)) (.slice (some ⟨V.heap.size, 0, none⟩) 2 2) [1, 0] (some ⟨V.heap.size, 0, none⟩) 2 := Row.argS (Row.new V 3 #[.int .i64 1, .int .i64 0]) [1, 0] rfl (widS (by decide))
  go_wp2_with fail
  (try rw [hV])
  (try clear hV)
  refine (transK (HX.out _ (B0.trans (U1.mono B0.size))) D1 some_not (by decide) O1.out (by decide) C1.out).mono ?_
  rintro e z1 ⟨hg, hz⟩
  rw [S1.out, Q1.out] at hg
  obtain ⟨ra1, rb1, rca1, rcb1, rfl, T1⟩ := hg
  obtain ⟨V2, hV⟩ : ∃ X, z1.alloc (.cells #[.slice ra1 2 rca1, .slice rb1 6 rcb1] 26) = X := ⟨_, rfl⟩
  have bz : Below z1.heap.size z1 V2 := by rw [← hV]; exact (Below.refl _ _).alloc (Nat.le_refl _) _
  have N1 : Row V2 z1.heap.size 26 #[.slice ra1 2 rca1, .slice rb1 6 rcb1] := by rw [← hV]; exact Row.new _ _ _
  have hzW : Below V.heap.size V z1 := U1.trans (hz.mono U1.size)
  have E1 : Below V.heap.size V V2 := hzW.trans (bz.mono hzW.size)
  have B1 : Below V.heap.size V V2 := B0.trans (E1.mono B0.size)
  have M1 := Lib.hid (T1.later bz)
  clear x0 x1 T1 hz bz hzW U1 D1
  obtain ⟨x0, x1, _, _⟩ := (R0.later B1).two
  have U2 : Below V2.heap.size V2 (V2.alloc (.cells #[.int .i64 0, .int .i64 1, .int .i64 1, .int .i64 3] 3)) := (Below.refl _ _).alloc (Nat.le_refl _) _
  have D2 : ArgS (V2.alloc (.cells #[.int .i64 0, .int .i64 1, .int .i64 1, .int .i64 3] 3)) (.slice (some ⟨V2.heap.size, 0, none⟩) 4 4) [0, 1, 1, 3] (some ⟨V2.heap.size, 0, none⟩) 4 := Row.argS (Row.new V2 3 #[.int .i64 0, .int .i64 1, .int .i64 1, .int .i64 3]) [0, 1, 1, 3] rfl (widS (by decide))
  go_wp2_with fail
  (try rw [hV])
  (try clear hV)
  refine (sliceK (HX.out _ (B1.trans (U2.mono B1.size))) D2 some_not (by decide) O1.out (by decide) C2.out).mono ?_
  rintro e z2 ⟨hg, hz⟩
  rw [S2.out, Q2.out] at hg
  obtain ⟨ra2, rb2, rca2, rcb2, rfl, T2⟩ := hg
  obtain ⟨V3, hV⟩ : ∃ X, z2.alloc (.cells #[.slice ra2 2 rca2, .slice rb2 2 rcb2] 26) = X := ⟨_, rfl⟩
  have bz : Below z2.heap.size z2 V3 := by rw [← hV]; exact (Below.refl _ _).alloc (Nat.le_refl _) _
  have N2 : Row V3 z2.heap.size 26 #[.slice ra2 2 rca2, .slice rb2 2 rcb2] := by rw [← hV]; exact Row.new _ _ _
  have hzW : Below V2.heap.size V2 z2 := U2.trans (hz.mono U2.size)
  have E2 : Below V2.heap.size V2 V3 := hzW.trans (bz.mono hzW.size)
  have B2 : Below V.heap.size V V3 := B1.trans (E2.mono B1.size)
  have M2 := Lib.hid (T2.later bz)
  replace N1 := N1.later E2
  replace M1 := Lib.hid (M1.out.later E2)
  clear x0 x1 T2 hz bz hzW U2 D2
  obtain ⟨x0, x1, _, _⟩ := (R0.later B2).two
  have U3 : Below V3.heap.size V3 (V3.alloc (.cells #[.int .i64 0, .int .i64 0, .int .i64 1, .int .i64 0] 3)) := (Below.refl _ _).alloc (Nat.le_refl _) _
  have D3 : ArgS (V3.alloc (.cells #[.int .i64 0, .int .i64 0, .int .i64 1, .int .i64 0] 3)) (.slice (some ⟨V3.heap.size, 0, none⟩) 4 4) [0, 0, 1, 0] (some ⟨V3.heap.size, 0, none⟩) 4 := Row.argS (Row.new V3 3 #[.int .i64 0, .int .i64 0, .int .i64 1, .int .i64 0]) [0, 0, 1, 0] rfl (widS (by decide))
  obtain ⟨x0, x1, _, _⟩ := N2.two
  go_wp2_with fail
  (try rw [hV])
  (try clear hV)
  refine (padK (M2.out.later U3) D3 some_not (by decide) O2.out (by decide) C3.out).mono ?_
  rintro e z3 ⟨hg, hz⟩
  rw [S3.out, Q3.out] at hg
  obtain ⟨ra3, rb3, rca3, rcb3, rfl, T3⟩ := hg
  obtain ⟨V4, hV⟩ : ∃ X, z3.alloc (.cells #[.slice ra3 2 rca3, .slice rb3 3 rcb3] 26) = X := ⟨_, rfl⟩
  have bz : Below z3.heap.size z3 V4 := by rw [← hV]; exact (Below.refl _ _).alloc (Nat.le_refl _) _
  have N3 : Row V4 z3.heap.size 26 #[.slice ra3 2 rca3, .slice rb3 3 rcb3] := by rw [← hV]; exact Row.new _ _ _
  have hzW : Below V3.heap.size V3 z3 := U3.trans (hz.mono U3.size)
  have E3 : Below V3.heap.size V3 V4 := hzW.trans (bz.mono hzW.size)
  have B3 : Below V.heap.size V V4 := B2.trans (E3.mono B2.size)
  have M3 := Lib.hid (T3.later bz)
  replace N1 := N1.later E3
  replace M1 := Lib.hid (M1.out.later E3)
  replace N2 := N2.later E3
  replace M2 := Lib.hid (M2.out.later E3)
  clear x0 x1 T3 hz bz hzW U3 D3
  go_wp2_with fail
  (try rw [hV])
  (try clear hV)
  clear R0 HX B0 B1
  have mkS : ∀ X, Below V4.heap.size V4 X → X.cell? ⟨z1.heap.size, 0, none⟩ = some (.slice ra1 2 rca1) ∧ X.cell? ⟨z1.heap.size, 1, none⟩ = some (.slice rb1 6 rcb1) ∧ X.cell? ⟨z2.heap.size, 0, none⟩ = some (.slice ra2 2 rca2) ∧ X.cell? ⟨z2.heap.size, 1, none⟩ = some (.slice rb2 2 rcb2) ∧ X.cell? ⟨z3.heap.size, 0, none⟩ = some (.slice ra3 2 rca3) ∧ X.cell? ⟨z3.heap.size, 1, none⟩ = some (.slice rb3 3 rcb3) := fun X h => by
    obtain ⟨g0, g1, _⟩ := (N1.later h).two
    obtain ⟨g2, g3, _⟩ := (N2.later h).two
    obtain ⟨g4, g5, _⟩ := (N3.later h).two
    exact ⟨g0, g1, g2, g3, g4, g5⟩
  have BU : Below w.heap.size w V4 := BV.trans (B3.mono BV.size)
  refine wp_region_held_drew (S := fun X => X.cell? ⟨z1.heap.size, 0, none⟩ = some (.slice ra1 2 rca1) ∧ X.cell? ⟨z1.heap.size, 1, none⟩ = some (.slice rb1 6 rcb1) ∧ X.cell? ⟨z2.heap.size, 0, none⟩ = some (.slice ra2 2 rca2) ∧ X.cell? ⟨z2.heap.size, 1, none⟩ = some (.slice rb2 2 rcb2) ∧ X.cell? ⟨z3.heap.size, 0, none⟩ = some (.slice ra3 2 rca3) ∧ X.cell? ⟨z3.heap.size, 1, none⟩ = some (.slice rb3 3 rcb3)) (by kernel_rfl) (mkS _ ((Below.refl V4.heap.size V4).drew)) (fun hHeld => ?_)
  refine wpAnyH_take (i := 0) (v := ?vT1_0) rfl (by kernel_rfl) (by kernel_rfl) (by kernel_rfl) (fun _ _ _ h => h) (Or.inl ⟨by rfl, ?hT1_0⟩) (by assumption) ?rT1_0
  case hT1_0 =>
    intro w hSw
    try dsimp only at hSw
    go_simp
    try with_reducible rfl
  try simp only [Act.put, List.getElem_toArray, List.getElem_cons_succ, List.getElem_cons_zero, List.setIfInBounds_toArray, List.set_cons_zero, List.set_cons_succ]
  refine wpAnyH_take (i := 1) (v := ?vT2_1) rfl (by kernel_rfl) (by kernel_rfl) (by kernel_rfl) (fun _ _ _ h => h) (Or.inl ⟨by rfl, ?hT2_1⟩) (by assumption) ?rT2_1
  case hT2_1 =>
    intro w hSw
    try dsimp only at hSw
    go_simp
    try with_reducible rfl
  try simp only [Act.put, List.getElem_toArray, List.getElem_cons_succ, List.getElem_cons_zero, List.setIfInBounds_toArray, List.set_cons_zero, List.set_cons_succ]
  refine wpAnyH_take (i := 2) (v := ?vT3_2) rfl (by kernel_rfl) (by kernel_rfl) (by kernel_rfl) (fun _ _ _ h => h) (Or.inl ⟨by rfl, ?hT3_2⟩) (by assumption) ?rT3_2
  case hT3_2 =>
    intro w hSw
    try dsimp only at hSw
    go_simp
    try with_reducible rfl
  try simp only [Act.put, List.getElem_toArray, List.getElem_cons_succ, List.getElem_cons_zero, List.setIfInBounds_toArray, List.set_cons_zero, List.set_cons_succ]
  refine wpAnyH_take (i := 3) (v := ?vT4_3) rfl (by kernel_rfl) (by kernel_rfl) (by kernel_rfl) (fun _ _ _ h => h) (Or.inl ⟨by rfl, ?hT4_3⟩) (by assumption) ?rT4_3
  case hT4_3 =>
    intro w hSw
    try dsimp only at hSw
    go_simp
    try with_reducible rfl
  try simp only [Act.put, List.getElem_toArray, List.getElem_cons_succ, List.getElem_cons_zero, List.setIfInBounds_toArray, List.set_cons_zero, List.set_cons_succ]
  refine wpAnyH_take (i := 4) (v := ?vT5_4) rfl (by kernel_rfl) (by kernel_rfl) (by kernel_rfl) (fun _ _ _ h => h) (Or.inl ⟨by rfl, ?hT5_4⟩) (by assumption) ?rT5_4
  case hT5_4 =>
    intro w hSw
    try dsimp only at hSw
    go_simp
    try with_reducible rfl
  try simp only [Act.put, List.getElem_toArray, List.getElem_cons_succ, List.getElem_cons_zero, List.setIfInBounds_toArray, List.set_cons_zero, List.set_cons_succ]
  refine wpAnyH_take (i := 5) (v := ?vT6_5) rfl (by kernel_rfl) (by kernel_rfl) (by kernel_rfl) (fun _ _ _ h => h) (Or.inl ⟨by rfl, ?hT6_5⟩) (by assumption) ?rT6_5
  case hT6_5 =>
    intro w hSw
    try dsimp only at hSw
    go_simp
    try with_reducible rfl
  try simp only [Act.put, List.getElem_toArray, List.getElem_cons_succ, List.getElem_cons_zero, List.setIfInBounds_toArray, List.set_cons_zero, List.set_cons_succ]
  refine wpAnyH_take (i := 6) (v := ?vT7_6) rfl (by kernel_rfl) (by kernel_rfl) (by kernel_rfl) (fun _ _ _ h => h) (Or.inl ⟨by rfl, ?hT7_6⟩) (by assumption) ?rT7_6
  case hT7_6 =>
    intro w hSw
    try dsimp only at hSw
    go_simp
    try with_reducible rfl
  try simp only [Act.put, List.getElem_toArray, List.getElem_cons_succ, List.getElem_cons_zero, List.setIfInBounds_toArray, List.set_cons_zero, List.set_cons_succ]
  refine wpAnyH_take (i := 7) (v := ?vT8_7) rfl (by kernel_rfl) (by kernel_rfl) (by kernel_rfl) (fun _ _ _ h => h) (Or.inl ⟨by rfl, ?hT8_7⟩) (by assumption) ?rT8_7
  case hT8_7 =>
    intro w hSw
    try dsimp only at hSw
    go_simp
    try with_reducible rfl
  try simp only [Act.put, List.getElem_toArray, List.getElem_cons_succ, List.getElem_cons_zero, List.setIfInBounds_toArray, List.set_cons_zero, List.set_cons_succ]
  refine wpAnyH_take (i := 8) (v := ?vT9_8) rfl (by kernel_rfl) (by kernel_rfl) (by kernel_rfl) (fun _ _ _ h => h) (Or.inl ⟨by rfl, ?hT9_8⟩) (by assumption) ?rT9_8
  case hT9_8 =>
    intro w hSw
    try dsimp only at hSw
    go_simp
    try with_reducible rfl
  try simp only [Act.put, List.getElem_toArray, List.getElem_cons_succ, List.getElem_cons_zero, List.setIfInBounds_toArray, List.set_cons_zero, List.set_cons_succ]
  refine wpAnyH_take (i := 9) (v := ?vT10_9) rfl (by kernel_rfl) (by kernel_rfl) (by kernel_rfl) (fun _ _ _ h => h) (Or.inl ⟨by rfl, ?hT10_9⟩) (by assumption) ?rT10_9
  case hT10_9 =>
    intro w hSw
    try dsimp only at hSw
    go_simp
    try with_reducible rfl
  try simp only [Act.put, List.getElem_toArray, List.getElem_cons_succ, List.getElem_cons_zero, List.setIfInBounds_toArray, List.set_cons_zero, List.set_cons_succ]
  refine wpAnyH_take (i := 10) (v := ?vT11_10) rfl (by kernel_rfl) (by kernel_rfl) (by kernel_rfl) (fun _ _ _ h => h) (Or.inl ⟨by rfl, ?hT11_10⟩) (by assumption) ?rT11_10
  case hT11_10 =>
    intro w hSw
    try dsimp only at hSw
    go_simp
    try with_reducible rfl
  try simp only [Act.put, List.getElem_toArray, List.getElem_cons_succ, List.getElem_cons_zero, List.setIfInBounds_toArray, List.set_cons_zero, List.set_cons_succ]
  refine wpAnyH_take (i := 11) (v := ?vT12_11) rfl (by kernel_rfl) (by kernel_rfl) (by kernel_rfl) (fun _ _ _ h => h) (Or.inl ⟨by rfl, ?hT12_11⟩) (by assumption) ?rT12_11
  case hT12_11 =>
    intro w hSw
    try dsimp only at hSw
    go_simp
    try with_reducible rfl
  try simp only [Act.put, List.getElem_toArray, List.getElem_cons_succ, List.getElem_cons_zero, List.setIfInBounds_toArray, List.set_cons_zero, List.set_cons_succ]
  obtain ⟨K0, hV0⟩ : ∃ Y, V4.drew = Y := ⟨_, rfl⟩
  rw [hV0] at hHeld
  rw [hV0]
  have hb0 : Below V4.heap.size V4 K0 := by rw [← hV0]; exact (Below.refl _ _).drew
  have hs0 : V4.heap.size ≤ K0.heap.size := hb0.size
  clear hV0
  refine wpAnyH_ready (rs := [12, 13]) (by kernel_rfl) (by simp) ?_
  refine AllReadyH.cons rfl (fun K hK => ?o13_12) (AllReadyH.cons rfl (fun K hK => ?o13_13) AllReadyH.nil)
  case o13_12 =>
    go_simp
    refine afterAlloc (fun K14 hc14 hl14 zn14 => ?_)
    have hbK14 : Below V4.heap.size V4 K14 := hb0.trans (hc14.mono hs0)
    have hsK14 : V4.heap.size ≤ K14.heap.size := hbK14.size
    refine hK.out _ _ (mkS _ hbK14) (fun hHeld2 => ?_)
    clear hK K hHeld
    have hHeld := hHeld2
    clear hHeld2
    try simp only [Act.put, List.getElem_toArray, List.getElem_cons_succ, List.getElem_cons_zero, List.setIfInBounds_toArray, List.set_cons_zero, List.set_cons_succ]
    refine wpAnyH_ready (rs := [13]) (by kernel_rfl) (by simp) ?_
    refine AllReadyH.cons rfl (fun K hK => ?o15_13) AllReadyH.nil
    go_simp
    refine afterAlloc (fun K16 hc16 hl16 zn16 => ?_)
    have hbK16 : Below V4.heap.size V4 K16 := hbK14.trans (hc16.mono hsK14)
    have hsK16 : V4.heap.size ≤ K16.heap.size := hbK16.size
    have za12K16 := zn14.later hc16
    have lta12K16 := za12K16.lt
    refine hK.out _ _ (mkS _ hbK16) (fun hHeld2 => ?_)
    clear hK K hHeld
    have hHeld := hHeld2
    clear hHeld2
    try simp only [Act.put, List.getElem_toArray, List.getElem_cons_succ, List.getElem_cons_zero, List.setIfInBounds_toArray, List.set_cons_zero, List.set_cons_succ]
    refine wpAnyH_ready (rs := [14]) (by kernel_rfl) (by simp) ?_
    refine AllReadyH.cons rfl (fun K hK => ?o17_14) AllReadyH.nil
    go_simp
    refine (whole9_any (s := [3, 2]) (xs := [1, 4, 2, 5, 3, 6]) (Row.argS za12K16 [3, 2] rfl (widS (by decide))) some_not (Row.argS zn16 [1, 4, 2, 5, 3, 6] rfl (widS (by decide))) (by decide) (by decide)).mono ?_
    rintro e K18 ⟨q18, rfl, tq18, hc18⟩
    have tf18 := Lib.hid tq18
    obtain ⟨_, _, _, _, rfl, _⟩ := tq18
    go_simp
    have hbK18 : Below V4.heap.size V4 K18 := hbK16.trans (hc18.mono hsK16)
    have hsK18 : V4.heap.size ≤ K18.heap.size := hbK18.size
    have za12K18 := za12K16.later hc18
    have lta12K18 := za12K18.lt
    have za13K18 := zn16.later hc18
    have lta13K18 := za13K18.lt
    refine hK.out _ _ (mkS _ hbK18) (fun hHeld2 => ?_)
    clear hK K hHeld
    have hHeld := hHeld2
    clear hHeld2
    try simp only [Act.put, List.getElem_toArray, List.getElem_cons_succ, List.getElem_cons_zero, List.setIfInBounds_toArray, List.set_cons_zero, List.set_cons_succ]
    refine wpAnyH_ready (rs := [15]) (by kernel_rfl) (by simp) ?_
    refine AllReadyH.cons rfl (fun K hK => ?o19_15) AllReadyH.nil
    go_simp
    refine (sameK9 (M1.out.later hbK18) tf18.out (by decide) (by decide) (by decide) (by decide)).mono ?_
    rintro e K20 ⟨rfl, hc20⟩
    go_simp
    have hbK20 : Below V4.heap.size V4 K20 := hbK18.trans (hc20.mono hsK18)
    have hsK20 : V4.heap.size ≤ K20.heap.size := hbK20.size
    have w1K20 := tf18.out.later hc20
    have za12K20 := za12K18.later hc20
    have lta12K20 := za12K20.lt
    have za13K20 := za13K18.later hc20
    have lta13K20 := za13K20.lt
    refine hK.out _ _ (mkS _ hbK20) (fun hHeld2 => ?_)
    clear hK K hHeld
    have hHeld := hHeld2
    clear hHeld2
    try simp only [Act.put, List.getElem_toArray, List.getElem_cons_succ, List.getElem_cons_zero, List.setIfInBounds_toArray, List.set_cons_zero, List.set_cons_succ]
    refine wpAnyH_take (i := 16) (v := ?vT21_16) rfl (by kernel_rfl) (by kernel_rfl) (by kernel_rfl) (fun _ _ _ h => h) (Or.inl ⟨by rfl, ?hT21_16⟩) (by assumption) ?rT21_16
    case hT21_16 =>
      intro w hSw
      try dsimp only at hSw
      go_simp
      try with_reducible rfl
    try simp only [Act.put, List.getElem_toArray, List.getElem_cons_succ, List.getElem_cons_zero, List.setIfInBounds_toArray, List.set_cons_zero, List.set_cons_succ]
    refine wpAnyH_take (i := 17) (v := ?vT22_17) rfl (by kernel_rfl) (by kernel_rfl) (by kernel_rfl) (fun _ _ _ h => h) (Or.inl ⟨by rfl, ?hT22_17⟩) (by assumption) ?rT22_17
    case hT22_17 =>
      intro w hSw
      try dsimp only at hSw
      go_simp
      try with_reducible rfl
    try simp only [Act.put, List.getElem_toArray, List.getElem_cons_succ, List.getElem_cons_zero, List.setIfInBounds_toArray, List.set_cons_zero, List.set_cons_succ]
    refine wpAnyH_take (i := 18) (v := ?vT23_18) rfl (by kernel_rfl) (by kernel_rfl) (by kernel_rfl) (fun _ _ _ h => h) (Or.inl ⟨by rfl, ?hT23_18⟩) (by assumption) ?rT23_18
    case hT23_18 =>
      intro w hSw
      try dsimp only at hSw
      go_simp
      try with_reducible rfl
    try simp only [Act.put, List.getElem_toArray, List.getElem_cons_succ, List.getElem_cons_zero, List.setIfInBounds_toArray, List.set_cons_zero, List.set_cons_succ]
    refine wpAnyH_ready (rs := [19, 20]) (by kernel_rfl) (by simp) ?_
    refine AllReadyH.cons rfl (fun K hK => ?o24_19) (AllReadyH.cons rfl (fun K hK => ?o24_20) AllReadyH.nil)
    case o24_19 =>
      go_simp
      refine afterAlloc (fun K25 hc25 hl25 zn25 => ?_)
      have hbK25 : Below V4.heap.size V4 K25 := hbK20.trans (hc25.mono hsK20)
      have hsK25 : V4.heap.size ≤ K25.heap.size := hbK25.size
      have w1K25 := w1K20.later hc25
      have za12K25 := za12K20.later hc25
      have lta12K25 := za12K25.lt
      have za13K25 := za13K20.later hc25
      have lta13K25 := za13K25.lt
      refine hK.out _ _ (mkS _ hbK25) (fun hHeld2 => ?_)
      clear hK K hHeld
      have hHeld := hHeld2
      clear hHeld2
      try simp only [Act.put, List.getElem_toArray, List.getElem_cons_succ, List.getElem_cons_zero, List.setIfInBounds_toArray, List.set_cons_zero, List.set_cons_succ]
      refine wpAnyH_ready (rs := [20]) (by kernel_rfl) (by simp) ?_
      refine AllReadyH.cons rfl (fun K hK => ?o26_20) AllReadyH.nil
      go_simp
      refine afterAlloc (fun K27 hc27 hl27 zn27 => ?_)
      have hbK27 : Below V4.heap.size V4 K27 := hbK25.trans (hc27.mono hsK25)
      have hsK27 : V4.heap.size ≤ K27.heap.size := hbK27.size
      have w1K27 := w1K25.later hc27
      have za12K27 := za12K25.later hc27
      have lta12K27 := za12K27.lt
      have za13K27 := za13K25.later hc27
      have lta13K27 := za13K27.lt
      have za19K27 := zn25.later hc27
      have lta19K27 := za19K27.lt
      refine hK.out _ _ (mkS _ hbK27) (fun hHeld2 => ?_)
      clear hK K hHeld
      have hHeld := hHeld2
      clear hHeld2
      try simp only [Act.put, List.getElem_toArray, List.getElem_cons_succ, List.getElem_cons_zero, List.setIfInBounds_toArray, List.set_cons_zero, List.set_cons_succ]
      refine wpAnyH_ready (rs := [21]) (by kernel_rfl) (by simp) ?_
      refine AllReadyH.cons rfl (fun K hK => ?o28_21) AllReadyH.nil
      go_simp
      refine (whole9_any (s := [1, 2]) (xs := [2, 3]) (Row.argS za19K27 [1, 2] rfl (widS (by decide))) some_not (Row.argS zn27 [2, 3] rfl (widS (by decide))) (by decide) (by decide)).mono ?_
      rintro e K29 ⟨q29, rfl, tq29, hc29⟩
      have tf29 := Lib.hid tq29
      obtain ⟨_, _, _, _, rfl, _⟩ := tq29
      go_simp
      have hbK29 : Below V4.heap.size V4 K29 := hbK27.trans (hc29.mono hsK27)
      have hsK29 : V4.heap.size ≤ K29.heap.size := hbK29.size
      have w1K29 := w1K27.later hc29
      have za12K29 := za12K27.later hc29
      have lta12K29 := za12K29.lt
      have za13K29 := za13K27.later hc29
      have lta13K29 := za13K29.lt
      have za19K29 := za19K27.later hc29
      have lta19K29 := za19K29.lt
      have za20K29 := zn27.later hc29
      have lta20K29 := za20K29.lt
      refine hK.out _ _ (mkS _ hbK29) (fun hHeld2 => ?_)
      clear hK K hHeld
      have hHeld := hHeld2
      clear hHeld2
      try simp only [Act.put, List.getElem_toArray, List.getElem_cons_succ, List.getElem_cons_zero, List.setIfInBounds_toArray, List.set_cons_zero, List.set_cons_succ]
      refine wpAnyH_ready (rs := [22]) (by kernel_rfl) (by simp) ?_
      refine AllReadyH.cons rfl (fun K hK => ?o30_22) AllReadyH.nil
      go_simp
      refine (sameK9 (M2.out.later hbK29) tf29.out (by decide) (by decide) (by decide) (by decide)).mono ?_
      rintro e K31 ⟨rfl, hc31⟩
      go_simp
      have hbK31 : Below V4.heap.size V4 K31 := hbK29.trans (hc31.mono hsK29)
      have hsK31 : V4.heap.size ≤ K31.heap.size := hbK31.size
      have w1K31 := w1K29.later hc31
      have w2K31 := tf29.out.later hc31
      have za12K31 := za12K29.later hc31
      have lta12K31 := za12K31.lt
      have za13K31 := za13K29.later hc31
      have lta13K31 := za13K31.lt
      have za19K31 := za19K29.later hc31
      have lta19K31 := za19K31.lt
      have za20K31 := za20K29.later hc31
      have lta20K31 := za20K31.lt
      refine hK.out _ _ (mkS _ hbK31) (fun hHeld2 => ?_)
      clear hK K hHeld
      have hHeld := hHeld2
      clear hHeld2
      try simp only [Act.put, List.getElem_toArray, List.getElem_cons_succ, List.getElem_cons_zero, List.setIfInBounds_toArray, List.set_cons_zero, List.set_cons_succ]
      refine wpAnyH_take (i := 23) (v := ?vT32_23) rfl (by kernel_rfl) (by kernel_rfl) (by kernel_rfl) (fun _ _ _ h => h) (Or.inl ⟨by rfl, ?hT32_23⟩) (by assumption) ?rT32_23
      case hT32_23 =>
        intro w hSw
        try dsimp only at hSw
        go_simp
        try with_reducible rfl
      try simp only [Act.put, List.getElem_toArray, List.getElem_cons_succ, List.getElem_cons_zero, List.setIfInBounds_toArray, List.set_cons_zero, List.set_cons_succ]
      refine wpAnyH_take (i := 24) (v := ?vT33_24) rfl (by kernel_rfl) (by kernel_rfl) (by kernel_rfl) (fun _ _ _ h => h) (Or.inl ⟨by rfl, ?hT33_24⟩) (by assumption) ?rT33_24
      case hT33_24 =>
        intro w hSw
        try dsimp only at hSw
        go_simp
        try with_reducible rfl
      try simp only [Act.put, List.getElem_toArray, List.getElem_cons_succ, List.getElem_cons_zero, List.setIfInBounds_toArray, List.set_cons_zero, List.set_cons_succ]
      refine wpAnyH_take (i := 25) (v := ?vT34_25) rfl (by kernel_rfl) (by kernel_rfl) (by kernel_rfl) (fun _ _ _ h => h) (Or.inl ⟨by rfl, ?hT34_25⟩) (by assumption) ?rT34_25
      case hT34_25 =>
        intro w hSw
        try dsimp only at hSw
        go_simp
        try with_reducible rfl
      try simp only [Act.put, List.getElem_toArray, List.getElem_cons_succ, List.getElem_cons_zero, List.setIfInBounds_toArray, List.set_cons_zero, List.set_cons_succ]
      refine wpAnyH_ready (rs := [26, 27]) (by kernel_rfl) (by simp) ?_
      refine AllReadyH.cons rfl (fun K hK => ?o35_26) (AllReadyH.cons rfl (fun K hK => ?o35_27) AllReadyH.nil)
      case o35_26 =>
        go_simp
        refine afterAlloc (fun K36 hc36 hl36 zn36 => ?_)
        have hbK36 : Below V4.heap.size V4 K36 := hbK31.trans (hc36.mono hsK31)
        have hsK36 : V4.heap.size ≤ K36.heap.size := hbK36.size
        have w1K36 := w1K31.later hc36
        have w2K36 := w2K31.later hc36
        have za12K36 := za12K31.later hc36
        have lta12K36 := za12K36.lt
        have za13K36 := za13K31.later hc36
        have lta13K36 := za13K36.lt
        have za19K36 := za19K31.later hc36
        have lta19K36 := za19K36.lt
        have za20K36 := za20K31.later hc36
        have lta20K36 := za20K36.lt
        refine hK.out _ _ (mkS _ hbK36) (fun hHeld2 => ?_)
        clear hK K hHeld
        have hHeld := hHeld2
        clear hHeld2
        try simp only [Act.put, List.getElem_toArray, List.getElem_cons_succ, List.getElem_cons_zero, List.setIfInBounds_toArray, List.set_cons_zero, List.set_cons_succ]
        refine wpAnyH_ready (rs := [27]) (by kernel_rfl) (by simp) ?_
        refine AllReadyH.cons rfl (fun K hK => ?o37_27) AllReadyH.nil
        go_simp
        refine afterAlloc (fun K38 hc38 hl38 zn38 => ?_)
        have hbK38 : Below V4.heap.size V4 K38 := hbK36.trans (hc38.mono hsK36)
        have hsK38 : V4.heap.size ≤ K38.heap.size := hbK38.size
        have w1K38 := w1K36.later hc38
        have w2K38 := w2K36.later hc38
        have za12K38 := za12K36.later hc38
        have lta12K38 := za12K38.lt
        have za13K38 := za13K36.later hc38
        have lta13K38 := za13K38.lt
        have za19K38 := za19K36.later hc38
        have lta19K38 := za19K38.lt
        have za20K38 := za20K36.later hc38
        have lta20K38 := za20K38.lt
        have za26K38 := zn36.later hc38
        have lta26K38 := za26K38.lt
        refine hK.out _ _ (mkS _ hbK38) (fun hHeld2 => ?_)
        clear hK K hHeld
        have hHeld := hHeld2
        clear hHeld2
        try simp only [Act.put, List.getElem_toArray, List.getElem_cons_succ, List.getElem_cons_zero, List.setIfInBounds_toArray, List.set_cons_zero, List.set_cons_succ]
        refine wpAnyH_ready (rs := [28]) (by kernel_rfl) (by simp) ?_
        refine AllReadyH.cons rfl (fun K hK => ?o39_28) AllReadyH.nil
        go_simp
        refine (whole9_any (s := [1, 3]) (xs := [0, 2, 3]) (Row.argS za26K38 [1, 3] rfl (widS (by decide))) some_not (Row.argS zn38 [0, 2, 3] rfl (widS (by decide))) (by decide) (by decide)).mono ?_
        rintro e K40 ⟨q40, rfl, tq40, hc40⟩
        have tf40 := Lib.hid tq40
        obtain ⟨_, _, _, _, rfl, _⟩ := tq40
        go_simp
        have hbK40 : Below V4.heap.size V4 K40 := hbK38.trans (hc40.mono hsK38)
        have hsK40 : V4.heap.size ≤ K40.heap.size := hbK40.size
        have w1K40 := w1K38.later hc40
        have w2K40 := w2K38.later hc40
        have za12K40 := za12K38.later hc40
        have lta12K40 := za12K40.lt
        have za13K40 := za13K38.later hc40
        have lta13K40 := za13K40.lt
        have za19K40 := za19K38.later hc40
        have lta19K40 := za19K40.lt
        have za20K40 := za20K38.later hc40
        have lta20K40 := za20K40.lt
        have za26K40 := za26K38.later hc40
        have lta26K40 := za26K40.lt
        have za27K40 := zn38.later hc40
        have lta27K40 := za27K40.lt
        refine hK.out _ _ (mkS _ hbK40) (fun hHeld2 => ?_)
        clear hK K hHeld
        have hHeld := hHeld2
        clear hHeld2
        try simp only [Act.put, List.getElem_toArray, List.getElem_cons_succ, List.getElem_cons_zero, List.setIfInBounds_toArray, List.set_cons_zero, List.set_cons_succ]
        refine wpAnyH_ready (rs := [29]) (by kernel_rfl) (by simp) ?_
        refine AllReadyH.cons rfl (fun K hK => ?o41_29) AllReadyH.nil
        go_simp
        refine (sameK9 (M3.out.later hbK40) tf40.out (by decide) (by decide) (by decide) (by decide)).mono ?_
        rintro e K42 ⟨rfl, hc42⟩
        go_simp
        have hbK42 : Below V4.heap.size V4 K42 := hbK40.trans (hc42.mono hsK40)
        have hsK42 : V4.heap.size ≤ K42.heap.size := hbK42.size
        have w1K42 := w1K40.later hc42
        have w2K42 := w2K40.later hc42
        have w3K42 := tf40.out.later hc42
        have za12K42 := za12K40.later hc42
        have lta12K42 := za12K42.lt
        have za13K42 := za13K40.later hc42
        have lta13K42 := za13K42.lt
        have za19K42 := za19K40.later hc42
        have lta19K42 := za19K42.lt
        have za20K42 := za20K40.later hc42
        have lta20K42 := za20K42.lt
        have za26K42 := za26K40.later hc42
        have lta26K42 := za26K42.lt
        have za27K42 := za27K40.later hc42
        have lta27K42 := za27K42.lt
        refine hK.out _ _ (mkS _ hbK42) (fun hHeld2 => ?_)
        clear hK K hHeld
        have hHeld := hHeld2
        clear hHeld2
        try simp only [Act.put, List.getElem_toArray, List.getElem_cons_succ, List.getElem_cons_zero, List.setIfInBounds_toArray, List.set_cons_zero, List.set_cons_succ]
        refine wpAnyH_take (i := 30) (v := ?vT43_30) rfl (by kernel_rfl) (by kernel_rfl) (by kernel_rfl) (fun _ _ _ h => h) (Or.inl ⟨by rfl, ?hT43_30⟩) (by assumption) ?rT43_30
        case hT43_30 =>
          intro w hSw
          try dsimp only at hSw
          go_simp
          try with_reducible rfl
        try simp only [Act.put, List.getElem_toArray, List.getElem_cons_succ, List.getElem_cons_zero, List.setIfInBounds_toArray, List.set_cons_zero, List.set_cons_succ]
        refine wpAnyH_ready (rs := [31]) (by kernel_rfl) (by simp) ?_
        refine AllReadyH.cons rfl (fun K hK => ?sD44_31) AllReadyH.nil
        go_simp
        refine hK.out _ _ ?kD44_31 (fun hHeld => ?mD44_31)
        case kD44_31 =>
          try dsimp only
          exact mkS _ hbK42
        clear hK K
        try simp only [Act.put, List.getElem_toArray, List.getElem_cons_succ, List.getElem_cons_zero, List.setIfInBounds_toArray, List.set_cons_zero, List.set_cons_succ]
        refine wpAnyH_done (by kernel_rfl) ?_ _
        (try dsimp only [Straight])
        go_wp2_with fail
        go_ret
        exact ⟨rfl, BU.trans (hbK42.mono BU.size)⟩
      case o35_27 =>
        go_simp
        refine afterAlloc (fun K45 hc45 hl45 zn45 => ?_)
        have hbK45 : Below V4.heap.size V4 K45 := hbK31.trans (hc45.mono hsK31)
        have hsK45 : V4.heap.size ≤ K45.heap.size := hbK45.size
        have w1K45 := w1K31.later hc45
        have w2K45 := w2K31.later hc45
        have za12K45 := za12K31.later hc45
        have lta12K45 := za12K45.lt
        have za13K45 := za13K31.later hc45
        have lta13K45 := za13K45.lt
        have za19K45 := za19K31.later hc45
        have lta19K45 := za19K45.lt
        have za20K45 := za20K31.later hc45
        have lta20K45 := za20K45.lt
        refine hK.out _ _ (mkS _ hbK45) (fun hHeld2 => ?_)
        clear hK K hHeld
        have hHeld := hHeld2
        clear hHeld2
        try simp only [Act.put, List.getElem_toArray, List.getElem_cons_succ, List.getElem_cons_zero, List.setIfInBounds_toArray, List.set_cons_zero, List.set_cons_succ]
        refine wpAnyH_ready (rs := [26]) (by kernel_rfl) (by simp) ?_
        refine AllReadyH.cons rfl (fun K hK => ?o46_26) AllReadyH.nil
        go_simp
        refine afterAlloc (fun K47 hc47 hl47 zn47 => ?_)
        have hbK47 : Below V4.heap.size V4 K47 := hbK45.trans (hc47.mono hsK45)
        have hsK47 : V4.heap.size ≤ K47.heap.size := hbK47.size
        have w1K47 := w1K45.later hc47
        have w2K47 := w2K45.later hc47
        have za12K47 := za12K45.later hc47
        have lta12K47 := za12K47.lt
        have za13K47 := za13K45.later hc47
        have lta13K47 := za13K47.lt
        have za19K47 := za19K45.later hc47
        have lta19K47 := za19K47.lt
        have za20K47 := za20K45.later hc47
        have lta20K47 := za20K47.lt
        have za27K47 := zn45.later hc47
        have lta27K47 := za27K47.lt
        refine hK.out _ _ (mkS _ hbK47) (fun hHeld2 => ?_)
        clear hK K hHeld
        have hHeld := hHeld2
        clear hHeld2
        try simp only [Act.put, List.getElem_toArray, List.getElem_cons_succ, List.getElem_cons_zero, List.setIfInBounds_toArray, List.set_cons_zero, List.set_cons_succ]
        refine wpAnyH_ready (rs := [28]) (by kernel_rfl) (by simp) ?_
        refine AllReadyH.cons rfl (fun K hK => ?o48_28) AllReadyH.nil
        go_simp
        refine (whole9_any (s := [1, 3]) (xs := [0, 2, 3]) (Row.argS zn47 [1, 3] rfl (widS (by decide))) some_not (Row.argS za27K47 [0, 2, 3] rfl (widS (by decide))) (by decide) (by decide)).mono ?_
        rintro e K49 ⟨q49, rfl, tq49, hc49⟩
        have tf49 := Lib.hid tq49
        obtain ⟨_, _, _, _, rfl, _⟩ := tq49
        go_simp
        have hbK49 : Below V4.heap.size V4 K49 := hbK47.trans (hc49.mono hsK47)
        have hsK49 : V4.heap.size ≤ K49.heap.size := hbK49.size
        have w1K49 := w1K47.later hc49
        have w2K49 := w2K47.later hc49
        have za12K49 := za12K47.later hc49
        have lta12K49 := za12K49.lt
        have za13K49 := za13K47.later hc49
        have lta13K49 := za13K49.lt
        have za19K49 := za19K47.later hc49
        have lta19K49 := za19K49.lt
        have za20K49 := za20K47.later hc49
        have lta20K49 := za20K49.lt
        have za27K49 := za27K47.later hc49
        have lta27K49 := za27K49.lt
        have za26K49 := zn47.later hc49
        have lta26K49 := za26K49.lt
        refine hK.out _ _ (mkS _ hbK49) (fun hHeld2 => ?_)
        clear hK K hHeld
        have hHeld := hHeld2
        clear hHeld2
        try simp only [Act.put, List.getElem_toArray, List.getElem_cons_succ, List.getElem_cons_zero, List.setIfInBounds_toArray, List.set_cons_zero, List.set_cons_succ]
        refine wpAnyH_ready (rs := [29]) (by kernel_rfl) (by simp) ?_
        refine AllReadyH.cons rfl (fun K hK => ?o50_29) AllReadyH.nil
        go_simp
        refine (sameK9 (M3.out.later hbK49) tf49.out (by decide) (by decide) (by decide) (by decide)).mono ?_
        rintro e K51 ⟨rfl, hc51⟩
        go_simp
        have hbK51 : Below V4.heap.size V4 K51 := hbK49.trans (hc51.mono hsK49)
        have hsK51 : V4.heap.size ≤ K51.heap.size := hbK51.size
        have w1K51 := w1K49.later hc51
        have w2K51 := w2K49.later hc51
        have w3K51 := tf49.out.later hc51
        have za12K51 := za12K49.later hc51
        have lta12K51 := za12K51.lt
        have za13K51 := za13K49.later hc51
        have lta13K51 := za13K51.lt
        have za19K51 := za19K49.later hc51
        have lta19K51 := za19K51.lt
        have za20K51 := za20K49.later hc51
        have lta20K51 := za20K51.lt
        have za27K51 := za27K49.later hc51
        have lta27K51 := za27K51.lt
        have za26K51 := za26K49.later hc51
        have lta26K51 := za26K51.lt
        refine hK.out _ _ (mkS _ hbK51) (fun hHeld2 => ?_)
        clear hK K hHeld
        have hHeld := hHeld2
        clear hHeld2
        try simp only [Act.put, List.getElem_toArray, List.getElem_cons_succ, List.getElem_cons_zero, List.setIfInBounds_toArray, List.set_cons_zero, List.set_cons_succ]
        refine wpAnyH_take (i := 30) (v := ?vT52_30) rfl (by kernel_rfl) (by kernel_rfl) (by kernel_rfl) (fun _ _ _ h => h) (Or.inl ⟨by rfl, ?hT52_30⟩) (by assumption) ?rT52_30
        case hT52_30 =>
          intro w hSw
          try dsimp only at hSw
          go_simp
          try with_reducible rfl
        try simp only [Act.put, List.getElem_toArray, List.getElem_cons_succ, List.getElem_cons_zero, List.setIfInBounds_toArray, List.set_cons_zero, List.set_cons_succ]
        refine wpAnyH_ready (rs := [31]) (by kernel_rfl) (by simp) ?_
        refine AllReadyH.cons rfl (fun K hK => ?sD53_31) AllReadyH.nil
        go_simp
        refine hK.out _ _ ?kD53_31 (fun hHeld => ?mD53_31)
        case kD53_31 =>
          try dsimp only
          exact mkS _ hbK51
        clear hK K
        try simp only [Act.put, List.getElem_toArray, List.getElem_cons_succ, List.getElem_cons_zero, List.setIfInBounds_toArray, List.set_cons_zero, List.set_cons_succ]
        refine wpAnyH_done (by kernel_rfl) ?_ _
        (try dsimp only [Straight])
        go_wp2_with fail
        go_ret
        exact ⟨rfl, BU.trans (hbK51.mono BU.size)⟩
    case o24_20 =>
      go_simp
      refine afterAlloc (fun K54 hc54 hl54 zn54 => ?_)
      have hbK54 : Below V4.heap.size V4 K54 := hbK20.trans (hc54.mono hsK20)
      have hsK54 : V4.heap.size ≤ K54.heap.size := hbK54.size
      have w1K54 := w1K20.later hc54
      have za12K54 := za12K20.later hc54
      have lta12K54 := za12K54.lt
      have za13K54 := za13K20.later hc54
      have lta13K54 := za13K54.lt
      refine hK.out _ _ (mkS _ hbK54) (fun hHeld2 => ?_)
      clear hK K hHeld
      have hHeld := hHeld2
      clear hHeld2
      try simp only [Act.put, List.getElem_toArray, List.getElem_cons_succ, List.getElem_cons_zero, List.setIfInBounds_toArray, List.set_cons_zero, List.set_cons_succ]
      refine wpAnyH_ready (rs := [19]) (by kernel_rfl) (by simp) ?_
      refine AllReadyH.cons rfl (fun K hK => ?o55_19) AllReadyH.nil
      go_simp
      refine afterAlloc (fun K56 hc56 hl56 zn56 => ?_)
      have hbK56 : Below V4.heap.size V4 K56 := hbK54.trans (hc56.mono hsK54)
      have hsK56 : V4.heap.size ≤ K56.heap.size := hbK56.size
      have w1K56 := w1K54.later hc56
      have za12K56 := za12K54.later hc56
      have lta12K56 := za12K56.lt
      have za13K56 := za13K54.later hc56
      have lta13K56 := za13K56.lt
      have za20K56 := zn54.later hc56
      have lta20K56 := za20K56.lt
      refine hK.out _ _ (mkS _ hbK56) (fun hHeld2 => ?_)
      clear hK K hHeld
      have hHeld := hHeld2
      clear hHeld2
      try simp only [Act.put, List.getElem_toArray, List.getElem_cons_succ, List.getElem_cons_zero, List.setIfInBounds_toArray, List.set_cons_zero, List.set_cons_succ]
      refine wpAnyH_ready (rs := [21]) (by kernel_rfl) (by simp) ?_
      refine AllReadyH.cons rfl (fun K hK => ?o57_21) AllReadyH.nil
      go_simp
      refine (whole9_any (s := [1, 2]) (xs := [2, 3]) (Row.argS zn56 [1, 2] rfl (widS (by decide))) some_not (Row.argS za20K56 [2, 3] rfl (widS (by decide))) (by decide) (by decide)).mono ?_
      rintro e K58 ⟨q58, rfl, tq58, hc58⟩
      have tf58 := Lib.hid tq58
      obtain ⟨_, _, _, _, rfl, _⟩ := tq58
      go_simp
      have hbK58 : Below V4.heap.size V4 K58 := hbK56.trans (hc58.mono hsK56)
      have hsK58 : V4.heap.size ≤ K58.heap.size := hbK58.size
      have w1K58 := w1K56.later hc58
      have za12K58 := za12K56.later hc58
      have lta12K58 := za12K58.lt
      have za13K58 := za13K56.later hc58
      have lta13K58 := za13K58.lt
      have za20K58 := za20K56.later hc58
      have lta20K58 := za20K58.lt
      have za19K58 := zn56.later hc58
      have lta19K58 := za19K58.lt
      refine hK.out _ _ (mkS _ hbK58) (fun hHeld2 => ?_)
      clear hK K hHeld
      have hHeld := hHeld2
      clear hHeld2
      try simp only [Act.put, List.getElem_toArray, List.getElem_cons_succ, List.getElem_cons_zero, List.setIfInBounds_toArray, List.set_cons_zero, List.set_cons_succ]
      refine wpAnyH_ready (rs := [22]) (by kernel_rfl) (by simp) ?_
      refine AllReadyH.cons rfl (fun K hK => ?o59_22) AllReadyH.nil
      go_simp
      refine (sameK9 (M2.out.later hbK58) tf58.out (by decide) (by decide) (by decide) (by decide)).mono ?_
      rintro e K60 ⟨rfl, hc60⟩
      go_simp
      have hbK60 : Below V4.heap.size V4 K60 := hbK58.trans (hc60.mono hsK58)
      have hsK60 : V4.heap.size ≤ K60.heap.size := hbK60.size
      have w1K60 := w1K58.later hc60
      have w2K60 := tf58.out.later hc60
      have za12K60 := za12K58.later hc60
      have lta12K60 := za12K60.lt
      have za13K60 := za13K58.later hc60
      have lta13K60 := za13K60.lt
      have za20K60 := za20K58.later hc60
      have lta20K60 := za20K60.lt
      have za19K60 := za19K58.later hc60
      have lta19K60 := za19K60.lt
      refine hK.out _ _ (mkS _ hbK60) (fun hHeld2 => ?_)
      clear hK K hHeld
      have hHeld := hHeld2
      clear hHeld2
      try simp only [Act.put, List.getElem_toArray, List.getElem_cons_succ, List.getElem_cons_zero, List.setIfInBounds_toArray, List.set_cons_zero, List.set_cons_succ]
      refine wpAnyH_take (i := 23) (v := ?vT61_23) rfl (by kernel_rfl) (by kernel_rfl) (by kernel_rfl) (fun _ _ _ h => h) (Or.inl ⟨by rfl, ?hT61_23⟩) (by assumption) ?rT61_23
      case hT61_23 =>
        intro w hSw
        try dsimp only at hSw
        go_simp
        try with_reducible rfl
      try simp only [Act.put, List.getElem_toArray, List.getElem_cons_succ, List.getElem_cons_zero, List.setIfInBounds_toArray, List.set_cons_zero, List.set_cons_succ]
      refine wpAnyH_take (i := 24) (v := ?vT62_24) rfl (by kernel_rfl) (by kernel_rfl) (by kernel_rfl) (fun _ _ _ h => h) (Or.inl ⟨by rfl, ?hT62_24⟩) (by assumption) ?rT62_24
      case hT62_24 =>
        intro w hSw
        try dsimp only at hSw
        go_simp
        try with_reducible rfl
      try simp only [Act.put, List.getElem_toArray, List.getElem_cons_succ, List.getElem_cons_zero, List.setIfInBounds_toArray, List.set_cons_zero, List.set_cons_succ]
      refine wpAnyH_take (i := 25) (v := ?vT63_25) rfl (by kernel_rfl) (by kernel_rfl) (by kernel_rfl) (fun _ _ _ h => h) (Or.inl ⟨by rfl, ?hT63_25⟩) (by assumption) ?rT63_25
      case hT63_25 =>
        intro w hSw
        try dsimp only at hSw
        go_simp
        try with_reducible rfl
      try simp only [Act.put, List.getElem_toArray, List.getElem_cons_succ, List.getElem_cons_zero, List.setIfInBounds_toArray, List.set_cons_zero, List.set_cons_succ]
      refine wpAnyH_ready (rs := [26, 27]) (by kernel_rfl) (by simp) ?_
      refine AllReadyH.cons rfl (fun K hK => ?o64_26) (AllReadyH.cons rfl (fun K hK => ?o64_27) AllReadyH.nil)
      case o64_26 =>
        go_simp
        refine afterAlloc (fun K65 hc65 hl65 zn65 => ?_)
        have hbK65 : Below V4.heap.size V4 K65 := hbK60.trans (hc65.mono hsK60)
        have hsK65 : V4.heap.size ≤ K65.heap.size := hbK65.size
        have w1K65 := w1K60.later hc65
        have w2K65 := w2K60.later hc65
        have za12K65 := za12K60.later hc65
        have lta12K65 := za12K65.lt
        have za13K65 := za13K60.later hc65
        have lta13K65 := za13K65.lt
        have za20K65 := za20K60.later hc65
        have lta20K65 := za20K65.lt
        have za19K65 := za19K60.later hc65
        have lta19K65 := za19K65.lt
        refine hK.out _ _ (mkS _ hbK65) (fun hHeld2 => ?_)
        clear hK K hHeld
        have hHeld := hHeld2
        clear hHeld2
        try simp only [Act.put, List.getElem_toArray, List.getElem_cons_succ, List.getElem_cons_zero, List.setIfInBounds_toArray, List.set_cons_zero, List.set_cons_succ]
        refine wpAnyH_ready (rs := [27]) (by kernel_rfl) (by simp) ?_
        refine AllReadyH.cons rfl (fun K hK => ?o66_27) AllReadyH.nil
        go_simp
        refine afterAlloc (fun K67 hc67 hl67 zn67 => ?_)
        have hbK67 : Below V4.heap.size V4 K67 := hbK65.trans (hc67.mono hsK65)
        have hsK67 : V4.heap.size ≤ K67.heap.size := hbK67.size
        have w1K67 := w1K65.later hc67
        have w2K67 := w2K65.later hc67
        have za12K67 := za12K65.later hc67
        have lta12K67 := za12K67.lt
        have za13K67 := za13K65.later hc67
        have lta13K67 := za13K67.lt
        have za20K67 := za20K65.later hc67
        have lta20K67 := za20K67.lt
        have za19K67 := za19K65.later hc67
        have lta19K67 := za19K67.lt
        have za26K67 := zn65.later hc67
        have lta26K67 := za26K67.lt
        refine hK.out _ _ (mkS _ hbK67) (fun hHeld2 => ?_)
        clear hK K hHeld
        have hHeld := hHeld2
        clear hHeld2
        try simp only [Act.put, List.getElem_toArray, List.getElem_cons_succ, List.getElem_cons_zero, List.setIfInBounds_toArray, List.set_cons_zero, List.set_cons_succ]
        refine wpAnyH_ready (rs := [28]) (by kernel_rfl) (by simp) ?_
        refine AllReadyH.cons rfl (fun K hK => ?o68_28) AllReadyH.nil
        go_simp
        refine (whole9_any (s := [1, 3]) (xs := [0, 2, 3]) (Row.argS za26K67 [1, 3] rfl (widS (by decide))) some_not (Row.argS zn67 [0, 2, 3] rfl (widS (by decide))) (by decide) (by decide)).mono ?_
        rintro e K69 ⟨q69, rfl, tq69, hc69⟩
        have tf69 := Lib.hid tq69
        obtain ⟨_, _, _, _, rfl, _⟩ := tq69
        go_simp
        have hbK69 : Below V4.heap.size V4 K69 := hbK67.trans (hc69.mono hsK67)
        have hsK69 : V4.heap.size ≤ K69.heap.size := hbK69.size
        have w1K69 := w1K67.later hc69
        have w2K69 := w2K67.later hc69
        have za12K69 := za12K67.later hc69
        have lta12K69 := za12K69.lt
        have za13K69 := za13K67.later hc69
        have lta13K69 := za13K69.lt
        have za20K69 := za20K67.later hc69
        have lta20K69 := za20K69.lt
        have za19K69 := za19K67.later hc69
        have lta19K69 := za19K69.lt
        have za26K69 := za26K67.later hc69
        have lta26K69 := za26K69.lt
        have za27K69 := zn67.later hc69
        have lta27K69 := za27K69.lt
        refine hK.out _ _ (mkS _ hbK69) (fun hHeld2 => ?_)
        clear hK K hHeld
        have hHeld := hHeld2
        clear hHeld2
        try simp only [Act.put, List.getElem_toArray, List.getElem_cons_succ, List.getElem_cons_zero, List.setIfInBounds_toArray, List.set_cons_zero, List.set_cons_succ]
        refine wpAnyH_ready (rs := [29]) (by kernel_rfl) (by simp) ?_
        refine AllReadyH.cons rfl (fun K hK => ?o70_29) AllReadyH.nil
        go_simp
        refine (sameK9 (M3.out.later hbK69) tf69.out (by decide) (by decide) (by decide) (by decide)).mono ?_
        rintro e K71 ⟨rfl, hc71⟩
        go_simp
        have hbK71 : Below V4.heap.size V4 K71 := hbK69.trans (hc71.mono hsK69)
        have hsK71 : V4.heap.size ≤ K71.heap.size := hbK71.size
        have w1K71 := w1K69.later hc71
        have w2K71 := w2K69.later hc71
        have w3K71 := tf69.out.later hc71
        have za12K71 := za12K69.later hc71
        have lta12K71 := za12K71.lt
        have za13K71 := za13K69.later hc71
        have lta13K71 := za13K71.lt
        have za20K71 := za20K69.later hc71
        have lta20K71 := za20K71.lt
        have za19K71 := za19K69.later hc71
        have lta19K71 := za19K71.lt
        have za26K71 := za26K69.later hc71
        have lta26K71 := za26K71.lt
        have za27K71 := za27K69.later hc71
        have lta27K71 := za27K71.lt
        refine hK.out _ _ (mkS _ hbK71) (fun hHeld2 => ?_)
        clear hK K hHeld
        have hHeld := hHeld2
        clear hHeld2
        try simp only [Act.put, List.getElem_toArray, List.getElem_cons_succ, List.getElem_cons_zero, List.setIfInBounds_toArray, List.set_cons_zero, List.set_cons_succ]
        refine wpAnyH_take (i := 30) (v := ?vT72_30) rfl (by kernel_rfl) (by kernel_rfl) (by kernel_rfl) (fun _ _ _ h => h) (Or.inl ⟨by rfl, ?hT72_30⟩) (by assumption) ?rT72_30
        case hT72_30 =>
          intro w hSw
          try dsimp only at hSw
          go_simp
          try with_reducible rfl
        try simp only [Act.put, List.getElem_toArray, List.getElem_cons_succ, List.getElem_cons_zero, List.setIfInBounds_toArray, List.set_cons_zero, List.set_cons_succ]
        refine wpAnyH_ready (rs := [31]) (by kernel_rfl) (by simp) ?_
        refine AllReadyH.cons rfl (fun K hK => ?sD73_31) AllReadyH.nil
        go_simp
        refine hK.out _ _ ?kD73_31 (fun hHeld => ?mD73_31)
        case kD73_31 =>
          try dsimp only
          exact mkS _ hbK71
        clear hK K
        try simp only [Act.put, List.getElem_toArray, List.getElem_cons_succ, List.getElem_cons_zero, List.setIfInBounds_toArray, List.set_cons_zero, List.set_cons_succ]
        refine wpAnyH_done (by kernel_rfl) ?_ _
        (try dsimp only [Straight])
        go_wp2_with fail
        go_ret
        exact ⟨rfl, BU.trans (hbK71.mono BU.size)⟩
      case o64_27 =>
        go_simp
        refine afterAlloc (fun K74 hc74 hl74 zn74 => ?_)
        have hbK74 : Below V4.heap.size V4 K74 := hbK60.trans (hc74.mono hsK60)
        have hsK74 : V4.heap.size ≤ K74.heap.size := hbK74.size
        have w1K74 := w1K60.later hc74
        have w2K74 := w2K60.later hc74
        have za12K74 := za12K60.later hc74
        have lta12K74 := za12K74.lt
        have za13K74 := za13K60.later hc74
        have lta13K74 := za13K74.lt
        have za20K74 := za20K60.later hc74
        have lta20K74 := za20K74.lt
        have za19K74 := za19K60.later hc74
        have lta19K74 := za19K74.lt
        refine hK.out _ _ (mkS _ hbK74) (fun hHeld2 => ?_)
        clear hK K hHeld
        have hHeld := hHeld2
        clear hHeld2
        try simp only [Act.put, List.getElem_toArray, List.getElem_cons_succ, List.getElem_cons_zero, List.setIfInBounds_toArray, List.set_cons_zero, List.set_cons_succ]
        refine wpAnyH_ready (rs := [26]) (by kernel_rfl) (by simp) ?_
        refine AllReadyH.cons rfl (fun K hK => ?o75_26) AllReadyH.nil
        go_simp
        refine afterAlloc (fun K76 hc76 hl76 zn76 => ?_)
        have hbK76 : Below V4.heap.size V4 K76 := hbK74.trans (hc76.mono hsK74)
        have hsK76 : V4.heap.size ≤ K76.heap.size := hbK76.size
        have w1K76 := w1K74.later hc76
        have w2K76 := w2K74.later hc76
        have za12K76 := za12K74.later hc76
        have lta12K76 := za12K76.lt
        have za13K76 := za13K74.later hc76
        have lta13K76 := za13K76.lt
        have za20K76 := za20K74.later hc76
        have lta20K76 := za20K76.lt
        have za19K76 := za19K74.later hc76
        have lta19K76 := za19K76.lt
        have za27K76 := zn74.later hc76
        have lta27K76 := za27K76.lt
        refine hK.out _ _ (mkS _ hbK76) (fun hHeld2 => ?_)
        clear hK K hHeld
        have hHeld := hHeld2
        clear hHeld2
        try simp only [Act.put, List.getElem_toArray, List.getElem_cons_succ, List.getElem_cons_zero, List.setIfInBounds_toArray, List.set_cons_zero, List.set_cons_succ]
        refine wpAnyH_ready (rs := [28]) (by kernel_rfl) (by simp) ?_
        refine AllReadyH.cons rfl (fun K hK => ?o77_28) AllReadyH.nil
        go_simp
        refine (whole9_any (s := [1, 3]) (xs := [0, 2, 3]) (Row.argS zn76 [1, 3] rfl (widS (by decide))) some_not (Row.argS za27K76 [0, 2, 3] rfl (widS (by decide))) (by decide) (by decide)).mono ?_
        rintro e K78 ⟨q78, rfl, tq78, hc78⟩
        have tf78 := Lib.hid tq78
        obtain ⟨_, _, _, _, rfl, _⟩ := tq78
        go_simp
        have hbK78 : Below V4.heap.size V4 K78 := hbK76.trans (hc78.mono hsK76)
        have hsK78 : V4.heap.size ≤ K78.heap.size := hbK78.size
        have w1K78 := w1K76.later hc78
        have w2K78 := w2K76.later hc78
        have za12K78 := za12K76.later hc78
        have lta12K78 := za12K78.lt
        have za13K78 := za13K76.later hc78
        have lta13K78 := za13K78.lt
        have za20K78 := za20K76.later hc78
        have lta20K78 := za20K78.lt
        have za19K78 := za19K76.later hc78
        have lta19K78 := za19K78.lt
        have za27K78 := za27K76.later hc78
        have lta27K78 := za27K78.lt
        have za26K78 := zn76.later hc78
        have lta26K78 := za26K78.lt
        refine hK.out _ _ (mkS _ hbK78) (fun hHeld2 => ?_)
        clear hK K hHeld
        have hHeld := hHeld2
        clear hHeld2
        try simp only [Act.put, List.getElem_toArray, List.getElem_cons_succ, List.getElem_cons_zero, List.setIfInBounds_toArray, List.set_cons_zero, List.set_cons_succ]
        refine wpAnyH_ready (rs := [29]) (by kernel_rfl) (by simp) ?_
        refine AllReadyH.cons rfl (fun K hK => ?o79_29) AllReadyH.nil
        go_simp
        refine (sameK9 (M3.out.later hbK78) tf78.out (by decide) (by decide) (by decide) (by decide)).mono ?_
        rintro e K80 ⟨rfl, hc80⟩
        go_simp
        have hbK80 : Below V4.heap.size V4 K80 := hbK78.trans (hc80.mono hsK78)
        have hsK80 : V4.heap.size ≤ K80.heap.size := hbK80.size
        have w1K80 := w1K78.later hc80
        have w2K80 := w2K78.later hc80
        have w3K80 := tf78.out.later hc80
        have za12K80 := za12K78.later hc80
        have lta12K80 := za12K80.lt
        have za13K80 := za13K78.later hc80
        have lta13K80 := za13K80.lt
        have za20K80 := za20K78.later hc80
        have lta20K80 := za20K80.lt
        have za19K80 := za19K78.later hc80
        have lta19K80 := za19K80.lt
        have za27K80 := za27K78.later hc80
        have lta27K80 := za27K80.lt
        have za26K80 := za26K78.later hc80
        have lta26K80 := za26K80.lt
        refine hK.out _ _ (mkS _ hbK80) (fun hHeld2 => ?_)
        clear hK K hHeld
        have hHeld := hHeld2
        clear hHeld2
        try simp only [Act.put, List.getElem_toArray, List.getElem_cons_succ, List.getElem_cons_zero, List.setIfInBounds_toArray, List.set_cons_zero, List.set_cons_succ]
        refine wpAnyH_take (i := 30) (v := ?vT81_30) rfl (by kernel_rfl) (by kernel_rfl) (by kernel_rfl) (fun _ _ _ h => h) (Or.inl ⟨by rfl, ?hT81_30⟩) (by assumption) ?rT81_30
        case hT81_30 =>
          intro w hSw
          try dsimp only at hSw
          go_simp
          try with_reducible rfl
        try simp only [Act.put, List.getElem_toArray, List.getElem_cons_succ, List.getElem_cons_zero, List.setIfInBounds_toArray, List.set_cons_zero, List.set_cons_succ]
        refine wpAnyH_ready (rs := [31]) (by kernel_rfl) (by simp) ?_
        refine AllReadyH.cons rfl (fun K hK => ?sD82_31) AllReadyH.nil
        go_simp
        refine hK.out _ _ ?kD82_31 (fun hHeld => ?mD82_31)
        case kD82_31 =>
          try dsimp only
          exact mkS _ hbK80
        clear hK K
        try simp only [Act.put, List.getElem_toArray, List.getElem_cons_succ, List.getElem_cons_zero, List.setIfInBounds_toArray, List.set_cons_zero, List.set_cons_succ]
        refine wpAnyH_done (by kernel_rfl) ?_ _
        (try dsimp only [Straight])
        go_wp2_with fail
        go_ret
        exact ⟨rfl, BU.trans (hbK80.mono BU.size)⟩
  case o13_13 =>
    go_simp
    refine afterAlloc (fun K83 hc83 hl83 zn83 => ?_)
    have hbK83 : Below V4.heap.size V4 K83 := hb0.trans (hc83.mono hs0)
    have hsK83 : V4.heap.size ≤ K83.heap.size := hbK83.size
    refine hK.out _ _ (mkS _ hbK83) (fun hHeld2 => ?_)
    clear hK K hHeld
    have hHeld := hHeld2
    clear hHeld2
    try simp only [Act.put, List.getElem_toArray, List.getElem_cons_succ, List.getElem_cons_zero, List.setIfInBounds_toArray, List.set_cons_zero, List.set_cons_succ]
    refine wpAnyH_ready (rs := [12]) (by kernel_rfl) (by simp) ?_
    refine AllReadyH.cons rfl (fun K hK => ?o84_12) AllReadyH.nil
    go_simp
    refine afterAlloc (fun K85 hc85 hl85 zn85 => ?_)
    have hbK85 : Below V4.heap.size V4 K85 := hbK83.trans (hc85.mono hsK83)
    have hsK85 : V4.heap.size ≤ K85.heap.size := hbK85.size
    have za13K85 := zn83.later hc85
    have lta13K85 := za13K85.lt
    refine hK.out _ _ (mkS _ hbK85) (fun hHeld2 => ?_)
    clear hK K hHeld
    have hHeld := hHeld2
    clear hHeld2
    try simp only [Act.put, List.getElem_toArray, List.getElem_cons_succ, List.getElem_cons_zero, List.setIfInBounds_toArray, List.set_cons_zero, List.set_cons_succ]
    refine wpAnyH_ready (rs := [14]) (by kernel_rfl) (by simp) ?_
    refine AllReadyH.cons rfl (fun K hK => ?o86_14) AllReadyH.nil
    go_simp
    refine (whole9_any (s := [3, 2]) (xs := [1, 4, 2, 5, 3, 6]) (Row.argS zn85 [3, 2] rfl (widS (by decide))) some_not (Row.argS za13K85 [1, 4, 2, 5, 3, 6] rfl (widS (by decide))) (by decide) (by decide)).mono ?_
    rintro e K87 ⟨q87, rfl, tq87, hc87⟩
    have tf87 := Lib.hid tq87
    obtain ⟨_, _, _, _, rfl, _⟩ := tq87
    go_simp
    have hbK87 : Below V4.heap.size V4 K87 := hbK85.trans (hc87.mono hsK85)
    have hsK87 : V4.heap.size ≤ K87.heap.size := hbK87.size
    have za13K87 := za13K85.later hc87
    have lta13K87 := za13K87.lt
    have za12K87 := zn85.later hc87
    have lta12K87 := za12K87.lt
    refine hK.out _ _ (mkS _ hbK87) (fun hHeld2 => ?_)
    clear hK K hHeld
    have hHeld := hHeld2
    clear hHeld2
    try simp only [Act.put, List.getElem_toArray, List.getElem_cons_succ, List.getElem_cons_zero, List.setIfInBounds_toArray, List.set_cons_zero, List.set_cons_succ]
    refine wpAnyH_ready (rs := [15]) (by kernel_rfl) (by simp) ?_
    refine AllReadyH.cons rfl (fun K hK => ?o88_15) AllReadyH.nil
    go_simp
    refine (sameK9 (M1.out.later hbK87) tf87.out (by decide) (by decide) (by decide) (by decide)).mono ?_
    rintro e K89 ⟨rfl, hc89⟩
    go_simp
    have hbK89 : Below V4.heap.size V4 K89 := hbK87.trans (hc89.mono hsK87)
    have hsK89 : V4.heap.size ≤ K89.heap.size := hbK89.size
    have w1K89 := tf87.out.later hc89
    have za13K89 := za13K87.later hc89
    have lta13K89 := za13K89.lt
    have za12K89 := za12K87.later hc89
    have lta12K89 := za12K89.lt
    refine hK.out _ _ (mkS _ hbK89) (fun hHeld2 => ?_)
    clear hK K hHeld
    have hHeld := hHeld2
    clear hHeld2
    try simp only [Act.put, List.getElem_toArray, List.getElem_cons_succ, List.getElem_cons_zero, List.setIfInBounds_toArray, List.set_cons_zero, List.set_cons_succ]
    refine wpAnyH_take (i := 16) (v := ?vT90_16) rfl (by kernel_rfl) (by kernel_rfl) (by kernel_rfl) (fun _ _ _ h => h) (Or.inl ⟨by rfl, ?hT90_16⟩) (by assumption) ?rT90_16
    case hT90_16 =>
      intro w hSw
      try dsimp only at hSw
      go_simp
      try with_reducible rfl
    try simp only [Act.put, List.getElem_toArray, List.getElem_cons_succ, List.getElem_cons_zero, List.setIfInBounds_toArray, List.set_cons_zero, List.set_cons_succ]
    refine wpAnyH_take (i := 17) (v := ?vT91_17) rfl (by kernel_rfl) (by kernel_rfl) (by kernel_rfl) (fun _ _ _ h => h) (Or.inl ⟨by rfl, ?hT91_17⟩) (by assumption) ?rT91_17
    case hT91_17 =>
      intro w hSw
      try dsimp only at hSw
      go_simp
      try with_reducible rfl
    try simp only [Act.put, List.getElem_toArray, List.getElem_cons_succ, List.getElem_cons_zero, List.setIfInBounds_toArray, List.set_cons_zero, List.set_cons_succ]
    refine wpAnyH_take (i := 18) (v := ?vT92_18) rfl (by kernel_rfl) (by kernel_rfl) (by kernel_rfl) (fun _ _ _ h => h) (Or.inl ⟨by rfl, ?hT92_18⟩) (by assumption) ?rT92_18
    case hT92_18 =>
      intro w hSw
      try dsimp only at hSw
      go_simp
      try with_reducible rfl
    try simp only [Act.put, List.getElem_toArray, List.getElem_cons_succ, List.getElem_cons_zero, List.setIfInBounds_toArray, List.set_cons_zero, List.set_cons_succ]
    refine wpAnyH_ready (rs := [19, 20]) (by kernel_rfl) (by simp) ?_
    refine AllReadyH.cons rfl (fun K hK => ?o93_19) (AllReadyH.cons rfl (fun K hK => ?o93_20) AllReadyH.nil)
    case o93_19 =>
      go_simp
      refine afterAlloc (fun K94 hc94 hl94 zn94 => ?_)
      have hbK94 : Below V4.heap.size V4 K94 := hbK89.trans (hc94.mono hsK89)
      have hsK94 : V4.heap.size ≤ K94.heap.size := hbK94.size
      have w1K94 := w1K89.later hc94
      have za13K94 := za13K89.later hc94
      have lta13K94 := za13K94.lt
      have za12K94 := za12K89.later hc94
      have lta12K94 := za12K94.lt
      refine hK.out _ _ (mkS _ hbK94) (fun hHeld2 => ?_)
      clear hK K hHeld
      have hHeld := hHeld2
      clear hHeld2
      try simp only [Act.put, List.getElem_toArray, List.getElem_cons_succ, List.getElem_cons_zero, List.setIfInBounds_toArray, List.set_cons_zero, List.set_cons_succ]
      refine wpAnyH_ready (rs := [20]) (by kernel_rfl) (by simp) ?_
      refine AllReadyH.cons rfl (fun K hK => ?o95_20) AllReadyH.nil
      go_simp
      refine afterAlloc (fun K96 hc96 hl96 zn96 => ?_)
      have hbK96 : Below V4.heap.size V4 K96 := hbK94.trans (hc96.mono hsK94)
      have hsK96 : V4.heap.size ≤ K96.heap.size := hbK96.size
      have w1K96 := w1K94.later hc96
      have za13K96 := za13K94.later hc96
      have lta13K96 := za13K96.lt
      have za12K96 := za12K94.later hc96
      have lta12K96 := za12K96.lt
      have za19K96 := zn94.later hc96
      have lta19K96 := za19K96.lt
      refine hK.out _ _ (mkS _ hbK96) (fun hHeld2 => ?_)
      clear hK K hHeld
      have hHeld := hHeld2
      clear hHeld2
      try simp only [Act.put, List.getElem_toArray, List.getElem_cons_succ, List.getElem_cons_zero, List.setIfInBounds_toArray, List.set_cons_zero, List.set_cons_succ]
      refine wpAnyH_ready (rs := [21]) (by kernel_rfl) (by simp) ?_
      refine AllReadyH.cons rfl (fun K hK => ?o97_21) AllReadyH.nil
      go_simp
      refine (whole9_any (s := [1, 2]) (xs := [2, 3]) (Row.argS za19K96 [1, 2] rfl (widS (by decide))) some_not (Row.argS zn96 [2, 3] rfl (widS (by decide))) (by decide) (by decide)).mono ?_
      rintro e K98 ⟨q98, rfl, tq98, hc98⟩
      have tf98 := Lib.hid tq98
      obtain ⟨_, _, _, _, rfl, _⟩ := tq98
      go_simp
      have hbK98 : Below V4.heap.size V4 K98 := hbK96.trans (hc98.mono hsK96)
      have hsK98 : V4.heap.size ≤ K98.heap.size := hbK98.size
      have w1K98 := w1K96.later hc98
      have za13K98 := za13K96.later hc98
      have lta13K98 := za13K98.lt
      have za12K98 := za12K96.later hc98
      have lta12K98 := za12K98.lt
      have za19K98 := za19K96.later hc98
      have lta19K98 := za19K98.lt
      have za20K98 := zn96.later hc98
      have lta20K98 := za20K98.lt
      refine hK.out _ _ (mkS _ hbK98) (fun hHeld2 => ?_)
      clear hK K hHeld
      have hHeld := hHeld2
      clear hHeld2
      try simp only [Act.put, List.getElem_toArray, List.getElem_cons_succ, List.getElem_cons_zero, List.setIfInBounds_toArray, List.set_cons_zero, List.set_cons_succ]
      refine wpAnyH_ready (rs := [22]) (by kernel_rfl) (by simp) ?_
      refine AllReadyH.cons rfl (fun K hK => ?o99_22) AllReadyH.nil
      go_simp
      refine (sameK9 (M2.out.later hbK98) tf98.out (by decide) (by decide) (by decide) (by decide)).mono ?_
      rintro e K100 ⟨rfl, hc100⟩
      go_simp
      have hbK100 : Below V4.heap.size V4 K100 := hbK98.trans (hc100.mono hsK98)
      have hsK100 : V4.heap.size ≤ K100.heap.size := hbK100.size
      have w1K100 := w1K98.later hc100
      have w2K100 := tf98.out.later hc100
      have za13K100 := za13K98.later hc100
      have lta13K100 := za13K100.lt
      have za12K100 := za12K98.later hc100
      have lta12K100 := za12K100.lt
      have za19K100 := za19K98.later hc100
      have lta19K100 := za19K100.lt
      have za20K100 := za20K98.later hc100
      have lta20K100 := za20K100.lt
      refine hK.out _ _ (mkS _ hbK100) (fun hHeld2 => ?_)
      clear hK K hHeld
      have hHeld := hHeld2
      clear hHeld2
      try simp only [Act.put, List.getElem_toArray, List.getElem_cons_succ, List.getElem_cons_zero, List.setIfInBounds_toArray, List.set_cons_zero, List.set_cons_succ]
      refine wpAnyH_take (i := 23) (v := ?vT101_23) rfl (by kernel_rfl) (by kernel_rfl) (by kernel_rfl) (fun _ _ _ h => h) (Or.inl ⟨by rfl, ?hT101_23⟩) (by assumption) ?rT101_23
      case hT101_23 =>
        intro w hSw
        try dsimp only at hSw
        go_simp
        try with_reducible rfl
      try simp only [Act.put, List.getElem_toArray, List.getElem_cons_succ, List.getElem_cons_zero, List.setIfInBounds_toArray, List.set_cons_zero, List.set_cons_succ]
      refine wpAnyH_take (i := 24) (v := ?vT102_24) rfl (by kernel_rfl) (by kernel_rfl) (by kernel_rfl) (fun _ _ _ h => h) (Or.inl ⟨by rfl, ?hT102_24⟩) (by assumption) ?rT102_24
      case hT102_24 =>
        intro w hSw
        try dsimp only at hSw
        go_simp
        try with_reducible rfl
      try simp only [Act.put, List.getElem_toArray, List.getElem_cons_succ, List.getElem_cons_zero, List.setIfInBounds_toArray, List.set_cons_zero, List.set_cons_succ]
      refine wpAnyH_take (i := 25) (v := ?vT103_25) rfl (by kernel_rfl) (by kernel_rfl) (by kernel_rfl) (fun _ _ _ h => h) (Or.inl ⟨by rfl, ?hT103_25⟩) (by assumption) ?rT103_25
      case hT103_25 =>
        intro w hSw
        try dsimp only at hSw
        go_simp
        try with_reducible rfl
      try simp only [Act.put, List.getElem_toArray, List.getElem_cons_succ, List.getElem_cons_zero, List.setIfInBounds_toArray, List.set_cons_zero, List.set_cons_succ]
      refine wpAnyH_ready (rs := [26, 27]) (by kernel_rfl) (by simp) ?_
      refine AllReadyH.cons rfl (fun K hK => ?o104_26) (AllReadyH.cons rfl (fun K hK => ?o104_27) AllReadyH.nil)
      case o104_26 =>
        go_simp
        refine afterAlloc (fun K105 hc105 hl105 zn105 => ?_)
        have hbK105 : Below V4.heap.size V4 K105 := hbK100.trans (hc105.mono hsK100)
        have hsK105 : V4.heap.size ≤ K105.heap.size := hbK105.size
        have w1K105 := w1K100.later hc105
        have w2K105 := w2K100.later hc105
        have za13K105 := za13K100.later hc105
        have lta13K105 := za13K105.lt
        have za12K105 := za12K100.later hc105
        have lta12K105 := za12K105.lt
        have za19K105 := za19K100.later hc105
        have lta19K105 := za19K105.lt
        have za20K105 := za20K100.later hc105
        have lta20K105 := za20K105.lt
        refine hK.out _ _ (mkS _ hbK105) (fun hHeld2 => ?_)
        clear hK K hHeld
        have hHeld := hHeld2
        clear hHeld2
        try simp only [Act.put, List.getElem_toArray, List.getElem_cons_succ, List.getElem_cons_zero, List.setIfInBounds_toArray, List.set_cons_zero, List.set_cons_succ]
        refine wpAnyH_ready (rs := [27]) (by kernel_rfl) (by simp) ?_
        refine AllReadyH.cons rfl (fun K hK => ?o106_27) AllReadyH.nil
        go_simp
        refine afterAlloc (fun K107 hc107 hl107 zn107 => ?_)
        have hbK107 : Below V4.heap.size V4 K107 := hbK105.trans (hc107.mono hsK105)
        have hsK107 : V4.heap.size ≤ K107.heap.size := hbK107.size
        have w1K107 := w1K105.later hc107
        have w2K107 := w2K105.later hc107
        have za13K107 := za13K105.later hc107
        have lta13K107 := za13K107.lt
        have za12K107 := za12K105.later hc107
        have lta12K107 := za12K107.lt
        have za19K107 := za19K105.later hc107
        have lta19K107 := za19K107.lt
        have za20K107 := za20K105.later hc107
        have lta20K107 := za20K107.lt
        have za26K107 := zn105.later hc107
        have lta26K107 := za26K107.lt
        refine hK.out _ _ (mkS _ hbK107) (fun hHeld2 => ?_)
        clear hK K hHeld
        have hHeld := hHeld2
        clear hHeld2
        try simp only [Act.put, List.getElem_toArray, List.getElem_cons_succ, List.getElem_cons_zero, List.setIfInBounds_toArray, List.set_cons_zero, List.set_cons_succ]
        refine wpAnyH_ready (rs := [28]) (by kernel_rfl) (by simp) ?_
        refine AllReadyH.cons rfl (fun K hK => ?o108_28) AllReadyH.nil
        go_simp
        refine (whole9_any (s := [1, 3]) (xs := [0, 2, 3]) (Row.argS za26K107 [1, 3] rfl (widS (by decide))) some_not (Row.argS zn107 [0, 2, 3] rfl (widS (by decide))) (by decide) (by decide)).mono ?_
        rintro e K109 ⟨q109, rfl, tq109, hc109⟩
        have tf109 := Lib.hid tq109
        obtain ⟨_, _, _, _, rfl, _⟩ := tq109
        go_simp
        have hbK109 : Below V4.heap.size V4 K109 := hbK107.trans (hc109.mono hsK107)
        have hsK109 : V4.heap.size ≤ K109.heap.size := hbK109.size
        have w1K109 := w1K107.later hc109
        have w2K109 := w2K107.later hc109
        have za13K109 := za13K107.later hc109
        have lta13K109 := za13K109.lt
        have za12K109 := za12K107.later hc109
        have lta12K109 := za12K109.lt
        have za19K109 := za19K107.later hc109
        have lta19K109 := za19K109.lt
        have za20K109 := za20K107.later hc109
        have lta20K109 := za20K109.lt
        have za26K109 := za26K107.later hc109
        have lta26K109 := za26K109.lt
        have za27K109 := zn107.later hc109
        have lta27K109 := za27K109.lt
        refine hK.out _ _ (mkS _ hbK109) (fun hHeld2 => ?_)
        clear hK K hHeld
        have hHeld := hHeld2
        clear hHeld2
        try simp only [Act.put, List.getElem_toArray, List.getElem_cons_succ, List.getElem_cons_zero, List.setIfInBounds_toArray, List.set_cons_zero, List.set_cons_succ]
        refine wpAnyH_ready (rs := [29]) (by kernel_rfl) (by simp) ?_
        refine AllReadyH.cons rfl (fun K hK => ?o110_29) AllReadyH.nil
        go_simp
        refine (sameK9 (M3.out.later hbK109) tf109.out (by decide) (by decide) (by decide) (by decide)).mono ?_
        rintro e K111 ⟨rfl, hc111⟩
        go_simp
        have hbK111 : Below V4.heap.size V4 K111 := hbK109.trans (hc111.mono hsK109)
        have hsK111 : V4.heap.size ≤ K111.heap.size := hbK111.size
        have w1K111 := w1K109.later hc111
        have w2K111 := w2K109.later hc111
        have w3K111 := tf109.out.later hc111
        have za13K111 := za13K109.later hc111
        have lta13K111 := za13K111.lt
        have za12K111 := za12K109.later hc111
        have lta12K111 := za12K111.lt
        have za19K111 := za19K109.later hc111
        have lta19K111 := za19K111.lt
        have za20K111 := za20K109.later hc111
        have lta20K111 := za20K111.lt
        have za26K111 := za26K109.later hc111
        have lta26K111 := za26K111.lt
        have za27K111 := za27K109.later hc111
        have lta27K111 := za27K111.lt
        refine hK.out _ _ (mkS _ hbK111) (fun hHeld2 => ?_)
        clear hK K hHeld
        have hHeld := hHeld2
        clear hHeld2
        try simp only [Act.put, List.getElem_toArray, List.getElem_cons_succ, List.getElem_cons_zero, List.setIfInBounds_toArray, List.set_cons_zero, List.set_cons_succ]
        refine wpAnyH_take (i := 30) (v := ?vT112_30) rfl (by kernel_rfl) (by kernel_rfl) (by kernel_rfl) (fun _ _ _ h => h) (Or.inl ⟨by rfl, ?hT112_30⟩) (by assumption) ?rT112_30
        case hT112_30 =>
          intro w hSw
          try dsimp only at hSw
          go_simp
          try with_reducible rfl
        try simp only [Act.put, List.getElem_toArray, List.getElem_cons_succ, List.getElem_cons_zero, List.setIfInBounds_toArray, List.set_cons_zero, List.set_cons_succ]
        refine wpAnyH_ready (rs := [31]) (by kernel_rfl) (by simp) ?_
        refine AllReadyH.cons rfl (fun K hK => ?sD113_31) AllReadyH.nil
        go_simp
        refine hK.out _ _ ?kD113_31 (fun hHeld => ?mD113_31)
        case kD113_31 =>
          try dsimp only
          exact mkS _ hbK111
        clear hK K
        try simp only [Act.put, List.getElem_toArray, List.getElem_cons_succ, List.getElem_cons_zero, List.setIfInBounds_toArray, List.set_cons_zero, List.set_cons_succ]
        refine wpAnyH_done (by kernel_rfl) ?_ _
        (try dsimp only [Straight])
        go_wp2_with fail
        go_ret
        exact ⟨rfl, BU.trans (hbK111.mono BU.size)⟩
      case o104_27 =>
        go_simp
        refine afterAlloc (fun K114 hc114 hl114 zn114 => ?_)
        have hbK114 : Below V4.heap.size V4 K114 := hbK100.trans (hc114.mono hsK100)
        have hsK114 : V4.heap.size ≤ K114.heap.size := hbK114.size
        have w1K114 := w1K100.later hc114
        have w2K114 := w2K100.later hc114
        have za13K114 := za13K100.later hc114
        have lta13K114 := za13K114.lt
        have za12K114 := za12K100.later hc114
        have lta12K114 := za12K114.lt
        have za19K114 := za19K100.later hc114
        have lta19K114 := za19K114.lt
        have za20K114 := za20K100.later hc114
        have lta20K114 := za20K114.lt
        refine hK.out _ _ (mkS _ hbK114) (fun hHeld2 => ?_)
        clear hK K hHeld
        have hHeld := hHeld2
        clear hHeld2
        try simp only [Act.put, List.getElem_toArray, List.getElem_cons_succ, List.getElem_cons_zero, List.setIfInBounds_toArray, List.set_cons_zero, List.set_cons_succ]
        refine wpAnyH_ready (rs := [26]) (by kernel_rfl) (by simp) ?_
        refine AllReadyH.cons rfl (fun K hK => ?o115_26) AllReadyH.nil
        go_simp
        refine afterAlloc (fun K116 hc116 hl116 zn116 => ?_)
        have hbK116 : Below V4.heap.size V4 K116 := hbK114.trans (hc116.mono hsK114)
        have hsK116 : V4.heap.size ≤ K116.heap.size := hbK116.size
        have w1K116 := w1K114.later hc116
        have w2K116 := w2K114.later hc116
        have za13K116 := za13K114.later hc116
        have lta13K116 := za13K116.lt
        have za12K116 := za12K114.later hc116
        have lta12K116 := za12K116.lt
        have za19K116 := za19K114.later hc116
        have lta19K116 := za19K116.lt
        have za20K116 := za20K114.later hc116
        have lta20K116 := za20K116.lt
        have za27K116 := zn114.later hc116
        have lta27K116 := za27K116.lt
        refine hK.out _ _ (mkS _ hbK116) (fun hHeld2 => ?_)
        clear hK K hHeld
        have hHeld := hHeld2
        clear hHeld2
        try simp only [Act.put, List.getElem_toArray, List.getElem_cons_succ, List.getElem_cons_zero, List.setIfInBounds_toArray, List.set_cons_zero, List.set_cons_succ]
        refine wpAnyH_ready (rs := [28]) (by kernel_rfl) (by simp) ?_
        refine AllReadyH.cons rfl (fun K hK => ?o117_28) AllReadyH.nil
        go_simp
        refine (whole9_any (s := [1, 3]) (xs := [0, 2, 3]) (Row.argS zn116 [1, 3] rfl (widS (by decide))) some_not (Row.argS za27K116 [0, 2, 3] rfl (widS (by decide))) (by decide) (by decide)).mono ?_
        rintro e K118 ⟨q118, rfl, tq118, hc118⟩
        have tf118 := Lib.hid tq118
        obtain ⟨_, _, _, _, rfl, _⟩ := tq118
        go_simp
        have hbK118 : Below V4.heap.size V4 K118 := hbK116.trans (hc118.mono hsK116)
        have hsK118 : V4.heap.size ≤ K118.heap.size := hbK118.size
        have w1K118 := w1K116.later hc118
        have w2K118 := w2K116.later hc118
        have za13K118 := za13K116.later hc118
        have lta13K118 := za13K118.lt
        have za12K118 := za12K116.later hc118
        have lta12K118 := za12K118.lt
        have za19K118 := za19K116.later hc118
        have lta19K118 := za19K118.lt
        have za20K118 := za20K116.later hc118
        have lta20K118 := za20K118.lt
        have za27K118 := za27K116.later hc118
        have lta27K118 := za27K118.lt
        have za26K118 := zn116.later hc118
        have lta26K118 := za26K118.lt
        refine hK.out _ _ (mkS _ hbK118) (fun hHeld2 => ?_)
        clear hK K hHeld
        have hHeld := hHeld2
        clear hHeld2
        try simp only [Act.put, List.getElem_toArray, List.getElem_cons_succ, List.getElem_cons_zero, List.setIfInBounds_toArray, List.set_cons_zero, List.set_cons_succ]
        refine wpAnyH_ready (rs := [29]) (by kernel_rfl) (by simp) ?_
        refine AllReadyH.cons rfl (fun K hK => ?o119_29) AllReadyH.nil
        go_simp
        refine (sameK9 (M3.out.later hbK118) tf118.out (by decide) (by decide) (by decide) (by decide)).mono ?_
        rintro e K120 ⟨rfl, hc120⟩
        go_simp
        have hbK120 : Below V4.heap.size V4 K120 := hbK118.trans (hc120.mono hsK118)
        have hsK120 : V4.heap.size ≤ K120.heap.size := hbK120.size
        have w1K120 := w1K118.later hc120
        have w2K120 := w2K118.later hc120
        have w3K120 := tf118.out.later hc120
        have za13K120 := za13K118.later hc120
        have lta13K120 := za13K120.lt
        have za12K120 := za12K118.later hc120
        have lta12K120 := za12K120.lt
        have za19K120 := za19K118.later hc120
        have lta19K120 := za19K120.lt
        have za20K120 := za20K118.later hc120
        have lta20K120 := za20K120.lt
        have za27K120 := za27K118.later hc120
        have lta27K120 := za27K120.lt
        have za26K120 := za26K118.later hc120
        have lta26K120 := za26K120.lt
        refine hK.out _ _ (mkS _ hbK120) (fun hHeld2 => ?_)
        clear hK K hHeld
        have hHeld := hHeld2
        clear hHeld2
        try simp only [Act.put, List.getElem_toArray, List.getElem_cons_succ, List.getElem_cons_zero, List.setIfInBounds_toArray, List.set_cons_zero, List.set_cons_succ]
        refine wpAnyH_take (i := 30) (v := ?vT121_30) rfl (by kernel_rfl) (by kernel_rfl) (by kernel_rfl) (fun _ _ _ h => h) (Or.inl ⟨by rfl, ?hT121_30⟩) (by assumption) ?rT121_30
        case hT121_30 =>
          intro w hSw
          try dsimp only at hSw
          go_simp
          try with_reducible rfl
        try simp only [Act.put, List.getElem_toArray, List.getElem_cons_succ, List.getElem_cons_zero, List.setIfInBounds_toArray, List.set_cons_zero, List.set_cons_succ]
        refine wpAnyH_ready (rs := [31]) (by kernel_rfl) (by simp) ?_
        refine AllReadyH.cons rfl (fun K hK => ?sD122_31) AllReadyH.nil
        go_simp
        refine hK.out _ _ ?kD122_31 (fun hHeld => ?mD122_31)
        case kD122_31 =>
          try dsimp only
          exact mkS _ hbK120
        clear hK K
        try simp only [Act.put, List.getElem_toArray, List.getElem_cons_succ, List.getElem_cons_zero, List.setIfInBounds_toArray, List.set_cons_zero, List.set_cons_succ]
        refine wpAnyH_done (by kernel_rfl) ?_ _
        (try dsimp only [Straight])
        go_wp2_with fail
        go_ret
        exact ⟨rfl, BU.trans (hbK120.mono BU.size)⟩
    case o93_20 =>
      go_simp
      refine afterAlloc (fun K123 hc123 hl123 zn123 => ?_)
      have hbK123 : Below V4.heap.size V4 K123 := hbK89.trans (hc123.mono hsK89)
      have hsK123 : V4.heap.size ≤ K123.heap.size := hbK123.size
      have w1K123 := w1K89.later hc123
      have za13K123 := za13K89.later hc123
      have lta13K123 := za13K123.lt
      have za12K123 := za12K89.later hc123
      have lta12K123 := za12K123.lt
      refine hK.out _ _ (mkS _ hbK123) (fun hHeld2 => ?_)
      clear hK K hHeld
      have hHeld := hHeld2
      clear hHeld2
      try simp only [Act.put, List.getElem_toArray, List.getElem_cons_succ, List.getElem_cons_zero, List.setIfInBounds_toArray, List.set_cons_zero, List.set_cons_succ]
      refine wpAnyH_ready (rs := [19]) (by kernel_rfl) (by simp) ?_
      refine AllReadyH.cons rfl (fun K hK => ?o124_19) AllReadyH.nil
      go_simp
      refine afterAlloc (fun K125 hc125 hl125 zn125 => ?_)
      have hbK125 : Below V4.heap.size V4 K125 := hbK123.trans (hc125.mono hsK123)
      have hsK125 : V4.heap.size ≤ K125.heap.size := hbK125.size
      have w1K125 := w1K123.later hc125
      have za13K125 := za13K123.later hc125
      have lta13K125 := za13K125.lt
      have za12K125 := za12K123.later hc125
      have lta12K125 := za12K125.lt
      have za20K125 := zn123.later hc125
      have lta20K125 := za20K125.lt
      refine hK.out _ _ (mkS _ hbK125) (fun hHeld2 => ?_)
      clear hK K hHeld
      have hHeld := hHeld2
      clear hHeld2
      try simp only [Act.put, List.getElem_toArray, List.getElem_cons_succ, List.getElem_cons_zero, List.setIfInBounds_toArray, List.set_cons_zero, List.set_cons_succ]
      refine wpAnyH_ready (rs := [21]) (by kernel_rfl) (by simp) ?_
      refine AllReadyH.cons rfl (fun K hK => ?o126_21) AllReadyH.nil
      go_simp
      refine (whole9_any (s := [1, 2]) (xs := [2, 3]) (Row.argS zn125 [1, 2] rfl (widS (by decide))) some_not (Row.argS za20K125 [2, 3] rfl (widS (by decide))) (by decide) (by decide)).mono ?_
      rintro e K127 ⟨q127, rfl, tq127, hc127⟩
      have tf127 := Lib.hid tq127
      obtain ⟨_, _, _, _, rfl, _⟩ := tq127
      go_simp
      have hbK127 : Below V4.heap.size V4 K127 := hbK125.trans (hc127.mono hsK125)
      have hsK127 : V4.heap.size ≤ K127.heap.size := hbK127.size
      have w1K127 := w1K125.later hc127
      have za13K127 := za13K125.later hc127
      have lta13K127 := za13K127.lt
      have za12K127 := za12K125.later hc127
      have lta12K127 := za12K127.lt
      have za20K127 := za20K125.later hc127
      have lta20K127 := za20K127.lt
      have za19K127 := zn125.later hc127
      have lta19K127 := za19K127.lt
      refine hK.out _ _ (mkS _ hbK127) (fun hHeld2 => ?_)
      clear hK K hHeld
      have hHeld := hHeld2
      clear hHeld2
      try simp only [Act.put, List.getElem_toArray, List.getElem_cons_succ, List.getElem_cons_zero, List.setIfInBounds_toArray, List.set_cons_zero, List.set_cons_succ]
      refine wpAnyH_ready (rs := [22]) (by kernel_rfl) (by simp) ?_
      refine AllReadyH.cons rfl (fun K hK => ?o128_22) AllReadyH.nil
      go_simp
      refine (sameK9 (M2.out.later hbK127) tf127.out (by decide) (by decide) (by decide) (by decide)).mono ?_
      rintro e K129 ⟨rfl, hc129⟩
      go_simp
      have hbK129 : Below V4.heap.size V4 K129 := hbK127.trans (hc129.mono hsK127)
      have hsK129 : V4.heap.size ≤ K129.heap.size := hbK129.size
      have w1K129 := w1K127.later hc129
      have w2K129 := tf127.out.later hc129
      have za13K129 := za13K127.later hc129
      have lta13K129 := za13K129.lt
      have za12K129 := za12K127.later hc129
      have lta12K129 := za12K129.lt
      have za20K129 := za20K127.later hc129
      have lta20K129 := za20K129.lt
      have za19K129 := za19K127.later hc129
      have lta19K129 := za19K129.lt
      refine hK.out _ _ (mkS _ hbK129) (fun hHeld2 => ?_)
      clear hK K hHeld
      have hHeld := hHeld2
      clear hHeld2
      try simp only [Act.put, List.getElem_toArray, List.getElem_cons_succ, List.getElem_cons_zero, List.setIfInBounds_toArray, List.set_cons_zero, List.set_cons_succ]
      refine wpAnyH_take (i := 23) (v := ?vT130_23) rfl (by kernel_rfl) (by kernel_rfl) (by kernel_rfl) (fun _ _ _ h => h) (Or.inl ⟨by rfl, ?hT130_23⟩) (by assumption) ?rT130_23
      case hT130_23 =>
        intro w hSw
        try dsimp only at hSw
        go_simp
        try with_reducible rfl
      try simp only [Act.put, List.getElem_toArray, List.getElem_cons_succ, List.getElem_cons_zero, List.setIfInBounds_toArray, List.set_cons_zero, List.set_cons_succ]
      refine wpAnyH_take (i := 24) (v := ?vT131_24) rfl (by kernel_rfl) (by kernel_rfl) (by kernel_rfl) (fun _ _ _ h => h) (Or.inl ⟨by rfl, ?hT131_24⟩) (by assumption) ?rT131_24
      case hT131_24 =>
        intro w hSw
        try dsimp only at hSw
        go_simp
        try with_reducible rfl
      try simp only [Act.put, List.getElem_toArray, List.getElem_cons_succ, List.getElem_cons_zero, List.setIfInBounds_toArray, List.set_cons_zero, List.set_cons_succ]
      refine wpAnyH_take (i := 25) (v := ?vT132_25) rfl (by kernel_rfl) (by kernel_rfl) (by kernel_rfl) (fun _ _ _ h => h) (Or.inl ⟨by rfl, ?hT132_25⟩) (by assumption) ?rT132_25
      case hT132_25 =>
        intro w hSw
        try dsimp only at hSw
        go_simp
        try with_reducible rfl
      try simp only [Act.put, List.getElem_toArray, List.getElem_cons_succ, List.getElem_cons_zero, List.setIfInBounds_toArray, List.set_cons_zero, List.set_cons_succ]
      refine wpAnyH_ready (rs := [26, 27]) (by kernel_rfl) (by simp) ?_
      refine AllReadyH.cons rfl (fun K hK => ?o133_26) (AllReadyH.cons rfl (fun K hK => ?o133_27) AllReadyH.nil)
      case o133_26 =>
        go_simp
        refine afterAlloc (fun K134 hc134 hl134 zn134 => ?_)
        have hbK134 : Below V4.heap.size V4 K134 := hbK129.trans (hc134.mono hsK129)
        have hsK134 : V4.heap.size ≤ K134.heap.size := hbK134.size
        have w1K134 := w1K129.later hc134
        have w2K134 := w2K129.later hc134
        have za13K134 := za13K129.later hc134
        have lta13K134 := za13K134.lt
        have za12K134 := za12K129.later hc134
        have lta12K134 := za12K134.lt
        have za20K134 := za20K129.later hc134
        have lta20K134 := za20K134.lt
        have za19K134 := za19K129.later hc134
        have lta19K134 := za19K134.lt
        refine hK.out _ _ (mkS _ hbK134) (fun hHeld2 => ?_)
        clear hK K hHeld
        have hHeld := hHeld2
        clear hHeld2
        try simp only [Act.put, List.getElem_toArray, List.getElem_cons_succ, List.getElem_cons_zero, List.setIfInBounds_toArray, List.set_cons_zero, List.set_cons_succ]
        refine wpAnyH_ready (rs := [27]) (by kernel_rfl) (by simp) ?_
        refine AllReadyH.cons rfl (fun K hK => ?o135_27) AllReadyH.nil
        go_simp
        refine afterAlloc (fun K136 hc136 hl136 zn136 => ?_)
        have hbK136 : Below V4.heap.size V4 K136 := hbK134.trans (hc136.mono hsK134)
        have hsK136 : V4.heap.size ≤ K136.heap.size := hbK136.size
        have w1K136 := w1K134.later hc136
        have w2K136 := w2K134.later hc136
        have za13K136 := za13K134.later hc136
        have lta13K136 := za13K136.lt
        have za12K136 := za12K134.later hc136
        have lta12K136 := za12K136.lt
        have za20K136 := za20K134.later hc136
        have lta20K136 := za20K136.lt
        have za19K136 := za19K134.later hc136
        have lta19K136 := za19K136.lt
        have za26K136 := zn134.later hc136
        have lta26K136 := za26K136.lt
        refine hK.out _ _ (mkS _ hbK136) (fun hHeld2 => ?_)
        clear hK K hHeld
        have hHeld := hHeld2
        clear hHeld2
        try simp only [Act.put, List.getElem_toArray, List.getElem_cons_succ, List.getElem_cons_zero, List.setIfInBounds_toArray, List.set_cons_zero, List.set_cons_succ]
        refine wpAnyH_ready (rs := [28]) (by kernel_rfl) (by simp) ?_
        refine AllReadyH.cons rfl (fun K hK => ?o137_28) AllReadyH.nil
        go_simp
        refine (whole9_any (s := [1, 3]) (xs := [0, 2, 3]) (Row.argS za26K136 [1, 3] rfl (widS (by decide))) some_not (Row.argS zn136 [0, 2, 3] rfl (widS (by decide))) (by decide) (by decide)).mono ?_
        rintro e K138 ⟨q138, rfl, tq138, hc138⟩
        have tf138 := Lib.hid tq138
        obtain ⟨_, _, _, _, rfl, _⟩ := tq138
        go_simp
        have hbK138 : Below V4.heap.size V4 K138 := hbK136.trans (hc138.mono hsK136)
        have hsK138 : V4.heap.size ≤ K138.heap.size := hbK138.size
        have w1K138 := w1K136.later hc138
        have w2K138 := w2K136.later hc138
        have za13K138 := za13K136.later hc138
        have lta13K138 := za13K138.lt
        have za12K138 := za12K136.later hc138
        have lta12K138 := za12K138.lt
        have za20K138 := za20K136.later hc138
        have lta20K138 := za20K138.lt
        have za19K138 := za19K136.later hc138
        have lta19K138 := za19K138.lt
        have za26K138 := za26K136.later hc138
        have lta26K138 := za26K138.lt
        have za27K138 := zn136.later hc138
        have lta27K138 := za27K138.lt
        refine hK.out _ _ (mkS _ hbK138) (fun hHeld2 => ?_)
        clear hK K hHeld
        have hHeld := hHeld2
        clear hHeld2
        try simp only [Act.put, List.getElem_toArray, List.getElem_cons_succ, List.getElem_cons_zero, List.setIfInBounds_toArray, List.set_cons_zero, List.set_cons_succ]
        refine wpAnyH_ready (rs := [29]) (by kernel_rfl) (by simp) ?_
        refine AllReadyH.cons rfl (fun K hK => ?o139_29) AllReadyH.nil
        go_simp
        refine (sameK9 (M3.out.later hbK138) tf138.out (by decide) (by decide) (by decide) (by decide)).mono ?_
        rintro e K140 ⟨rfl, hc140⟩
        go_simp
        have hbK140 : Below V4.heap.size V4 K140 := hbK138.trans (hc140.mono hsK138)
        have hsK140 : V4.heap.size ≤ K140.heap.size := hbK140.size
        have w1K140 := w1K138.later hc140
        have w2K140 := w2K138.later hc140
        have w3K140 := tf138.out.later hc140
        have za13K140 := za13K138.later hc140
        have lta13K140 := za13K140.lt
        have za12K140 := za12K138.later hc140
        have lta12K140 := za12K140.lt
        have za20K140 := za20K138.later hc140
        have lta20K140 := za20K140.lt
        have za19K140 := za19K138.later hc140
        have lta19K140 := za19K140.lt
        have za26K140 := za26K138.later hc140
        have lta26K140 := za26K140.lt
        have za27K140 := za27K138.later hc140
        have lta27K140 := za27K140.lt
        refine hK.out _ _ (mkS _ hbK140) (fun hHeld2 => ?_)
        clear hK K hHeld
        have hHeld := hHeld2
        clear hHeld2
        try simp only [Act.put, List.getElem_toArray, List.getElem_cons_succ, List.getElem_cons_zero, List.setIfInBounds_toArray, List.set_cons_zero, List.set_cons_succ]
        refine wpAnyH_take (i := 30) (v := ?vT141_30) rfl (by kernel_rfl) (by kernel_rfl) (by kernel_rfl) (fun _ _ _ h => h) (Or.inl ⟨by rfl, ?hT141_30⟩) (by assumption) ?rT141_30
        case hT141_30 =>
          intro w hSw
          try dsimp only at hSw
          go_simp
          try with_reducible rfl
        try simp only [Act.put, List.getElem_toArray, List.getElem_cons_succ, List.getElem_cons_zero, List.setIfInBounds_toArray, List.set_cons_zero, List.set_cons_succ]
        refine wpAnyH_ready (rs := [31]) (by kernel_rfl) (by simp) ?_
        refine AllReadyH.cons rfl (fun K hK => ?sD142_31) AllReadyH.nil
        go_simp
        refine hK.out _ _ ?kD142_31 (fun hHeld => ?mD142_31)
        case kD142_31 =>
          try dsimp only
          exact mkS _ hbK140
        clear hK K
        try simp only [Act.put, List.getElem_toArray, List.getElem_cons_succ, List.getElem_cons_zero, List.setIfInBounds_toArray, List.set_cons_zero, List.set_cons_succ]
        refine wpAnyH_done (by kernel_rfl) ?_ _
        (try dsimp only [Straight])
        go_wp2_with fail
        go_ret
        exact ⟨rfl, BU.trans (hbK140.mono BU.size)⟩
      case o133_27 =>
        go_simp
        refine afterAlloc (fun K143 hc143 hl143 zn143 => ?_)
        have hbK143 : Below V4.heap.size V4 K143 := hbK129.trans (hc143.mono hsK129)
        have hsK143 : V4.heap.size ≤ K143.heap.size := hbK143.size
        have w1K143 := w1K129.later hc143
        have w2K143 := w2K129.later hc143
        have za13K143 := za13K129.later hc143
        have lta13K143 := za13K143.lt
        have za12K143 := za12K129.later hc143
        have lta12K143 := za12K143.lt
        have za20K143 := za20K129.later hc143
        have lta20K143 := za20K143.lt
        have za19K143 := za19K129.later hc143
        have lta19K143 := za19K143.lt
        refine hK.out _ _ (mkS _ hbK143) (fun hHeld2 => ?_)
        clear hK K hHeld
        have hHeld := hHeld2
        clear hHeld2
        try simp only [Act.put, List.getElem_toArray, List.getElem_cons_succ, List.getElem_cons_zero, List.setIfInBounds_toArray, List.set_cons_zero, List.set_cons_succ]
        refine wpAnyH_ready (rs := [26]) (by kernel_rfl) (by simp) ?_
        refine AllReadyH.cons rfl (fun K hK => ?o144_26) AllReadyH.nil
        go_simp
        refine afterAlloc (fun K145 hc145 hl145 zn145 => ?_)
        have hbK145 : Below V4.heap.size V4 K145 := hbK143.trans (hc145.mono hsK143)
        have hsK145 : V4.heap.size ≤ K145.heap.size := hbK145.size
        have w1K145 := w1K143.later hc145
        have w2K145 := w2K143.later hc145
        have za13K145 := za13K143.later hc145
        have lta13K145 := za13K145.lt
        have za12K145 := za12K143.later hc145
        have lta12K145 := za12K145.lt
        have za20K145 := za20K143.later hc145
        have lta20K145 := za20K145.lt
        have za19K145 := za19K143.later hc145
        have lta19K145 := za19K145.lt
        have za27K145 := zn143.later hc145
        have lta27K145 := za27K145.lt
        refine hK.out _ _ (mkS _ hbK145) (fun hHeld2 => ?_)
        clear hK K hHeld
        have hHeld := hHeld2
        clear hHeld2
        try simp only [Act.put, List.getElem_toArray, List.getElem_cons_succ, List.getElem_cons_zero, List.setIfInBounds_toArray, List.set_cons_zero, List.set_cons_succ]
        refine wpAnyH_ready (rs := [28]) (by kernel_rfl) (by simp) ?_
        refine AllReadyH.cons rfl (fun K hK => ?o146_28) AllReadyH.nil
        go_simp
        refine (whole9_any (s := [1, 3]) (xs := [0, 2, 3]) (Row.argS zn145 [1, 3] rfl (widS (by decide))) some_not (Row.argS za27K145 [0, 2, 3] rfl (widS (by decide))) (by decide) (by decide)).mono ?_
        rintro e K147 ⟨q147, rfl, tq147, hc147⟩
        have tf147 := Lib.hid tq147
        obtain ⟨_, _, _, _, rfl, _⟩ := tq147
        go_simp
        have hbK147 : Below V4.heap.size V4 K147 := hbK145.trans (hc147.mono hsK145)
        have hsK147 : V4.heap.size ≤ K147.heap.size := hbK147.size
        have w1K147 := w1K145.later hc147
        have w2K147 := w2K145.later hc147
        have za13K147 := za13K145.later hc147
        have lta13K147 := za13K147.lt
        have za12K147 := za12K145.later hc147
        have lta12K147 := za12K147.lt
        have za20K147 := za20K145.later hc147
        have lta20K147 := za20K147.lt
        have za19K147 := za19K145.later hc147
        have lta19K147 := za19K147.lt
        have za27K147 := za27K145.later hc147
        have lta27K147 := za27K147.lt
        have za26K147 := zn145.later hc147
        have lta26K147 := za26K147.lt
        refine hK.out _ _ (mkS _ hbK147) (fun hHeld2 => ?_)
        clear hK K hHeld
        have hHeld := hHeld2
        clear hHeld2
        try simp only [Act.put, List.getElem_toArray, List.getElem_cons_succ, List.getElem_cons_zero, List.setIfInBounds_toArray, List.set_cons_zero, List.set_cons_succ]
        refine wpAnyH_ready (rs := [29]) (by kernel_rfl) (by simp) ?_
        refine AllReadyH.cons rfl (fun K hK => ?o148_29) AllReadyH.nil
        go_simp
        refine (sameK9 (M3.out.later hbK147) tf147.out (by decide) (by decide) (by decide) (by decide)).mono ?_
        rintro e K149 ⟨rfl, hc149⟩
        go_simp
        have hbK149 : Below V4.heap.size V4 K149 := hbK147.trans (hc149.mono hsK147)
        have hsK149 : V4.heap.size ≤ K149.heap.size := hbK149.size
        have w1K149 := w1K147.later hc149
        have w2K149 := w2K147.later hc149
        have w3K149 := tf147.out.later hc149
        have za13K149 := za13K147.later hc149
        have lta13K149 := za13K149.lt
        have za12K149 := za12K147.later hc149
        have lta12K149 := za12K149.lt
        have za20K149 := za20K147.later hc149
        have lta20K149 := za20K149.lt
        have za19K149 := za19K147.later hc149
        have lta19K149 := za19K149.lt
        have za27K149 := za27K147.later hc149
        have lta27K149 := za27K149.lt
        have za26K149 := za26K147.later hc149
        have lta26K149 := za26K149.lt
        refine hK.out _ _ (mkS _ hbK149) (fun hHeld2 => ?_)
        clear hK K hHeld
        have hHeld := hHeld2
        clear hHeld2
        try simp only [Act.put, List.getElem_toArray, List.getElem_cons_succ, List.getElem_cons_zero, List.setIfInBounds_toArray, List.set_cons_zero, List.set_cons_succ]
        refine wpAnyH_take (i := 30) (v := ?vT150_30) rfl (by kernel_rfl) (by kernel_rfl) (by kernel_rfl) (fun _ _ _ h => h) (Or.inl ⟨by rfl, ?hT150_30⟩) (by assumption) ?rT150_30
        case hT150_30 =>
          intro w hSw
          try dsimp only at hSw
          go_simp
          try with_reducible rfl
        try simp only [Act.put, List.getElem_toArray, List.getElem_cons_succ, List.getElem_cons_zero, List.setIfInBounds_toArray, List.set_cons_zero, List.set_cons_succ]
        refine wpAnyH_ready (rs := [31]) (by kernel_rfl) (by simp) ?_
        refine AllReadyH.cons rfl (fun K hK => ?sD151_31) AllReadyH.nil
        go_simp
        refine hK.out _ _ ?kD151_31 (fun hHeld => ?mD151_31)
        case kD151_31 =>
          try dsimp only
          exact mkS _ hbK149
        clear hK K
        try simp only [Act.put, List.getElem_toArray, List.getElem_cons_succ, List.getElem_cons_zero, List.setIfInBounds_toArray, List.set_cons_zero, List.set_cons_succ]
        refine wpAnyH_done (by kernel_rfl) ?_ _
        (try dsimp only [Straight])
        go_wp2_with fail
        go_ret
        exact ⟨rfl, BU.trans (hbK149.mono BU.size)⟩
end
section
open Go.RowKit
set_option linter.unusedVariables false
set_option linter.unusedSimpArgs false
theorem One.ans9 {base N : Nat} {w : World} {e : Ending} {c : Int} {s : List Int} {L : List Rat} (h : One base w e c s L N) : ∃ (x0 : Option Addr) (x1 x2 : Nat) (x3 : Option Addr) (x4 x5 : Nat),
    e = .returned (.tuple #[.agg #[.slice x0 x1 x2, .slice x3 x4 x5], .int .i64 c]) ∧ ((c = 0 ∧ ResT base w (.agg #[.slice x0 x1 x2, .slice x3 x4 x5]) s L N) ∨ (c ≠ 0 ∧ (.agg #[.slice x0 x1 x2, .slice x3 x4 x5] : Value) = noTensor)) := by
  rcases h with ⟨h0, r, rfl, hT⟩ | ⟨h0, rfl⟩
  · obtain ⟨a, b, ca, cb, rfl, _⟩ := id hT
    exact ⟨_, _, _, _, _, _, by rw [h0], .inl ⟨h0, hT⟩⟩
  · exact ⟨none, 0, 0, none, 0, 0, rfl, .inr ⟨h0, rfl⟩⟩
def AnsM (base : Nat) (w : World) (r : Value) (c : Int) (s : List Int) (L : List Rat) (N : Nat) : Prop := (c = 0 ∧ ResT base w r s L N) ∨ (c ≠ 0 ∧ r = noTensor)
theorem AnsM.later {base N : Nat} {w w' : World} {r : Value} {c : Int} {s : List Int} {L : List Rat} (h : AnsM base w r c s L N) (hb : Below w.heap.size w w') : AnsM base w' r c s L N := h.imp (fun h => ⟨h.1, h.2.later hb⟩) id
theorem is9b_any {base m n N : Nat} {w : World} {r v t : Value} {s s2 : List Int} {qs : List Q3} {a b : Option Addr} {ca cb : Nat} {c f : Int} {L : List Rat} (T : TensQ w v s qs a ca b cb) (hs : s.length ≤ 1000000000) (hq : qs.length ≤ 1000000000) (hl : lensQ qs n) (hn : n ≤ 134217728)
    (hA : AnsM base w r c s2 L N) (hb : ∃ x0 x1 x2 x3 x4 x5, t = .agg #[.slice x0 x1 x2, .slice x3 x4 x5]) (hf : mayT s qs = 0 → f = c) (hm : mayT s qs ≠ 0 → c = mayT s qs) (ht : c = 0 → TenR w t s2 L m ∧ Ok9 s2 L.length) (hm2 : m ≤ 1000000000) (hN : N ≤ 134217728) :
    Calls Tryz.prog 18 #[r, .int .i64 c, v, t, .int .i64 f] w fun e w' => e = .returned (.bool true) ∧ Below w.heap.size w w' := by
  by_cases h0 : c = 0
  · have h := (ht h0).2.le
    exact is9_any T hs hq hl hn hA hb hf hm (fun h => (ht h).1) (by omega) (by omega) hm2 hN
  · exact is9_any (base := base) (N := N) (s2 := []) (L := []) (m := m) T hs hq hl hn (.inr (hA.resolve_left (fun h => h0 h.1))) hb hf hm (fun h => absurd h h0) (by simp) (by simp) hm2 hN
theorem orL_cons {x : Int} {l : List Int} (h : x ≠ 0) : orL (x :: l) = x := by
  unfold orL
  rw [if_neg h]
theorem orL_zero9 {l : List Int} : orL (0 :: l) = orL l := by
  conv => lhs; unfold orL
  rw [if_pos rfl]
theorem elsV_ok {s : List Int} {qs : List Q3} (h : mayT s qs = 0) : shV s qs = s ∧ elsV s qs = qs.map Q3.rat := by
  unfold shV elsV
  rw [if_pos h, if_pos h]
  exact ⟨rfl, rfl⟩
end
section
open Go.RowKit
set_option linter.unusedVariables false
set_option linter.unusedSimpArgs false
/-- the product of dimensions, up to just above the limit -/
def cntR (s : List Int) : Int := if prodS s ≤ 1024 then prodS s else 1025
theorem cntR_ok {s : List Int} (ok : OkS s) : cntR s = prodS s := if_pos ok.few
set_option maxRecDepth 100000 in
set_option maxHeartbeats 4000000 in
theorem count9_any {w : World} {u : Value} {s : List Int} {a : Option Addr} {ca : Nat} (A : ArgS w u s a ca) (hp : posS s) (hs : s.length ≤ 1000000) :
    Calls Tryz.prog 56 #[u] w fun e w' => e = .returned (.int .i64 (cntR s)) ∧ w = w' := by
  have HA := Lib.hid A
  have HP := Lib.hid hp
  obtain rfl := A.is
  obtain ⟨d, hd⟩ : ∃ d, cntR s = d := ⟨_, rfl⟩
  have HD := Lib.hid hd
  obtain ⟨L, hL⟩ : ∃ L, s.length = L := ⟨_, rfl⟩
  have HL := Lib.hid hL
  rw [hd]
  rw [hL] at hs ⊢
  clear A hd hL hp
  go_enter Tryz.func56, Tryz.ntmps56
  go_wp2_with fail
  go_loopw [3, 4] (fun n i wr => ∃ (k : Nat) (p : Int), i = .int .i64 (k : Int) ∧ n = .int .i64 p ∧ k ≤ L ∧ p = prodS (s.take k) ∧ 1 ≤ p ∧ p ≤ 1024 ∧ w = wr) (fun _ i _ => L - (intOf i).toNat)
  case atStart => exact ⟨0, 1, rfl, rfl, Nat.zero_le _, rfl, by decide, by decide, by trivial⟩
  case round =>
    obtain ⟨k, p, rfl, rfl, hk, hpe, hp1, hp2, rfl⟩ := hrel
    have HPE := Lib.hid hpe
    clear hpe
    by_cases hlt : k < L
    · have hks : k < s.length := by rw [HL.out]; exact hlt
      obtain ⟨b1, o1, rfl, c1⟩ := HA.out.at hks
      have hx1 := HP.out.getD hks
      have hx2 := getD_le_prod HP.out hks
      have htk := prodS_take hks
      have hle := prodS_take_le HP.out (k + 1)
      rw [← HPE.out] at htk
      obtain ⟨x, hx⟩ : ∃ x, s.getD k 0 = x := ⟨_, rfl⟩
      rw [hx] at c1 hx1 hx2 htk
      have hltI : (k : Int) < (L : Int) := by omega
      have HX := Lib.hid hx
      clear hx hks
      by_cases hb : x > 1024
      · have hdd : d = 1025 := by rw [← HD.out]; unfold cntR; rw [if_neg (by omega)]
        subst hdd
        clear htk hle hx2
        go_wp2
        go_ret
        exact ⟨rfl, rfl⟩
      · obtain ⟨y, hy⟩ : ∃ y, p * x = y := ⟨_, rfl⟩
        have hy1 : 1 ≤ y := by rw [← hy]; exact Int.le_trans (by omega) (Int.mul_le_mul hp1 hx1 (by omega) (by omega))
        have hy2 : y ≤ 1024 * 1024 := by rw [← hy]; exact Int.mul_le_mul hp2 (by omega) (by omega) (by omega)
        have hw : IntKind.i64.wrap y = y := wrap_i64 (by omega) (by omega)
        rw [hy] at htk
        have HTK := Lib.hid htk
        have hxb : ¬ x > 1024 := hb
        by_cases hb2 : y > 1024
        · have hdd : d = 1025 := by rw [← HD.out]; unfold cntR; rw [if_neg (by omega)]
          subst hdd
          clear htk hle hx2
          go_wp2
          go_ret
          exact ⟨rfl, rfl⟩
        · have hyb : ¬ y > 1024 := hb2
          clear htk hle hx2
          go_wp2
          go_roundw
          case rel => exact ⟨k + 1, y, by go_num, rfl, by omega, HTK.out.symm, hy1, by omega, by trivial⟩
          case measure => simp [intOf]; omega
    · obtain rfl : k = L := by omega
      have hltI : ¬ (k : Int) < (k : Int) := by omega
      have hall : s.take k = s := by rw [← HL.out]; exact List.take_length
      have hdd : d = p := by rw [← HD.out, HPE.out, hall]; unfold cntR; rw [if_pos (by rw [← hall, ← HPE.out]; omega)]
      subst hdd
      clear hall
      go_wp2
      go_ret
      exact ⟨rfl, rfl⟩
/-- what a function of the reference answers: a tensor and a number, or none and an error's number -/
def RefA (w' : World) (e : Ending) (c : Int) (s : List Int) (L : List Rat) (m : Nat) : Prop :=
  ∃ r, e = .returned (.tuple #[r, .int .i64 c]) ∧ (∃ x0 x1 x2 x3 x4 x5, r = .agg #[.slice x0 x1 x2, .slice x3 x4 x5]) ∧ (c = 0 → TenR w' r s L m)
def rsC (t : List Int) (k : Nat) : Int := if mayC t ≠ 0 then mayC t else if countS t ≠ (k : Int) then 13 else 0
set_option maxRecDepth 100000 in
set_option maxHeartbeats 4000000 in
theorem reshapeR_any {m : Nat} {w : World} {v : Value} {s t : List Int} {L : List Rat} {ad : Option Addr} {cd : Nat} (T : TenR w v s L m) (D : ArgS w (.slice ad t.length cd) t ad cd) (nd : ad = none → cd = 0) (ht : t.length ≤ 8000000) :
    Calls Tryz.prog 21 #[v, .slice ad t.length cd] w fun e w' => RefA w' e (rsC t L.length) t L m ∧ Below w.heap.size w w' := by
  obtain ⟨a, ca, b, cb, T⟩ := T
  have HT := Lib.hid T
  obtain rfl := T.is
  obtain ⟨W, hW⟩ : ∃ W, ((w.alloc (.cells #[.slice a s.length ca, .slice b L.length cb] 34)).alloc (.cells #[.slice none 0 0, .slice none 0 0] 34)) = W := ⟨_, rfl⟩
  have R0 : Row W (w.heap.size) 34 #[.slice a s.length ca, .slice b L.length cb] := by rw [← hW]; exact (Row.new _ _ _).alloc _
  have R1 : Row W (w.heap.size + 1) 34 #[.slice none 0 0, .slice none 0 0] := by rw [← hW]; have h := Row.new (w.alloc (.cells #[.slice a s.length ca, .slice b L.length cb] 34)) 34 #[.slice none 0 0, .slice none 0 0]; (try simp only [World.size_alloc] at h); exact h
  have hBW : Below w.heap.size w W := by rw [← hW]; exact (((Below.refl _ _).alloc (by (try simp) <;> omega) _).alloc (by (try simp) <;> omega) _)
  have hsW : W.heap.size = w.heap.size + 1 + 1 := by rw [← hW]; simp
  have hmy := mayR6_any (D.later hBW)
  have HD := Lib.hid D
  have HND := Lib.hid nd
  obtain ⟨p, hp⟩ : ∃ p, mayC t = p := ⟨_, rfl⟩
  rw [hp] at hmy
  obtain ⟨c, hc⟩ : ∃ c, rsC t L.length = c := ⟨_, rfl⟩
  have HC := Lib.hid hc
  have HP := Lib.hid hp
  rw [hc]
  obtain ⟨c0, c1, _, _⟩ := R0.two
  obtain ⟨u0, u1, g0, g1⟩ := R1.two
  have P3 := R1.set2 (.slice none 0 0) (.slice none 0 0)
  obtain ⟨z0, z1, _, _⟩ := P3.two
  have HB3 := Lib.hid (below_set2 hBW (show w.heap.size ≤ w.heap.size + 1 by omega) (.slice none 0 0) (.slice none 0 0))
  by_cases h0 : p = 0
  · subst h0
    have okT := mayC_zero.1 hp
    have hcn := fun (X : World) (h : Below w.heap.size w X) => count9_any (HD.out.later h) okT.pos (by have := okT.rank; omega)
    rw [cntR_ok okT] at hcn
    obtain ⟨k, hk⟩ : ∃ k, prodS t = k := ⟨_, rfl⟩
    rw [hk] at hcn
    have hcc : c = if k ≠ (L.length : Int) then 13 else 0 := by
      rw [← HC.out]
      unfold rsC
      rw [if_neg (by rw [hp]; simp), okT.count, hk]
    have HCC := Lib.hid hcc
    have mkS : ∀ X, Below W.heap.size W X → X.cell? ⟨w.heap.size, 1, none⟩ = some (.slice b L.length cb) := fun X h => ((R0.later h).two).2.1
    have B0 : Below W.heap.size W W.drew := (Below.refl _ W).drew
    clear T D nd hp hc hcc
    go_enter Tryz.func21, Tryz.ntmps21
    (try rw [hW])
    go_wp2_with (go_at_call 55; refine hmy.mono ?_; rintro e w1 ⟨rfl, rfl⟩)
    refine wp_region_held (S := fun X => X.cell? ⟨w.heap.size, 1, none⟩ = some (.slice b L.length cb)) (by kernel_rfl) ?_
    have hHeld := mkS _ B0
    refine wpAnyH_take (i := 0) (v := ?vq0a0) rfl (by kernel_rfl) (by kernel_rfl) (by kernel_rfl) (fun _ _ _ h => h) (Or.inl ⟨by rfl, ?hq0a0⟩) (by assumption) ?rq0a0
    case hq0a0 =>
      intro w hSw
      try dsimp only at hSw
      go_simp
      try with_reducible rfl
    try simp only [Act.put, List.setIfInBounds_toArray, List.set_cons_zero, List.set_cons_succ]
    refine wpAnyH_take (i := 2) (v := ?vq0a2) rfl (by kernel_rfl) (by kernel_rfl) (by kernel_rfl) (fun _ _ _ h => h) (Or.inl ⟨by rfl, ?hq0a2⟩) (by assumption) ?rq0a2
    case hq0a2 =>
      intro w hSw
      try dsimp only at hSw
      go_simp
      try with_reducible rfl
    try simp only [Act.put, List.setIfInBounds_toArray, List.set_cons_zero, List.set_cons_succ]
    refine wpAnyH_take (i := 3) (v := ?vq0a3) rfl (by kernel_rfl) (by kernel_rfl) (by kernel_rfl) (fun _ _ _ h => h) (Or.inl ⟨by rfl, ?hq0a3⟩) (by assumption) ?rq0a3
    case hq0a3 =>
      intro w hSw
      try dsimp only at hSw
      go_simp
      try with_reducible rfl
    try simp only [Act.put, List.setIfInBounds_toArray, List.set_cons_zero, List.set_cons_succ]
    refine wpAnyH_take (i := 4) (v := ?vq0a4) rfl (by kernel_rfl) (by kernel_rfl) (by kernel_rfl) (fun _ _ _ h => h) (Or.inl ⟨by rfl, ?hq0a4⟩) (by assumption) ?rq0a4
    case hq0a4 =>
      intro w hSw
      try dsimp only at hSw
      go_simp
      try with_reducible rfl
    try simp only [Act.put, List.setIfInBounds_toArray, List.set_cons_zero, List.set_cons_succ]
    refine wpAnyH_ready (rs := [1]) (by kernel_rfl) (by simp) ?_
    refine AllReadyH.cons rfl (fun K hK => ?scn) AllReadyH.nil
    go_simp
    refine (hcn _ (hBW.trans (B0.mono (by omega)))).mono ?_
    rintro e y1 ⟨rfl, rfl⟩
    go_simp
    refine hK.out _ _ ?kcn (fun hHeld => ?mcn)
    case kcn =>
      try dsimp only
      exact mkS _ B0
    clear hK K
    try simp only [Act.put, List.setIfInBounds_toArray, List.set_cons_zero, List.set_cons_succ]
    refine wpAnyH_take (i := 5) (v := ?vq5a5) rfl (by kernel_rfl) (by kernel_rfl) (by kernel_rfl) (fun _ _ _ h => h) (Or.inl ⟨by rfl, ?hq5a5⟩) (by assumption) ?rq5a5
    case hq5a5 =>
      intro w hSw
      try dsimp only at hSw
      go_simp
      try with_reducible rfl
    try simp only [Act.put, List.getElem_toArray, List.getElem_cons_succ, List.getElem_cons_zero, List.setIfInBounds_toArray, List.set_cons_zero, List.set_cons_succ]
    refine wpAnyH_done (by kernel_rfl) ?_ _
    have hBd : Below w.heap.size w W.drew := hBW.drew
    have R1d : Row W.drew (w.heap.size + 1) 34 #[.slice none 0 0, .slice none 0 0] := R1.drew
    obtain ⟨v0, v1, h0', h1'⟩ := R1d.two
    by_cases h : k = (L.length : Int)
    · have hn : (k != (L.length : Int)) = false := by simp [h]
      obtain rfl : c = 0 := by rw [HCC.out, if_neg (by simp [h])]
      obtain ⟨Y, hY⟩ : ∃ Y, W.drew = Y := ⟨_, rfl⟩
      have bY : Below W.heap.size W Y := by rw [← hY]; exact B0
      rw [hY] at R1d hBd
      have mkY : ∀ X, Below Y.heap.size Y X → X.cell? ⟨w.heap.size, 1, none⟩ = some (.slice b L.length cb) := fun X h => mkS X (bY.trans (h.mono bY.size))
      have sY := bY.size
      have BY : Below Y.heap.size Y Y.drew := (Below.refl _ Y).drew
      clear h
      go_wp2_with fail
      (try rw [hY])
      clear hY v0 v1 h0' h1'
      refine wp_region_held (S := fun X => X.cell? ⟨w.heap.size, 1, none⟩ = some (.slice b L.length cb)) (by kernel_rfl) ?_
      have hHeld := mkY _ BY
      refine wpAnyH_take (i := 0) (v := ?vq7a0) rfl (by kernel_rfl) (by kernel_rfl) (by kernel_rfl) (fun _ _ _ h => h) (Or.inl ⟨by rfl, ?hq7a0⟩) (by assumption) ?rq7a0
      case hq7a0 =>
        intro w hSw
        try dsimp only at hSw
        go_simp
        try with_reducible rfl
      try simp only [Act.put, List.setIfInBounds_toArray, List.set_cons_zero, List.set_cons_succ]
      refine wpAnyH_take (i := 2) (v := ?vq7a2) rfl (by kernel_rfl) (by kernel_rfl) (by kernel_rfl) (fun _ _ _ h => h) (Or.inl ⟨by rfl, ?hq7a2⟩) (by assumption) ?rq7a2
      case hq7a2 =>
        intro w hSw
        try dsimp only at hSw
        go_simp
        try with_reducible rfl
      try simp only [Act.put, List.setIfInBounds_toArray, List.set_cons_zero, List.set_cons_succ]
      refine wpAnyH_take (i := 3) (v := ?vq7a3) rfl (by kernel_rfl) (by kernel_rfl) (by kernel_rfl) (fun _ _ _ h => h) (Or.inl ⟨by rfl, ?hq7a3⟩) (by assumption) ?rq7a3
      case hq7a3 =>
        intro w hSw
        try dsimp only at hSw
        go_simp
        try with_reducible rfl
      try simp only [Act.put, List.setIfInBounds_toArray, List.set_cons_zero, List.set_cons_succ]
      refine wpAnyH_ready (rs := [1]) (by kernel_rfl) (by simp) ?_
      refine AllReadyH.cons rfl (fun K hK => ?sap) AllReadyH.nil
      refine step_copyK rfl _ 22 Tryz.underlying22 rfl rfl (HD.out.later (hBd.drew)) HND.out (by omega) ?_
      intro ro y2 RS hy
      obtain ⟨a2, c2, rfl, RS2, A2, n2⟩ := RS.slice
      have B1 : Below Y.heap.size Y y2 := BY.trans hy
      refine hK.out _ _ (mkY _ B1) (fun hHeld2 => ?_)
      clear hK K hHeld
      have hHeld := hHeld2
      clear hHeld2
      try simp only [Act.put, List.setIfInBounds_toArray, List.set_cons_zero, List.set_cons_succ]
      refine wpAnyH_take (i := 4) (v := ?vq8a4) rfl (by kernel_rfl) (by kernel_rfl) (by kernel_rfl) (fun _ _ _ h => h) (Or.inl ⟨by rfl, ?hq8a4⟩) (by assumption) ?rq8a4
      case hq8a4 =>
        intro w hSw
        try dsimp only at hSw
        go_simp
        try with_reducible rfl
      try simp only [Act.put, List.setIfInBounds_toArray, List.set_cons_zero, List.set_cons_succ]
      have s2 := B1.size
      have P2 := R1d.later B1
      obtain ⟨v0, v1, v2, v3⟩ := P2.two
      have hB2 : Below w.heap.size w y2 := hBd.trans (B1.mono (by omega))
      have X0 := (((R0.later bY).later B1).far (p := ⟨w.heap.size + 1, 0, none⟩) (by show w.heap.size ≠ w.heap.size + 1; omega) (.slice a2 t.length c2)).far (p := ⟨w.heap.size + 1, 1, none⟩) (by show w.heap.size ≠ w.heap.size + 1; omega) (.slice b L.length cb)
      refine wpAnyH_ready (rs := [5]) (by kernel_rfl) (by simp) ?_
      refine AllReadyH.cons rfl (fun K hK => ?sst) AllReadyH.nil
      go_simp
      refine hK.out _ _ ?kst (fun hHeld => ?mst)
      case kst =>
        try dsimp only
        exact X0.two.2.1
      clear hK K
      try simp only [Act.put, List.setIfInBounds_toArray, List.set_cons_zero, List.set_cons_succ]
      refine wpAnyH_ready (rs := [6]) (by kernel_rfl) (by simp) ?_
      refine AllReadyH.cons rfl (fun K hK => ?sas) AllReadyH.nil
      go_simp
      refine hK.out _ _ ?kas (fun hHeld => ?mas)
      case kas =>
        try dsimp only
        exact X0.two.2.1
      clear hK K
      try simp only [Act.put, List.setIfInBounds_toArray, List.set_cons_zero, List.set_cons_succ]
      refine wpAnyH_done (by kernel_rfl) ?_ _
      have P4 := P2.set2 (.slice a2 t.length c2) (.slice b L.length cb)
      obtain ⟨z0', z1', _, _⟩ := P4.two
      have hU := (HT.out.later hB2)
      go_wp2_with fail
      refine bodyPost_ret (v := .tuple #[.agg #[.slice a2 t.length c2, .slice b L.length cb], .int .i64 0]) (by simp [results, Tryz.results21, go_sem, z0', z1']) rfl ⟨⟨_, rfl, ⟨_, _, _, _, _, _, rfl⟩, fun _ => ?_⟩, below_set2 hB2 (by omega) _ _⟩
      have hold : TensR w (.agg #[.slice a s.length ca, .slice b L.length cb]) s L m a ca b cb := HT.out
      refine ⟨a2, c2, b, cb, rfl, ((RS2.mono (show w.heap.size ≤ _ by omega)).far P2 (by decide) (kept2 _ _)).at_.2.1, n2, ?_, hold.nilb⟩
      exact hold.el.later (below_set2 hB2 (by omega) _ _) (fun v x _ k => k.later (below_set2 hB2 (by omega) _ _))
    · have hn : (k != (L.length : Int)) = true := by simp [h]
      obtain rfl : c = 13 := by rw [HCC.out, if_pos h]
      have P4 := R1d.set2 (.slice none 0 0) (.slice none 0 0)
      obtain ⟨z0', z1', _, _⟩ := P4.two
      clear h
      go_wp2_with fail
      refine bodyPost_ret (v := .tuple #[noTensor, .int .i64 13]) (by simp [results, Tryz.results21, go_sem, z0, z1, z0', z1', noTensor]) rfl ⟨⟨_, rfl, ⟨none, 0, 0, none, 0, 0, rfl⟩, fun h => by cases h⟩, below_set2 hBd (by omega) _ _⟩
  · have hcc : c = p := by rw [← HC.out]; unfold rsC; rw [if_pos (by rw [hp]; exact h0), hp]
    subst hcc
    have hne : (c != 0) = true := by simp [h0]
    have H0 := Lib.hid h0
    clear T D nd hp hc h0
    go_enter Tryz.func21, Tryz.ntmps21
    (try rw [hW])
    go_wp2_with (go_at_call 55; refine hmy.mono ?_; rintro e w1 ⟨rfl, rfl⟩)
    refine bodyPost_ret (v := .tuple #[noTensor, .int .i64 c]) (by simp [results, Tryz.results21, go_sem, z0, z1, noTensor]) rfl ⟨⟨_, rfl, ⟨none, 0, 0, none, 0, 0, rfl⟩, fun h => absurd h H0.out⟩, HB3.out⟩
end
end Go.Proofs.YtooglnhlhgmhdaaGreat
