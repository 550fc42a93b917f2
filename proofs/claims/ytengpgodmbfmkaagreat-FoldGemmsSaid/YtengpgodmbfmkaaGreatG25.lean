/-
  Part 25 of 39: contracts and what they rest on (TBack, TWSame, PCode1, PCode2, PRat, PRefA, PRefE, MMath3, FRows).
-/
import Derived.Test.YtengpgodmbfmkaaGreatG14
import Derived.Test.YtengpgodmbfmkaaGreatG21
import Derived.Test.YtengpgodmbfmkaaGreatG22
namespace Go.Proofs.YtengpgodmbfmkaaGreat
set_option linter.unusedVariables false
set_option linter.unusedSimpArgs false
set_option maxRecDepth 100000
set_option maxHeartbeats 40000000
section
open Go.RowKit
theorem backT_any {n : Nat} {w : World} {v : Value} {s : List Int} {qs : List Rat} {a b : Option Addr} {ca cb : Nat} (T : TensR w v s qs n a ca b cb) (hs : s.length ≤ 17592186044416) (hq : qs.length ≤ 1000000000) (hn : n ≤ 1000000000) :
 Calls Tryz.prog 38 #[v] w fun e w' => ∃ (a' b' : Option Addr) (ca' cb' : Nat), e = .returned (.agg #[.slice a' s.length ca', .slice b' qs.length cb']) ∧ ResS w.heap.size w' (.slice a' s.length ca') s ∧
  RowO w.heap.size 54 (fun W v x => ResQ w.heap.size W v x n) w' (.slice b' qs.length cb') (qs) ∧ Below w.heap.size w w' := by
 obtain ⟨i0, hi, hz0, hz1, hz2⟩ := info_parts infoQ
 have HT := Lib.hid T
 obtain rfl := T.is
 obtain ⟨W, hW⟩ : ∃ W, ((w.alloc (.cells #[.slice a s.length ca, .slice b qs.length cb] 36)).alloc (.cells #[.slice none 0 0, .slice none 0 0] 26)) = W := ⟨_, rfl⟩
 have R0 : Row W w.heap.size 36 #[.slice a s.length ca, .slice b qs.length cb] := by rw [← hW]; exact (Row.new _ _ _).alloc _
 have R1 : Row W (w.heap.size + 1) 26 #[.slice none 0 0, .slice none 0 0] := by rw [← hW]; have h := (Row.new (w.alloc (.cells #[.slice a s.length ca, .slice b qs.length cb] 36)) 26 #[.slice none 0 0, .slice none 0 0]); simp only [World.size_alloc] at h; exact h
 have hBW : Below w.heap.size w W := by rw [← hW]; exact ((Below.refl _ _).alloc (by simp) _).alloc (by simp) _
 have hsW : w.heap.size + 1 + 1 ≤ W.heap.size := by rw [← hW]; simp
 have AW := HT.out.sh.later hBW
 have nA := HT.out.nila
 have NA := Lib.hid nA
 obtain ⟨p0, p1, _, _⟩ := R0.two
 clear T nA
 go_enter Tryz.func38, Tryz.ntmps38
 go_wp2_with (at_builtin; refine step_copyT rfl _ 23 22 Tryz.underlying23 Tryz.underlying22 rfl rfl AW NA.out hs ?_; intro ro w3 R3 hb3; obtain ⟨a3, c3, rfl, R3', A3, n3⟩ := R3.slice)
 have hs3 := hb3.size
 have hB3 : Below w.heap.size w w3 := hBW.trans (hb3.mono (by omega))
 have hB4 : Below w.heap.size w (w3.alloc (.cells #[.slice a3 s.length c3, .slice none 0 0] 26)) := hB3.alloc (by omega) _
 have r0 := (R0.later hb3).alloc (.cells #[.slice a3 s.length c3, .slice none 0 0] 26)
 have r1 := (R1.later hb3).alloc (.cells #[.slice a3 s.length c3, .slice none 0 0] 26)
 have r2 := Row.new w3 26 #[.slice a3 s.length c3, .slice none 0 0]
 have r3 : ResS w.heap.size (w3.alloc (.cells #[.slice a3 s.length c3, .slice none 0 0] 26)) (.slice a3 s.length c3) s := (R3'.mono (by omega)).later ((Below.refl _ _).alloc (Nat.le_refl _) _)
 obtain ⟨g, hg⟩ : ∃ g, w3.heap.size = g := ⟨_, rfl⟩
 have hg2 : w.heap.size + 1 + 1 ≤ g := by omega
 rw [hg] at r2 ⊢
 generalize w3.alloc (.cells #[.slice a3 s.length c3, .slice none 0 0] 26) = W4 at *
 have H0 := Lib.hid r0
 have H1 := Lib.hid r1
 have H2 := Lib.hid r2
 have H3 := Lib.hid r3
 have HB4 := Lib.hid hB4
 clear r0 r1 r2 r3 hB4 hB3 hb3 hs3 R3 R3' A3 R0 R1 hBW AW p0 p1 hsW hg hW
 go_loopw [4] (fun i wr => ∃ (k : Nat) (v : Value), i = .int .i64 (k : Int) ∧ k ≤ qs.length ∧ Row wr w.heap.size 36 #[.slice a s.length ca, .slice b qs.length cb] ∧ Row wr (w.heap.size + 1) 26 #[.slice none 0 0, .slice none 0 0] ∧
  Row wr g 26 #[.slice a3 s.length c3, v] ∧ ResS w.heap.size wr (.slice a3 s.length c3) s ∧ RowO w.heap.size 54 (fun W v x => ResQ w.heap.size W v x n) wr v (qs.take k) ∧ Below w.heap.size w wr) (fun i _ => qs.length - (intOf i).toNat)
 case atStart => exact ⟨0, _, rfl, Nat.zero_le _, H0.out, H1.out, H2.out, H3.out, RowO.nil _ _ _ _, HB4.out⟩
 case round =>
  obtain ⟨k, v, rfl, hk, r0, r1, r2, r3, ⟨es, hown, hall⟩, hb⟩ := hrel
  have hsz := hb.size
  have c01 := r0.cell 1
  have c21 := r2.cell 1
  have hle : es.length = k := by rw [hall.1]; simp [hk]
  by_cases hlt : k < qs.length
  · obtain ⟨bb, o, x0, x1, x2, q, hbo, hqk, e0, e1, e2, hraw⟩ := (HT.out.el.later hb (fun v x _ k => k.later hb)).at hlt
    have hmem := List.mem_of_getElem? hqk
    have hb0 : bb < w.heap.size := HT.out.el.low (by intro h; rw [h] at hlt; simp at hlt) hbo
    subst hbo
    have hcall : ArgR wr (.agg #[x0, x1, x2]) q n := hraw
    obtain ⟨r, hrv, hrb, hrne⟩ := hown.hits hsz
    have n0 := hrne _ _ _ r0 (by decide)
    have n2 := hrne _ _ _ r2 (by decide)
    have n1 := hrne _ _ _ r1 (by decide)
    have mkS : ∀ X, Kept r wr X → X.cell? ⟨g, 1, none⟩ = some v ∧ X.cell? ⟨w.heap.size, 1, none⟩ = some (.slice (some ⟨bb, o, none⟩) qs.length cb) ∧ X.cell? ⟨bb, o + k * 3, none⟩ = some x0 ∧ X.cell? ⟨bb, o + k * 3 + 1, none⟩ = some x1 ∧ X.cell? ⟨bb, o + k * 3 + 2, none⟩ = some x2 ∧ Kept r wr X := fun X h =>
     ⟨h.cell c21 n2, h.cell c01 n0, h.cell e0 (by show bb ≠ r; omega), h.cell e1 (by show bb ≠ r; omega), h.cell e2 (by show bb ≠ r; omega), h⟩
    have hltI : (k : Int) < (qs.length : Int) := by omega
    have hS0 := mkS wr.drew ((Kept.refl r wr).drew)
    go_wp2_with fail
    refine wp_region_L (S := fun X => X.cell? ⟨g, 1, none⟩ = some v ∧ X.cell? ⟨w.heap.size, 1, none⟩ = some (.slice (some ⟨bb, o, none⟩) qs.length cb) ∧ X.cell? ⟨bb, o + k * 3, none⟩ = some x0 ∧ X.cell? ⟨bb, o + k * 3 + 1, none⟩ = some x1 ∧ X.cell? ⟨bb, o + k * 3 + 2, none⟩ = some x2 ∧ Kept r wr X) (z := 11) (by kernel_rfl) hS0 (fun hHeld => ?_)
    refine todo [0, 1, 2, 3, 4, 5, 6] ?_
    iterate 7
     refine todoL (v := ?_) rfl (by kernel_rfl) (fun _ _ _ h => h) (by assumption) (Or.inl ⟨by rfl, ?_⟩) ?_
     rotate_left
     · intro w hSw; (try dsimp only at hSw); go_simp; (try with_reducible rfl)
     try simp only [Act.put, nA, nB, nC, nD, nE, nF]
    refine todone ?_
    refine wpAnyL_one (i := 7) (by kernel_rfl) rfl (fun K hK => ?sb7)
    go_simp
    refine (backR_any (hcall.later (show Below wr.heap.size wr wr.drew from (Below.refl _ _).drew)) hn).mono ?_
    rintro e w5 ⟨rv, rfl, qv, hb5⟩
    have Q5 := Lib.hid qv
    obtain ⟨m5, f1, l1, j1, f2, l2, j2, rfl⟩ := qv.shape
    clear qv
    go_simp
    have hB5 : Below w.heap.size w w5 := (hb.drew).trans (hb5.mono hsz)
    have hk5 : Kept r wr w5 := ((Kept.refl r wr).drew).below hb5
    refine hK.out _ _ (fun _ => mkS _ hk5) (fun hHeld2 => ?mb7)
    clear hK K hHeld
    have hHeld := hHeld2 (by decide)
    clear hHeld2
    try simp only [Act.put, nD, nE, nF]
    refine wpAnyL_one (i := 8) (by kernel_rfl) rfl (fun K hK => ?sb8)
    go_simp
    refine hK.out _ _ (fun _ => mkS _ (hk5.alloc _)) (fun hHeld2 => ?mb8)
    clear hK K hHeld
    have hHeld := hHeld2 (by decide)
    clear hHeld2
    try simp only [Act.put, nD, nE, nF]
    refine wpAnyL_one (i := 9) (by kernel_rfl) rfl (fun K hK => ?sb9)
    have hb5w : Below wr.heap.size wr w5 := (Below.refl _ wr).drew.trans hb5
    have hown5 : OwnE w.heap.size 54 w5 v es := hown.later hb5w
    have hall5 : AllE (fun v x => ResQ w.heap.size w5 v x n) es (qs.take k) := hall.imp fun u x _ h => h.later hb5w
    have hsz5 := hB5.size
    refine step_append_ownT rfl _ _ 24 rfl w.heap.size 54 i0 _ 3 56 Tryz.underlying24 hi hz0 hz1 hz2 rfl (by decide) _ es.length (flat3 es) rfl (hown5.later ((Below.refl _ _).alloc (Nat.le_refl _) _)) ⟨w5.heap.size, 0, none⟩ 1 1 [.bool m5, .slice f1 l1 j1, .slice f2 l2 j2] rfl rfl (cell_three_new _ _ _ _ _) (by simp [Value.oneCell']) (by unfold maxLen; omega) (by omega) (by simp; omega) ?_
    intro v' w6 hown' hgrow _
    obtain ⟨av, cv, rfl⟩ := ownT_slice hown'
    have hk6 : Kept r wr w6 := (hk5.alloc _).grown hgrow hrv
    refine hK.out _ _ (fun _ => mkS _ hk6) (fun hHeld2 => ?mb9)
    clear hK K hHeld
    have hHeld := hHeld2 (by decide)
    clear hHeld2
    try simp only [Act.put, nD, nE, nF]
    refine wpAnyL_take (i := 10) (v := ?va10) rfl (by kernel_rfl) (by kernel_rfl) (by kernel_rfl) (by kernel_rfl) (fun _ _ _ h => h) (Or.inl ⟨by rfl, ?ha10⟩) (by assumption) ?ra10
    case ha10 =>
     intro w hSw
     try dsimp only at hSw
     go_simp
     try with_reducible rfl
    try simp only [Act.put, nD, nE, nF]
    have R26 := r2.kept hk6 n2
    have f21 := R26.free 1
    have d21 := R26.cell 1
    refine wpAnyL_one (i := 11) (by kernel_rfl) rfl (fun K hK => ?sb11)
    go_simp
    refine hK.out _ _ (fun h => absurd rfl h) (fun _ => ?mb11)
    clear hK K
    try simp only [Act.put, nD, nE, nF]
    refine wpAnyL_done (by kernel_rfl) ?_ _
    go_wp2
    go_roundw
    case rel =>
     have hx5 : ResQ w.heap.size w5 (E3.agg ⟨.bool m5, .slice f1 l1 j1, .slice f2 l2 j2⟩) q n := Q5.out.mono (by show w.heap.size ≤ wr.heap.size; exact hsz)
     obtain ⟨hrow6, hb6⟩ := pushE (P := fun W v x => ResQ w.heap.size W v x n) (e := ⟨.bool m5, .slice f1 l1 j1, .slice f2 l2 j2⟩) hB5 hsz5 hown5 hall5 hx5 (fun u y h => ResQ.apart hown5 hgrow (by decide) h) hown' hgrow
     rw [hle] at hrow6
     have r06 := r0.kept hk6 n0
     have r16 := r1.kept hk6 n1
     have r36 : ResS w.heap.size w6 (.slice a3 s.length c3) s := ResS.apart hown5 hgrow (by decide) (r3.later hb5w)
     refine ⟨k + 1, _, by go_num, by omega, r06.far (by show w.heap.size ≠ g; omega) _, r16.far (by show w.heap.size + 1 ≠ g; omega) _, R26.set21 _, r36.far R26 (by decide) (kept1 _), ?_, hb6.setCell (by show w.heap.size ≤ g; omega) _⟩
     rw [take_nextL hqk]
     exact hrow6.far R26 (by decide) (kept1 _) (fun u y h => h.far R26 (by decide) (kept1 _))
    case measure => simp [intOf]; omega
  · obtain rfl : k = qs.length := by omega
    have hltI : ¬ (qs.length : Int) < (qs.length : Int) := by omega
    rw [List.take_length] at hall
    obtain ⟨av, cv, rfl⟩ := ownT_slice hown
    have hel : es.length = qs.length := hle
    rw [hel] at r2 hown
    have c20 := r2.cell 0
    have d21 := r2.cell 1
    have f10 := r1.free 0
    have f11 := r1.free 1
    have g10 := r1.cell 0
    have g11 := r1.cell 1
    have R1s := r1.set2 (.slice a3 s.length c3) (.slice av qs.length cv)
    obtain ⟨z0, z1, _, _⟩ := R1s.two
    have HOWN := Lib.hid hown
    have HALL := Lib.hid hall
    have HR1 := Lib.hid r1
    clear hown hall hle R1s r1
    go_wp2
    refine bodyPost_ret (v := .agg #[.slice a3 s.length c3, .slice av qs.length cv]) (by simp [results, Tryz.results38, go_sem, z0, z1]) rfl ⟨_, _, _, _, rfl, ?_, ?_, below_set2 hb (by omega) _ _⟩
    · exact r3.far HR1.out (by decide) (kept2 _ _)
    · exact RowO.far ⟨es, HOWN.out, HALL.out⟩ HR1.out (by decide) (kept2 _ _) (fun u y h => h.far HR1.out (by decide) (kept2 _ _))
end
section
open Go.RowKit
theorem ofT_tens {base n : Nat} {w : World} {a b : Option Addr} {ca cb m : Nat} {s : List Int} {L : List Rat} (hm : m = L.length) (S : ResS base w (.slice a s.length ca) s) (E : RowO base 58 (fun W v x => ResR base W v x n) w (.slice b m cb) L) :
 TensR w (.agg #[.slice a s.length ca, .slice b m cb]) s L n a ca b cb := by
 subst hm
 exact ⟨rfl, S.at_.2.1, S.at_.2.2, E.at_.2.1.imp (fun v x _ h => h.arg), E.at_.2.2⟩
end
section
open Go.RowKit
theorem make_rowP (m : Nat) (hc : m ≤ 1000000000000) (w : World) :
 (Instr.makeSlice 24 (.int .i64 0) (.int .i64 (m : Int))).run Tryz.prog w = .ok (.slice (some ⟨w.heap.size, 0, none⟩) 0 m) (w.alloc (.cells (madeCells #[.bool false, .slice none 0 0, .slice none 0 0] (m * 3)) 54)) := by
 obtain ⟨i0, hi, hz0, hz1, hz2⟩ := info_parts infoQ
 have h := run_make (P := Tryz.prog) w 24 54 i0 (.agg #[.bool false, .slice none 0 0, .slice none 0 0]) Tryz.underlying24 hi hz0 .i64 .i64 0 m (by omega) (by omega) (by rw [hz2]; omega) (by omega)
 simpa [hz1, Value.cells] using h
theorem madeP_len (z : Array Value) (m : Nat) : (madeCells z m).size = m := by
 simp [madeCells]
theorem cloneS_any {u : Value} {xs : List Int} {ad : Option Addr} {cap : Nat} {w : World} (A : ArgS w u xs ad cap) (hn : ad = none → cap = 0) (hx : xs.length ≤ 17592186044416) :
 Calls Tryz.prog 102 #[u] w fun e w' => ∃ r, e = .returned r ∧ ResS w.heap.size w' r xs ∧ Below w.heap.size w w' := by
 obtain ⟨i0, hi, hz0, hz1, hz2⟩ := info_parts infoS
 have q22 : ∀ (w : World) (a : Option Addr) (n c n' c' : Nat), (binOp .eql 23 (.slice a n c) (.slice none n' c')).run Tryz.prog w = .ok (.bool a.isNone) w := fun w a n c n' c' => Lib.run_eql_slice_nil w _ _ a n c n' c' Tryz.underlying23
 have HW := Lib.hid A.wf
 obtain ⟨rfl, lx, hle, wx⟩ := A
 clear wx
 cases ad with
 | none =>
   have hc := hn rfl
   subst hc
   obtain rfl : xs = [] := List.eq_nil_of_length_eq_zero (by omega)
   clear lx hle hn hx
   go_enter Tryz.func102, Tryz.ntmps102
   go_wp2
   go_ret
   exact ⟨_, rfl, ResS.nil _ _, Below.refl _ _⟩
 | some a =>
   have HC := Lib.hid (cells_argS (cap := cap) (lx.later ((Below.refl w.heap.size w).alloc (Nat.le_refl _) (.cells #[] 3))))
   clear lx hn
   go_enter Tryz.func102, Tryz.ntmps102
   go_wp2_with (at_builtin; refine wpList_append_own _ rfl _ _ 23 rfl w.heap.size 3 i0 (.int .i64 0) 1 8 Tryz.underlying23 hi hz0 hz1 hz2 rfl (by decide) _ _ _ rfl (World.ownsRow_made w #[] 0 (Nat.le_refl _) (Nat.zero_le _) rfl) a xs.length cap (xs.map (Value.int .i64)) rfl ?qc1 HC.out (ints_oneCell _ _) ?qc4 ?qc5 ?qc6 ?_)
   case qc1 => simp
   case qc4 => unfold maxLen; omega
   case qc5 => omega
   case qc6 => simp
   intro v' w1 hown hgrow hnil
   go_wp2
   go_ret
   refine ⟨v', rfl, ⟨?_, HW.out⟩, ?_⟩
   · unfold NumS; simpa using hown
   · exact ((Below.refl _ w).alloc (Nat.le_refl _) _).grown hgrow (by simp) (by intro k hk; simp [Value.ownBlock] at hk; omega)
theorem shaped_any {u : Value} {xs : List Int} {ad b : Option Addr} {cap n cb : Nat} {w : World} (A : ArgS w u xs ad cap) (hn : ad = none → cap = 0) (hx : xs.length ≤ 17592186044416) :
 Calls Tryz.prog 116 #[u, .slice b n cb] w fun e w' => ∃ a' ca', e = .returned (.agg #[.slice a' xs.length ca', .slice b n cb]) ∧ ResS w.heap.size w' (.slice a' xs.length ca') xs ∧ Below w.heap.size w w' := by
 obtain rfl := A.is
 obtain ⟨W, hW⟩ : ∃ W, w.alloc (.cells #[.slice none 0 0, .slice none 0 0] 26) = W := ⟨_, rfl⟩
 have R0 : Row W w.heap.size 26 #[.slice none 0 0, .slice none 0 0] := by rw [← hW]; exact Row.new _ _ _
 have hBW : Below w.heap.size w W := by rw [← hW]; exact (Below.refl _ _).alloc (Nat.le_refl _) _
 have hs : W.heap.size = w.heap.size + 1 := by rw [← hW]; simp
 have hc := cloneS_any (A.later hBW) hn hx
 go_enter Tryz.func116, Tryz.ntmps116
 (try rw [hW])
 go_wp2_with (go_at_call 102; refine hc.mono ?_; rintro e w1 ⟨r, rfl, hr, hb⟩; obtain ⟨a', ca', rfl, hr, -, -⟩ := hr.slice; have R1 := R0.later hb; obtain ⟨u0, u1, f0, f1⟩ := R1.two)
 have R2 := R1.set2 (.slice a' xs.length ca') (.slice b n cb)
 obtain ⟨z0, z1, _, _⟩ := R2.two
 refine bodyPost_ret (v := .agg #[.slice a' xs.length ca', .slice b n cb]) (by simp [results, Tryz.results116, go_sem, z0, z1]) rfl ⟨_, _, rfl, ?_, ?_⟩
 · exact (hr.mono (by omega)).far R1 (by decide) (kept2 _ _)
 · exact below_set2 (hBW.trans (hb.mono (by omega))) (Nat.le_refl _) _ _
def orL : List Int → Int
 | [] => 0
 | x :: r => if x = 0 then orL r else x
theorem orL_nil {xs : List Int} (h : ∀ x ∈ xs, x = 0) : orL xs = 0 := by
 induction xs with
 | nil => rfl
 | cons x r ih =>
   unfold orL
   rw [if_pos (h x (by simp))]
   exact ih fun y hy => h y (by simp [hy])
theorem orL_at {xs : List Int} {k : Nat} {x : Int} (h : ∀ j, j < k → xs.getD j 0 = 0) (hk : xs[k]? = some x) (hx : x ≠ 0) : orL xs = x := by
 induction xs generalizing k with
 | nil => simp at hk
 | cons y r ih =>
   cases k with
   | zero =>
     simp at hk
     subst hk
     unfold orL
     rw [if_neg hx]
   | succ k =>
     have h0 := h 0 (by omega)
     simp at h0
     unfold orL
     rw [if_pos h0]
     exact ih (k := k) (fun j hj => by simpa using h (j + 1) (by omega)) (by simpa using hk)
theorem or_any {w : World} {xs : List Int} {b : Nat} {cap : Nat} (hc : ∀ k, k < xs.length → w.cell? ⟨b, k, none⟩ = some (.int .i64 (xs.getD k 0))) (hm : xs.length ≤ 1000000) :
 Calls Tryz.prog 41 #[.slice (some ⟨b, 0, none⟩) xs.length cap] w fun e w' => e = .returned (.int .i64 (orL xs)) ∧ w = w' := by
 obtain ⟨d, hd⟩ : ∃ d, orL xs = d := ⟨_, rfl⟩
 have HD := Lib.hid hd
 have HC := Lib.hid hc
 obtain ⟨m, hm2⟩ : ∃ m, xs.length = m := ⟨_, rfl⟩
 have HM := Lib.hid hm2
 rw [hd]
 rw [hm2] at hm ⊢
 clear hd hc hm2
 go_enter Tryz.func41, Tryz.ntmps41
 go_wp2_with fail
 go_loopw [5, 8] (fun _ i wr => ∃ k : Nat, i = .int .i64 k ∧ k ≤ m ∧ (∀ j, j < k → xs.getD j 0 = 0) ∧ w = wr) (fun _ i _ => m - (intOf i).toNat)
 case atStart => exact ⟨0, rfl, Nat.zero_le _, (fun j hj => by omega), by trivial⟩
 case round =>
  obtain ⟨k, rfl, hk, hall, rfl⟩ := hrel
  have HA := Lib.hid hall
  clear hall
  by_cases hlt : k < m
  · have c1 := HC.out k (by rw [HM.out]; exact hlt)
    obtain ⟨x, hx⟩ : ∃ x, xs.getD k 0 = x := ⟨_, rfl⟩
    rw [hx] at c1
    have HX := Lib.hid hx
    have hk0 : (0 : Int) ≤ (k : Int) := Int.natCast_nonneg _
    have hk1 : (k : Int) < (m : Int) := by omega
    clear hx
    by_cases e : x = 0
    · have hne : (x != 0) = false := by simp [e]
      go_wp2
      go_roundw
      case rel =>
       refine ⟨k + 1, by go_num, by omega, fun j hj => ?_, by trivial⟩
       by_cases h : j = k
       · rw [h, HX.out, e]
       · exact HA.out j (by omega)
      case measure => simp [intOf]; omega
    · have hne : (x != 0) = true := by simp [e]
      have hd : d = x := by
       rw [← HD.out]
       refine orL_at HA.out ?_ e
       have : k < xs.length := by rw [HM.out]; exact hlt
       rw [List.getElem?_eq_getElem this, ← HX.out]
       simp [this]
      subst hd
      go_wp2
      go_ret
      exact ⟨rfl, rfl⟩
  · obtain rfl : k = m := by omega
    have hk1 : ¬ (k : Int) < (k : Int) := by omega
    have hd : d = 0 := by
     rw [← HD.out]
     refine orL_nil fun x hx => ?_
     obtain ⟨j, hj, rfl⟩ := List.mem_iff_getElem.1 hx
     have h := HA.out j (by rw [← HM.out]; exact hj)
     simpa [hj] using h
    subst hd
    go_wp2
    go_ret
    exact ⟨rfl, rfl⟩
end
section
open Go.RowKit
theorem scale1_any {n g : Nat} {w : World} {u v : Value} {q : Q3} {X : Rat} (h : RawQ w u q) (h1 : q.num.length ≤ n) (h2 : q.den.length ≤ n) (hn : n ≤ 16777000) {y0 : Bool} {y1 y2 : Option Addr} {i1 i2 k1 k2 : Nat} (hv : ArgQ w (.agg #[.bool y0, .slice y1 i1 k1, .slice y2 i2 k2]) X n) (hg : Row w g 54 #[.bool y0, .slice y1 i1 k1, .slice y2 i2 k2]) :
 Calls Tryz.prog 92 #[u, .pointer (some ⟨g, 0, none⟩)] w fun e w' => ∃ r, e = .returned r ∧ ResQ w.heap.size w' r (q.rat * X) (2 * n + 4) ∧ Below w.heap.size w w' := by
 obtain ⟨ad, bd, ca, cb, rfl, A, D, na, nb⟩ := h
 have HRAW : Hid (RawQ w (.agg #[.bool q.neg, .slice ad q.num.length ca, .slice bd q.den.length cb]) q) := Lib.hid ⟨ad, bd, ca, cb, rfl, A, D, na, nb⟩
 obtain ⟨W, hW⟩ : ∃ W, ((w.alloc (.cells #[.bool q.neg, .slice ad q.num.length ca, .slice bd q.den.length cb] 54)).alloc (.cells #[.bool false, .slice none 0 0, .slice none 0 0] 54)) = W := ⟨_, rfl⟩
 have R0 : Row W (w.heap.size) 54 #[.bool q.neg, .slice ad q.num.length ca, .slice bd q.den.length cb] := by rw [← hW]; exact ((Row.new _ _ _).alloc _)
 have R1 : Row W (w.heap.size + 1) 54 #[.bool false, .slice none 0 0, .slice none 0 0] := by rw [← hW]; have h := (Row.new (w.alloc (.cells #[.bool q.neg, .slice ad q.num.length ca, .slice bd q.den.length cb] 54)) 54 #[.bool false, .slice none 0 0, .slice none 0 0]); simp only [World.size_alloc] at h; exact h
 have hBW : Below w.heap.size w W := by rw [← hW]; exact (((Below.refl _ _).alloc (by (try simp) <;> omega) _).alloc (by (try simp) <;> omega) _)
 have hsW : w.heap.size + 1 + 1 ≤ W.heap.size := by rw [← hW]; simp
 have G0 := hg.later hBW
 obtain ⟨d0, d1, d2, _, _, _⟩ := G0.three
 have hp := mulQ_any ((HRAW.out.later hBW).arg h1 h2) (hv.later hBW) hn
 have HA := Lib.hid A
 have HV := Lib.hid hv
 clear A D na nb hv
 obtain ⟨c0, c1, c2, _, _, _⟩ := R0.three
 go_enter Tryz.func92, Tryz.ntmps92
 (try rw [hW])
 go_wp2_with (go_at_call 93; refine hp.mono ?_; rintro e w2 ⟨r, rfl, qv, hb2⟩; have Q2 := Lib.hid qv; obtain ⟨m5, f1, l1, j1, f2, l2, j2, rfl⟩ := qv.shape; clear qv; have P2 := R1.later hb2; have s2 := hb2.size; obtain ⟨u0, u1, u2, g0, g1, g2⟩ := P2.three)
 have P3 := P2.set3 (.bool m5) (.slice f1 l1 j1) (.slice f2 l2 j2)
 obtain ⟨z0, z1, z2, _, _, _⟩ := P3.three
 refine bodyPost_ret (v := .agg #[.bool m5, .slice f1 l1 j1, .slice f2 l2 j2]) (by simp [results, Tryz.results92, go_sem, z0, z1, z2]) rfl ⟨_, rfl, ?_, below_set3 (hBW.trans (hb2.mono (by omega))) (by omega) _ _ _⟩
 exact (Q2.out.mono (by omega)).far P2 (by decide) (kept3 _ _ _)
end
section
open Go.RowKit
theorem mulRR_gen {n : Nat} {w : World} {m1 m2 : Bool} {xs ds zs es : List Int} {a1 a2 a3 a4 : Option Addr} {c1 c2 c3 c4 : Nat}
 (A : ArgD w (.slice a1 xs.length c1) xs a1 c1) (B : ArgD w (.slice a2 ds.length c2) ds a2 c2) (C : ArgD w (.slice a3 zs.length c3) zs a3 c3) (D : ArgD w (.slice a4 es.length c4) es a4 c4)
 (hx : xs.length ≤ n) (hd : ds.length ≤ n) (hz : zs.length ≤ n) (he : es.length ≤ n) (hn : n ≤ 1000000000) :
 Calls Tryz.prog 54 #[.agg #[.bool m1, .slice a1 xs.length c1, .slice a2 ds.length c2], .agg #[.bool m2, .slice a3 zs.length c3, .slice a4 es.length c4]] w fun e w' => ∃ r, e = .returned r ∧ ResR w.heap.size w' r (ratOf m1 (valD xs) (valD ds) * ratOf m2 (valD zs) (valD es)) (3 * n + 5) ∧ Below w.heap.size w w' := by
 obtain ⟨X, hX⟩ : ∃ X, ratOf m1 (valD xs) (valD ds) * ratOf m2 (valD zs) (valD es) = X := ⟨_, rfl⟩
 have hfin : ratOf (!(m1 == m2)) (valD xs * valD zs) (valD ds * valD es) = X := by rw [← hX]; exact rat_prod m1 m2 _ _ _ _
 have HF := Lib.hid hfin
 rw [hX]
 clear hfin hX
 obtain ⟨W, hW⟩ : ∃ W, (((w.alloc (.cells #[.bool m1, .slice a1 xs.length c1, .slice a2 ds.length c2] 58)).alloc (.cells #[.bool m2, .slice a3 zs.length c3, .slice a4 es.length c4] 58)).alloc (.cells #[.bool false, .slice none 0 0, .slice none 0 0] 58)) = W := ⟨_, rfl⟩
 have R0 : Row W (w.heap.size) 58 #[.bool m1, .slice a1 xs.length c1, .slice a2 ds.length c2] := by rw [← hW]; exact (((Row.new _ _ _).alloc _).alloc _)
 have R1 : Row W (w.heap.size + 1) 58 #[.bool m2, .slice a3 zs.length c3, .slice a4 es.length c4] := by rw [← hW]; have h := (Row.new (w.alloc (.cells #[.bool m1, .slice a1 xs.length c1, .slice a2 ds.length c2] 58)) 58 #[.bool m2, .slice a3 zs.length c3, .slice a4 es.length c4]); simp only [World.size_alloc] at h; exact (h.alloc _)
 have R2 : Row W (w.heap.size + 1 + 1) 58 #[.bool false, .slice none 0 0, .slice none 0 0] := by rw [← hW]; have h := (Row.new ((w.alloc (.cells #[.bool m1, .slice a1 xs.length c1, .slice a2 ds.length c2] 58)).alloc (.cells #[.bool m2, .slice a3 zs.length c3, .slice a4 es.length c4] 58)) 58 #[.bool false, .slice none 0 0, .slice none 0 0]); simp only [World.size_alloc] at h; exact h
 have hBW : Below w.heap.size w W := by rw [← hW]; exact ((((Below.refl _ _).alloc (by (try simp) <;> omega) _).alloc (by (try simp) <;> omega) _).alloc (by (try simp) <;> omega) _)
 have hsW : w.heap.size + 1 + 1 + 1 ≤ W.heap.size := by rw [← hW]; simp
 have mkS : ∀ X, Kept (w.heap.size + 1 + 1) W X → X.cell? ⟨w.heap.size, 0, none⟩ = some (.bool m1) ∧ X.cell? ⟨w.heap.size, 1, none⟩ = some (.slice a1 xs.length c1) ∧ X.cell? ⟨w.heap.size, 2, none⟩ = some (.slice a2 ds.length c2) ∧ X.cell? ⟨w.heap.size + 1, 0, none⟩ = some (.bool m2) ∧ X.cell? ⟨w.heap.size + 1, 1, none⟩ = some (.slice a3 zs.length c3) ∧ X.cell? ⟨w.heap.size + 1, 2, none⟩ = some (.slice a4 es.length c4) ∧ Kept (w.heap.size + 1 + 1) W X := fun X h => ⟨(R0.kept h (by omega)).cell 0, (R0.kept h (by omega)).cell 1, (R0.kept h (by omega)).cell 2, (R1.kept h (by omega)).cell 0, (R1.kept h (by omega)).cell 1, (R1.kept h (by omega)).cell 2, h⟩
 go_enter Tryz.func54, Tryz.ntmps54
 go_wp2_with fail
 clear hW
 go_region_held3 (fun X => X.cell? ⟨w.heap.size, 0, none⟩ = some (.bool m1) ∧ X.cell? ⟨w.heap.size, 1, none⟩ = some (.slice a1 xs.length c1) ∧ X.cell? ⟨w.heap.size, 2, none⟩ = some (.slice a2 ds.length c2) ∧ X.cell? ⟨w.heap.size + 1, 0, none⟩ = some (.bool m2) ∧ X.cell? ⟨w.heap.size + 1, 1, none⟩ = some (.slice a3 zs.length c3) ∧ X.cell? ⟨w.heap.size + 1, 2, none⟩ = some (.slice a4 es.length c4) ∧ Kept (w.heap.size + 1 + 1) W X)
  (((refine mkS _ ?_; (repeat' (first | exact Kept.refl _ _ | refine Kept.drew ?_ | refine Kept.alloc ?_ _ | refine Kept.set ?_ _ _ | refine Kept.below ?_ (by assumption))))))
  ((first
    | (go_at_call 71; refine (makeRR_any (n := 3 * n + 4) (A3.later hb4) A4 (by omega) (by omega) (by omega)).mono ?_; rintro e w5 ⟨r5, rfl, q5, hb5⟩; rw [HV.out] at q5; obtain ⟨fs, gs, f1, f2, j1, j2, e5, _⟩ := id q5; subst e5; have P5 := R2.kept (show Kept (w.heap.size + 1 + 1 + 1) W w5 by (repeat' (first | exact Kept.refl _ _ | refine Kept.drew ?_ | refine Kept.alloc ?_ _ | refine Kept.set ?_ _ _ | refine Kept.below ?_ (by assumption)))) (by omega); obtain ⟨u0, u1, u2, g0, g1, g2⟩ := P5.three)
    | (go_at_call 77; (with_reducible refine (mulD_any (B.later (Kept.under (show Kept (w.heap.size + 1 + 1) W _ by (repeat' (first | exact Kept.refl _ _ | refine Kept.drew ?_ | refine Kept.alloc ?_ _ | refine Kept.set ?_ _ _ | refine Kept.below ?_ (by assumption)))) hBW (by omega) (by omega))) (D.later (Kept.under (show Kept (w.heap.size + 1 + 1) W _ by (repeat' (first | exact Kept.refl _ _ | refine Kept.drew ?_ | refine Kept.alloc ?_ _ | refine Kept.set ?_ _ _ | refine Kept.below ?_ (by assumption)))) hBW (by omega) (by omega))) (by omega) (by omega)).mono ?_); rintro e w4 ⟨r4, rfl, z4, q4, l4, hb4⟩; obtain ⟨ad4, cp4, rfl, q4, A4⟩ := q4.slice; have HV := Lib.hid ((show ratOf (!(m1 == m2)) (valD z3) (valD z4) = ratOf (!(m1 == m2)) (valD xs * valD zs) (valD ds * valD es) by rw [q3.eq, q4.eq]).trans HF.out))
    | (go_at_call 77; (with_reducible refine (mulD_any (A.later (Kept.under (show Kept (w.heap.size + 1 + 1) W _ by (repeat' (first | exact Kept.refl _ _ | refine Kept.drew ?_ | refine Kept.alloc ?_ _ | refine Kept.set ?_ _ _ | refine Kept.below ?_ (by assumption)))) hBW (by omega) (by omega))) (C.later (Kept.under (show Kept (w.heap.size + 1 + 1) W _ by (repeat' (first | exact Kept.refl _ _ | refine Kept.drew ?_ | refine Kept.alloc ?_ _ | refine Kept.set ?_ _ _ | refine Kept.below ?_ (by assumption)))) hBW (by omega) (by omega))) (by omega) (by omega)).mono ?_); rintro e w3 ⟨r3, rfl, z3, q3, l3, hb3⟩; obtain ⟨ad3, cp3, rfl, q3, A3⟩ := q3.slice)))
 have hs5 := hb5.size
 have hk5 := (show Kept (w.heap.size + 1 + 1 + 1) W w5 by (repeat' (first | exact Kept.refl _ _ | refine Kept.drew ?_ | refine Kept.alloc ?_ _ | refine Kept.set ?_ _ _ | refine Kept.below ?_ (by assumption)))).size
 have hk4 := (show Kept (w.heap.size + 1 + 1 + 1) W w4 by (repeat' (first | exact Kept.refl _ _ | refine Kept.drew ?_ | refine Kept.alloc ?_ _ | refine Kept.set ?_ _ _ | refine Kept.below ?_ (by assumption)))).size
 have hK5 := (Kept.under (show Kept (w.heap.size + 1 + 1 + 1) W w5 by (repeat' (first | exact Kept.refl _ _ | refine Kept.drew ?_ | refine Kept.alloc ?_ _ | refine Kept.set ?_ _ _ | refine Kept.below ?_ (by assumption)))) hBW (by omega) (by omega))
 go_wp2_with fail
 refine bodyPost_ret (v := .agg #[.bool (decide (X.num < 0)), .slice f1 fs.length j1, .slice f2 gs.length j2]) (by simp [results, Tryz.results54, go_sem, u0, u1, u2]) rfl ⟨_, rfl, ?_, below_set3 hK5 (by omega) _ _ _⟩
 exact (q5.far P5 (by decide) (kept3 _ _ _)).mono (by omega)
theorem mulRR_any {n : Nat} {w : World} {u v : Value} {X Y : Rat} (hu : ArgR w u X n) (hv : ArgR w v Y n) (hn : n ≤ 1000000000) :
 Calls Tryz.prog 54 #[u, v] w fun e w' => ∃ r, e = .returned r ∧ ResR w.heap.size w' r (X * Y) (3 * n + 5) ∧ Below w.heap.size w w' := by
 obtain ⟨m1, xs, ds, a1, a2, c1, c2, rfl, A, B, hX, hx, hd⟩ := hu.parts
 obtain ⟨m2, zs, es, a3, a4, c3, c4, rfl, C, D, hY, hz, he⟩ := hv.parts
 rw [← hX, ← hY]
 exact mulRR_gen A B C D hx hd hz he hn
theorem addRR_any {n : Nat} {w : World} {u v : Value} {X Y : Rat} (hu : ArgR w u X n) (hv : ArgR w v Y n) (hn : n ≤ 1000000000) :
 Calls Tryz.prog 32 #[u, v] w fun e w' => ∃ r, e = .returned r ∧ ResR w.heap.size w' r (X + Y) (3 * n + 6) ∧ Below w.heap.size w w' := by
 obtain ⟨xs, ds, a1, a2, c1, c2, rfl, A, B, hX1, hX2, hx, hd⟩ := hu
 obtain ⟨zs, es, a3, a4, c3, c4, rfl, C, D, hY1, hY2, hz, he⟩ := hv
 obtain ⟨m1, hm1⟩ : ∃ m, decide (X.num < 0) = m := ⟨_, rfl⟩
 obtain ⟨m2, hm2⟩ : ∃ m, decide (Y.num < 0) = m := ⟨_, rfl⟩
 have hsame : m1 = m2 → ratOf m1 (valD xs * valD es + valD zs * valD ds) (valD ds * valD es) = X + Y := by
  intro h; rw [hX1, hX2, hY1, hY2, ← hm1]; exact rat_add_same X Y (by rw [hm1, hm2, h])
 have hleft : m1 ≠ m2 → ratOf m1 (valD xs * valD es - valD zs * valD ds) (valD ds * valD es) = X + Y := by
  intro h; rw [hX1, hX2, hY1, hY2, ← hm1]; exact rat_add_left X Y (by rw [hm1, hm2]; exact h)
 have hright : m1 ≠ m2 → ratOf m2 (valD zs * valD ds - valD xs * valD es) (valD ds * valD es) = X + Y := by
  intro h; rw [hX1, hX2, hY1, hY2, ← hm2]; exact rat_add_right X Y (by rw [hm1, hm2]; exact h)
 rw [hm1, hm2]
 have HS := Lib.hid hsame
 have HL := Lib.hid hleft
 have HR := Lib.hid hright
 clear hsame hleft hright hX1 hX2 hY1 hY2 hm1 hm2
 obtain ⟨W, hW⟩ : ∃ W, (((w.alloc (.cells #[.bool m1, .slice a1 xs.length c1, .slice a2 ds.length c2] 58)).alloc (.cells #[.bool m2, .slice a3 zs.length c3, .slice a4 es.length c4] 58)).alloc (.cells #[.bool false, .slice none 0 0, .slice none 0 0] 58)) = W := ⟨_, rfl⟩
 have R0 : Row W (w.heap.size) 58 #[.bool m1, .slice a1 xs.length c1, .slice a2 ds.length c2] := by rw [← hW]; exact (((Row.new _ _ _).alloc _).alloc _)
 have R1 : Row W (w.heap.size + 1) 58 #[.bool m2, .slice a3 zs.length c3, .slice a4 es.length c4] := by rw [← hW]; have h := (Row.new (w.alloc (.cells #[.bool m1, .slice a1 xs.length c1, .slice a2 ds.length c2] 58)) 58 #[.bool m2, .slice a3 zs.length c3, .slice a4 es.length c4]); simp only [World.size_alloc] at h; exact (h.alloc _)
 have R2 : Row W (w.heap.size + 1 + 1) 58 #[.bool false, .slice none 0 0, .slice none 0 0] := by rw [← hW]; have h := (Row.new ((w.alloc (.cells #[.bool m1, .slice a1 xs.length c1, .slice a2 ds.length c2] 58)).alloc (.cells #[.bool m2, .slice a3 zs.length c3, .slice a4 es.length c4] 58)) 58 #[.bool false, .slice none 0 0, .slice none 0 0]); simp only [World.size_alloc] at h; exact h
 have hBW : Below w.heap.size w W := by rw [← hW]; exact ((((Below.refl _ _).alloc (by (try simp) <;> omega) _).alloc (by (try simp) <;> omega) _).alloc (by (try simp) <;> omega) _)
 have hsW : w.heap.size + 1 + 1 + 1 ≤ W.heap.size := by rw [← hW]; simp
 have mkS : ∀ X, Kept (w.heap.size + 1 + 1 + 1) W X → X.cell? ⟨w.heap.size, 0, none⟩ = some (.bool m1) ∧ X.cell? ⟨w.heap.size, 1, none⟩ = some (.slice a1 xs.length c1) ∧ X.cell? ⟨w.heap.size, 2, none⟩ = some (.slice a2 ds.length c2) ∧ X.cell? ⟨w.heap.size + 1, 0, none⟩ = some (.bool m2) ∧ X.cell? ⟨w.heap.size + 1, 1, none⟩ = some (.slice a3 zs.length c3) ∧ X.cell? ⟨w.heap.size + 1, 2, none⟩ = some (.slice a4 es.length c4) ∧ Kept (w.heap.size + 1 + 1 + 1) W X := fun X h => ⟨(R0.kept h (by omega)).cell 0, (R0.kept h (by omega)).cell 1, (R0.kept h (by omega)).cell 2, (R1.kept h (by omega)).cell 0, (R1.kept h (by omega)).cell 1, (R1.kept h (by omega)).cell 2, h⟩
 go_enter Tryz.func32, Tryz.ntmps32
 go_wp2_with fail
 clear hW
 go_region_held3 (fun X => X.cell? ⟨w.heap.size, 0, none⟩ = some (.bool m1) ∧ X.cell? ⟨w.heap.size, 1, none⟩ = some (.slice a1 xs.length c1) ∧ X.cell? ⟨w.heap.size, 2, none⟩ = some (.slice a2 ds.length c2) ∧ X.cell? ⟨w.heap.size + 1, 0, none⟩ = some (.bool m2) ∧ X.cell? ⟨w.heap.size + 1, 1, none⟩ = some (.slice a3 zs.length c3) ∧ X.cell? ⟨w.heap.size + 1, 2, none⟩ = some (.slice a4 es.length c4) ∧ Kept (w.heap.size + 1 + 1 + 1) W X)
  (((refine mkS _ ?_; (repeat' (first | exact Kept.refl _ _ | refine Kept.drew ?_ | refine Kept.alloc ?_ _ | refine Kept.set ?_ _ _ | refine Kept.below ?_ (by assumption))))))
  ((first
    | (go_at_call 77; (with_reducible refine (mulD_any (C.later (Kept.under (show Kept (w.heap.size + 1 + 1 + 1) W _ by (repeat' (first | exact Kept.refl _ _ | refine Kept.drew ?_ | refine Kept.alloc ?_ _ | refine Kept.set ?_ _ _ | refine Kept.below ?_ (by assumption)))) hBW (by omega) (by omega))) (B.later (Kept.under (show Kept (w.heap.size + 1 + 1 + 1) W _ by (repeat' (first | exact Kept.refl _ _ | refine Kept.drew ?_ | refine Kept.alloc ?_ _ | refine Kept.set ?_ _ _ | refine Kept.below ?_ (by assumption)))) hBW (by omega) (by omega))) (by omega) (by omega)).mono ?_); rintro e w2 ⟨r2, rfl, z2, q2, l2, hb2⟩; obtain ⟨ad2, cp2, rfl, q2, A2⟩ := q2.slice)
    | (go_at_call 77; (with_reducible refine (mulD_any (A.later (Kept.under (show Kept (w.heap.size + 1 + 1 + 1) W _ by (repeat' (first | exact Kept.refl _ _ | refine Kept.drew ?_ | refine Kept.alloc ?_ _ | refine Kept.set ?_ _ _ | refine Kept.below ?_ (by assumption)))) hBW (by omega) (by omega))) (D.later (Kept.under (show Kept (w.heap.size + 1 + 1 + 1) W _ by (repeat' (first | exact Kept.refl _ _ | refine Kept.drew ?_ | refine Kept.alloc ?_ _ | refine Kept.set ?_ _ _ | refine Kept.below ?_ (by assumption)))) hBW (by omega) (by omega))) (by omega) (by omega)).mono ?_); rintro e w1 ⟨r1, rfl, z1, q1, l1, hb1⟩; obtain ⟨ad1, cp1, rfl, q1, A1⟩ := q1.slice)))
 have hK2 : Below W.heap.size W w2 := Kept.under (g := W.heap.size) (show Kept (W.heap.size) W w2 by (repeat' (first | exact Kept.refl _ _ | refine Kept.drew ?_ | refine Kept.alloc ?_ _ | refine Kept.set ?_ _ _ | refine Kept.below ?_ (by assumption)))) (Below.refl _ _) (by omega) (by omega)
 have hB2 : Below w.heap.size w w2 := hBW.trans (hK2.mono (by omega))
 have hs2 := hK2.size
 have A1' := A1.later hb2
 have e1 := q1.eq
 have e2 := q2.eq
 have E1 := Lib.hid e1
 have E2 := Lib.hid e2
 have B2 := B.later hB2
 have D2 := D.later hB2
 replace R0 := R0.later hK2
 replace R1 := R1.later hK2
 replace R2 := R2.later hK2
 obtain ⟨p0, p1, p2, _, _, _⟩ := R0.three
 obtain ⟨o0, o1, o2, _, _, _⟩ := R1.three
 clear mkS e1 e2 q1 q2 hb1 hK2 A B C D A1
 go_wp2_with fail
 refine (mulD_any B2 D2 (by omega) (by omega)).mono ?_
 rintro e w3 ⟨r3, rfl, z3, q3, l3, hb3⟩
 obtain ⟨ad3, cp3, rfl, q3, A3⟩ := q3.slice
 have hs3 := hb3.size
 have e3 := q3.eq
 have E3 := Lib.hid e3
 have Q0 := R0.later hb3
 have Q1 := R1.later hb3
 have Q2 := R2.later hb3
 have A1' := A1'.later hb3
 have A2' := A2.later hb3
 have hB3 : Below w.heap.size w w3 := hB2.trans (hb3.mono (by omega))
 clear p0 p1 p2 o0 o1 o2 e3 q3
 obtain ⟨p0, p1, p2, _, _, _⟩ := Q0.three
 obtain ⟨o0, o1, o2, _, _, _⟩ := Q1.three
 by_cases hm : m1 = m2
 · subst hm
   have HS2 := Lib.hid (HS.out rfl)
   clear HS HL HR
   have hbb : (m1 == m1) = true := by simp
   have mkS : ∀ X, Kept (w.heap.size + 1 + 1) w3 X → X.cell? ⟨w.heap.size, 0, none⟩ = some (.bool m1) ∧ X.cell? ⟨w.heap.size, 1, none⟩ = some (.slice a1 xs.length c1) ∧ X.cell? ⟨w.heap.size, 2, none⟩ = some (.slice a2 ds.length c2) ∧ X.cell? ⟨w.heap.size + 1, 0, none⟩ = some (.bool m1) ∧ X.cell? ⟨w.heap.size + 1, 1, none⟩ = some (.slice a3 zs.length c3) ∧ X.cell? ⟨w.heap.size + 1, 2, none⟩ = some (.slice a4 es.length c4) ∧ Kept (w.heap.size + 1 + 1) w3 X := fun X h => ⟨(Q0.kept h (by omega)).cell 0, (Q0.kept h (by omega)).cell 1, (Q0.kept h (by omega)).cell 2, (Q1.kept h (by omega)).cell 0, (Q1.kept h (by omega)).cell 1, (Q1.kept h (by omega)).cell 2, h⟩
   go_wp2_with fail
   clear p0 p1 p2 o0 o1 o2
   go_region_held3 (fun X => X.cell? ⟨w.heap.size, 0, none⟩ = some (.bool m1) ∧ X.cell? ⟨w.heap.size, 1, none⟩ = some (.slice a1 xs.length c1) ∧ X.cell? ⟨w.heap.size, 2, none⟩ = some (.slice a2 ds.length c2) ∧ X.cell? ⟨w.heap.size + 1, 0, none⟩ = some (.bool m1) ∧ X.cell? ⟨w.heap.size + 1, 1, none⟩ = some (.slice a3 zs.length c3) ∧ X.cell? ⟨w.heap.size + 1, 2, none⟩ = some (.slice a4 es.length c4) ∧ Kept (w.heap.size + 1 + 1) w3 X)
    (((refine mkS _ ?_; (repeat' (first | exact Kept.refl _ _ | refine Kept.drew ?_ | refine Kept.alloc ?_ _ | refine Kept.set ?_ _ _ | refine Kept.below ?_ (by assumption))))))
    ((first
      | (go_at_call 71; refine (makeRR_any (n := 3 * n + 4) A4 (A3.later hb4d) (by omega) (by omega) (by omega)).mono ?_; rintro e w5 ⟨r5, rfl, q5, hb5⟩; rw [HV.out] at q5; obtain ⟨fs, gs, f1, f2, j1, j2, e5, _⟩ := id q5; subst e5; have P5 := (Q2.later hb4d).later hb5; obtain ⟨u0, u1, u2, g0, g1, g2⟩ := P5.three)
      | (go_at_call 78; refine (addD_any (A1'.later (Below.refl _ w3).drew) (A2'.later (Below.refl _ w3).drew) (by omega) (by omega)).mono ?_; rintro e w4 ⟨r4, rfl, z4, q4, l4, hb4⟩; have hb4d : Below w3.heap.size w3 w4 := ⟨hb4.os, hb4.tape, hb4.output, hb4.size, hb4.block⟩; obtain ⟨ad4, cp4, rfl, q4, A4⟩ := q4.slice; have HV := Lib.hid ((show ratOf m1 (valD z4) (valD z3) = ratOf m1 (valD xs * valD es + valD zs * valD ds) (valD ds * valD es) by rw [q4.eq, E1.out, E2.out, E3.out]).trans HS2.out))))
   have hs4 := hb4d.size
   go_wp2_with fail
   refine bodyPost_ret (v := .agg #[.bool (decide ((X + Y).num < 0)), .slice f1 fs.length j1, .slice f2 gs.length j2]) (by simp [results, Tryz.results32, go_sem, u0, u1, u2]) rfl ⟨_, rfl, ((q5.far P5 (by decide) (kept3 _ _ _)).mono (by omega)).more (by omega), below_set3 ((hB3.trans (hb4d.mono (by omega))).trans (hb5.mono (by omega))) (by omega) _ _ _⟩
 · have hbb : (m1 == m2) = false := by simpa using hm
   by_cases hlt : valD z1 < valD z2
   · have hcmp := cmpD_any A1' A2' (by omega) (by omega)
     rw [sign_lt hlt] at hcmp
     go_wp2_with fail
     refine hcmp.mono ?_
     rintro e w4 ⟨rfl, hb4⟩
     have hs4 := hb4.size
     have A1b := A1'.later hb4
     have A2b := A2'.later hb4
     have A3b := A3.later hb4
     have Q1b := Q1.later hb4
     have Q2b := Q2.later hb4
     clear hcmp p0 p1 p2 o0 o1 o2
     go_wp2_with fail
     refine (subD_any A2b A1b (by omega) (by omega)).mono ?_
     rintro e w5 ⟨r5, f5, rfl, hb5, _, h5⟩
     obtain ⟨rfl, z5, q5, l5⟩ := h5 (by omega)
     have hs5 := hb5.size
     obtain ⟨ad5, cp5, rfl, q5, A5⟩ := q5.slice
     have A3c := A3b.later hb5
     have Q1c := Q1b.later hb5
     have Q2c := Q2b.later hb5
     obtain ⟨o0, o1, o2, _, _, _⟩ := Q1c.three
     have HV := Lib.hid ((show ratOf m2 (valD z5) (valD z3) = ratOf m2 (valD zs * valD ds - valD xs * valD es) (valD ds * valD es) by rw [q5.eq, E1.out, E2.out, E3.out]).trans (HR.out hm))
     clear h5
     go_wp2_with fail
     refine (makeRR_any (n := 3 * n + 4) A5 A3c (by omega) (by omega) (by omega)).mono ?_
     rintro e w6 ⟨r6, rfl, q6, hb6⟩
     rw [HV.out] at q6
     obtain ⟨fs, gs, f1, f2, j1, j2, e6, _⟩ := id q6
     subst e6
     have P6 := Q2c.later hb6
     clear o0 o1 o2
     obtain ⟨u0, u1, u2, g0, g1, g2⟩ := P6.three
     go_wp2_with fail
     refine bodyPost_ret (v := .agg #[.bool (decide ((X + Y).num < 0)), .slice f1 fs.length j1, .slice f2 gs.length j2]) (by simp [results, Tryz.results32, go_sem, u0, u1, u2]) rfl ⟨_, rfl, ((q6.far P6 (by decide) (kept3 _ _ _)).mono (by omega)).more (by omega), below_set3 (((hB3.trans (hb4.mono (by omega))).trans (hb5.mono (by omega))).trans (hb6.mono (by omega))) (by omega) _ _ _⟩
   · have hge : decide ((0 : Int) ≤ sign (valD z1) (valD z2)) = true := decide_eq_true (by unfold sign; rw [if_neg hlt]; split <;> omega)
     have hcmp := cmpD_any A1' A2' (by omega) (by omega)
     obtain ⟨sg, hsg⟩ : ∃ s, sign (valD z1) (valD z2) = s := ⟨_, rfl⟩
     rw [hsg] at hge hcmp
     clear hsg
     go_wp2_with fail
     refine hcmp.mono ?_
     rintro e w4 ⟨rfl, hb4⟩
     have hs4 := hb4.size
     have A1b := A1'.later hb4
     have A2b := A2'.later hb4
     have A3b := A3.later hb4
     have Q0b := Q0.later hb4
     have Q2b := Q2.later hb4
     clear hcmp p0 p1 p2 o0 o1 o2
     go_wp2_with fail
     refine (subD_any A1b A2b (by omega) (by omega)).mono ?_
     rintro e w5 ⟨r5, f5, rfl, hb5, _, h5⟩
     obtain ⟨rfl, z5, q5, l5⟩ := h5 (by omega)
     have hs5 := hb5.size
     obtain ⟨ad5, cp5, rfl, q5, A5⟩ := q5.slice
     have A3c := A3b.later hb5
     have Q0c := Q0b.later hb5
     have Q2c := Q2b.later hb5
     obtain ⟨o0, o1, o2, _, _, _⟩ := Q0c.three
     have HV := Lib.hid ((show ratOf m1 (valD z5) (valD z3) = ratOf m1 (valD xs * valD es - valD zs * valD ds) (valD ds * valD es) by rw [q5.eq, E1.out, E2.out, E3.out]).trans (HL.out hm))
     clear h5
     go_wp2_with fail
     refine (makeRR_any (n := 3 * n + 4) A5 A3c (by omega) (by omega) (by omega)).mono ?_
     rintro e w6 ⟨r6, rfl, q6, hb6⟩
     rw [HV.out] at q6
     obtain ⟨fs, gs, f1, f2, j1, j2, e6, _⟩ := id q6
     subst e6
     have P6 := Q2c.later hb6
     clear o0 o1 o2
     obtain ⟨u0, u1, u2, g0, g1, g2⟩ := P6.three
     go_wp2_with fail
     refine bodyPost_ret (v := .agg #[.bool (decide ((X + Y).num < 0)), .slice f1 fs.length j1, .slice f2 gs.length j2]) (by simp [results, Tryz.results32, go_sem, u0, u1, u2]) rfl ⟨_, rfl, ((q6.far P6 (by decide) (kept3 _ _ _)).mono (by omega)).more (by omega), below_set3 (((hB3.trans (hb4.mono (by omega))).trans (hb5.mono (by omega))).trans (hb6.mono (by omega))) (by omega) _ _ _⟩
end
section
open Go.RowKit
def TenR (w : World) (v : Value) (s : List Int) (L : List Rat) (n : Nat) : Prop := ∃ a ca b cb, TensR w v s L n a ca b cb
theorem TenR.later {w w' : World} {v : Value} {s : List Int} {L : List Rat} {n : Nat} (h : TenR w v s L n) (hb : Below w.heap.size w w') : TenR w' v s L n := by
 obtain ⟨a, ca, b, cb, h⟩ := h
 exact ⟨a, ca, b, cb, h.later hb⟩
end
section
open Go.RowKit
theorem noIntsT (a b : Option Addr) (n m ca cb : Nat) : NoInts #[.slice a n ca, .slice b m cb] := by
 intro i k x
 match i with
 | 0 => simp
 | 1 => simp
 | _ + 2 => simp
theorem TensR.far {w w' : World} {v : Value} {s : List Int} {L : List Rat} {n g : Nat} {t : TypeId} {a b p1 p2 : Option Addr} {ca cb l1 l2 k1 k2 : Nat} (h : TensR w v s L n a ca b cb) (R : Row w g t #[.slice p1 l1 k1, .slice p2 l2 k2]) (hk : ∀ k, k ≠ g → w'.heap[k]? = w.heap[k]?) : TensR w' v s L n a ca b cb := by
 have hcell : ∀ (p : Addr) (u : Value), p.block ≠ g → w.cell? p = some u → w'.cell? p = some u := fun p u hp hu => (World.cell?_of_block (hk p.block hp)).trans hu
 have hno : ∀ (o : Nat) (x : Value), w.cell? ⟨g, o, none⟩ = some x → ∃ q l k, x = .slice q l k := fun o x hx => by
  rw [R.cell] at hx
  match o, hx with
  | 0, hx => simp at hx; exact ⟨_, _, _, hx.symm⟩
  | 1, hx => simp at hx; exact ⟨_, _, _, hx.symm⟩
  | o + 2, hx => simp at hx
 refine ⟨h.is, ⟨h.sh.is, ?_, h.sh.le, h.sh.wf⟩, h.nila, ⟨h.el.is, h.el.le, ?_⟩, h.nilb⟩
 · rcases h.sh.lim with e | ⟨bb, off, e, hc⟩
   · exact .inl e
   · refine .inr ⟨bb, off, e, fun i hi => hcell _ _ (fun e2 => ?_) (hc i hi)⟩
     have e3 : bb = g := e2
     subst e3
     obtain ⟨q, l, k, e4⟩ := hno _ _ (hc i hi)
     cases e4
 · rcases h.el.els with e | ⟨bb, o, es, e, hc, hall⟩
   · exact .inl e
   · refine .inr ⟨bb, o, es, e, fun i d hd => ?_, hall.imp fun u x _ h => h.far R (noIntsT _ _ _ _ _ _) hk⟩
     obtain ⟨c0, c1, c2⟩ := hc i d hd
     have hi : i < es.length := by
      rcases Nat.lt_or_ge i es.length with g1 | g1
      · exact g1
      · rw [List.getElem?_eq_none g1] at hd; cases hd
     have hi2 : i < L.length := by rw [← hall.1]; exact hi
     have hx := hall.2 i d _ hd (List.getElem?_eq_getElem hi2)
     have hb : bb ≠ g := fun e2 => by
      subst e2
      obtain ⟨q, l, k, e4⟩ := hno _ _ c0
      obtain ⟨_, _, _, _, _, _, e5, _⟩ := hx
      unfold E3.agg at e5
      rw [e4] at e5
      simp at e5
     exact ⟨hcell _ _ hb c0, hcell _ _ hb c1, hcell _ _ hb c2⟩
end
section
open Go.RowKit
theorem ResS.keepC {base : Nat} {w w' : World} {v : Value} {xs : List Int} (h : ResS base w v xs) (k : KeepC w w') : ResS base w' v xs := by
 obtain ⟨⟨h1, h2⟩, hw⟩ := h
 refine ⟨⟨h1, ?_⟩, hw⟩
 rcases h2 with h2 | ⟨g, cap, cur, hv, hb, hg, hr⟩
 · exact .inl h2
 · exact .inr ⟨g, cap, cur, hv, hb, (k _ _ _ _ hg).trans hg, hr⟩
theorem ResS.arg2 {B : Nat} {w : World} {u : Value} {xs : List Int} (h : ResS B w u xs) : ∃ ad cap, ArgS w u xs ad cap ∧ (ad = none → cap = 0) := by
 obtain ⟨ad, cap, rfl, _, A, hn⟩ := h.slice
 exact ⟨ad, cap, A, hn⟩
end
section
open Go.RowKit Go.Shelf
attribute [local go_sem] Oper.semAt_some
structure KpR (g1 g2 : Nat) (A B : World) : Prop where
 b1 : B.heap[g1]? = A.heap[g1]?
 b2 : B.heap[g2]? = A.heap[g2]?
theorem KpR.refl (g1 g2 : Nat) (A : World) : KpR g1 g2 A A := ⟨rfl, rfl⟩
theorem KpR.trans {g1 g2 : Nat} {A B C : World} (h : KpR g1 g2 A B) (k : KpR g1 g2 B C) : KpR g1 g2 A C := ⟨k.b1.trans h.b1, k.b2.trans h.b2⟩
theorem KpR.b {g1 g2 : Nat} {w : World} (h1 : g1 < w.heap.size) (h2 : g2 < w.heap.size) (W : World) (l : Nat) (o o' : Obj) (hl : w.heap.size ≤ l) (h : W.heap[l]? = some o) (_ : o.isCells = false) (_ : o.isWalk = false) : KpR g1 g2 W (W.putObj l o') :=
 ⟨World.putObj_heap_other (by omega), World.putObj_heap_other (by omega)⟩
def rowAt (b o cap wd : Nat) {n : Nat} (x : Fin n) : Array Value := #[.slice (some ⟨b, o + x.val * wd * 3, none⟩) wd (cap - x.val * wd)]
theorem rows1_in (n l g1 g2 : Nat) (b o cap R wd : Nat) (hwd : 1 ≤ wd) (hm : R * wd ≤ 1000000) (hcap : R * wd ≤ cap) (J Jx : List (Fin R) → World → Prop)
 (hY : ∀ pre x W, J pre W → pre.length < R → YieldAt Fence.wide (n - 1) Tryz.prog l (rowAt b o cap wd x) W fun e W' =>
   (e = .returned (.bool true) ∧ J (pre ++ [x]) W' ∧ KpR g1 g2 W W') ∨ (e = .returned (.bool false) ∧ Jx (pre ++ [x]) W'))
 (W : World) (h1 : W.cell? ⟨g1, 1, none⟩ = some (.slice (some ⟨b, o, none⟩) (R * wd) cap)) (h2 : W.cell? ⟨g2, 0, none⟩ = some (.int .i64 (wd : Int))) (h0 : J [] W) :
 CallsIn Fence.wide n Tryz.prog 141 #[.func (.yield l) #[] #[], .pointer (some ⟨g1, 0, none⟩), .pointer (some ⟨g2, 0, none⟩)] W fun e W' => (∃ v, e = .returned v) ∧
  ((∃ ys, Upto ys R ∧ J ys W') ∨ (∃ pre, (∃ k, k ≤ R ∧ Upto pre k) ∧ Jx pre W')) := by
 obtain ⟨M, hM⟩ : ∃ M, R * wd = M := ⟨_, rfl⟩
 rw [hM] at hm hcap h1
 have HM := Lib.hid hM
 clear hM
 refine callsIn_of_wp Tryz.func141 rfl trivial ?_ rfl
 simp only [Tryz.ntmps141, List.size_toArray, List.length_cons, List.length_nil, Nat.reduceAdd, Nat.reduceSub, Array.replicate_succ, Array.replicate_zero, List.push_toArray, List.append_toArray, List.nil_append, List.cons_append]
 gi_wp2_with fail
 gi_loopw [4] (fun i wr => ∃ (k f : Nat) (pre : List (Fin R)), k ≤ R ∧ i = .int .i64 (f : Int) ∧ Hid (f = k * wd) ∧ Upto pre k ∧ J pre wr ∧ KpR g1 g2 W wr)
  (fun i _ => M - (intOf i).toNat)
 case atStart => exact ⟨0, 0, [], Nat.zero_le _, rfl, Lib.hid (by omega), rfl, h0, KpR.refl _ _ _⟩
 case round =>
  obtain ⟨k, f, pre, hk, rfl, hf, hup, hJs, hnx⟩ := hrel
  have c1 := (World.cell?_of_block (a := ⟨g1, 1, none⟩) hnx.b1).trans h1
  have c2 := (World.cell?_of_block (a := ⟨g2, 0, none⟩) hnx.b2).trans h2
  have hfM : (k < R → f + wd ≤ M) ∧ (k = R → f = M) := by
   have e1 := hf.out
   have e2 := HM.out
   refine ⟨fun h => ?_, fun h => by rw [e1, h, e2]⟩
   have := Nat.mul_le_mul_right wd (show k + 1 ≤ R by omega)
   rw [Nat.succ_mul] at this
   omega
  by_cases hlt : k < R
  · have hfl := hfM.1 hlt
    have hltI : (f : Int) < (M : Int) := by omega
    obtain ⟨fn, tmps, assign, body, hy, hR⟩ := hY pre ⟨k, hlt⟩ wr hJs (by rw [hup.length]; exact hlt)
    simp only [rowAt] at hy
    rw [← hf.out] at hy
    have hHY := Lib.hid hY
    have e3 : wrap64 ((f : Int) + (wd : Int)) = ((f + wd : Nat) : Int) := by unfold wrap64; omega
    have b0 : (0 : Int) ≤ (f : Int) := by clear e3; omega
    have b1 : (f : Int) ≤ ((f + wd : Nat) : Int) := by clear e3; omega
    have b2 : ((f + wd : Nat) : Int) ≤ (cap : Int) := by clear e3; omega
    have b3 : ¬ cap = f := by clear e3; omega
    have b4 : f + wd - f = wd := by clear e3; omega
    clear hY hfM
    gi_wp2_with fail
    refine ⟨(fun h => by cases h), hR.mono ?_⟩
    rintro e W3 (⟨rfl, hJ3, hk3⟩ | ⟨rfl, hJx3⟩)
    · have c3 := (World.cell?_of_block (a := ⟨g2, 0, none⟩) (hnx.trans hk3).b2).trans h2
      gi_wp2
      go_roundw
      case rel => exact ⟨k + 1, f + wd, _, by omega, by go_num, Lib.hid (by rw [hf.out, Nat.succ_mul]), hup.snoc hlt, hJ3, hnx.trans hk3⟩
      case measure => simp [intOf]; omega
    · gi_wp2
      refine bodyPost_ret (results_none rfl _ _ _) rfl ?_
      exact ⟨⟨_, rfl⟩, .inr ⟨_, ⟨k + 1, by omega, hup.snoc hlt⟩, hJx3⟩⟩
  · obtain rfl : k = R := by omega
    obtain rfl := hfM.2 rfl
    have hltI : ¬ (f : Int) < (f : Int) := by omega
    gi_wp2
    go_end0
    exact ⟨⟨_, rfl⟩, .inl ⟨_, hup, hJs⟩⟩
theorem rows1_stops (n g1 g2 : Nat) (b o cap R wd : Nat) (hwd : 1 ≤ wd) (hm : R * wd ≤ 1000000) (hcap : R * wd ≤ cap) (w : World) (hg1 : g1 < w.heap.size) (hg2 : g2 < w.heap.size)
 (h1 : w.cell? ⟨g1, 1, none⟩ = some (.slice (some ⟨b, o, none⟩) (R * wd) cap)) (h2 : w.cell? ⟨g2, 0, none⟩ = some (.int .i64 (wd : Int))) :
 SeqStopsK Fence.wide n Tryz.prog 141 #[.pointer (some ⟨g1, 0, none⟩), .pointer (some ⟨g2, 0, none⟩)] (rowAt b o cap wd (n := R)) (KpR g1 g2) (fun ys => Upto ys R) (fun pre => ∃ k, k ≤ R ∧ Upto pre k) R w := fun l J Jx W hW hJ _ hY h0 =>
 rows1_in n l g1 g2 b o cap R wd hwd hm hcap J Jx hY W ((hW.cell (p := ⟨g1, 1, none⟩) hg1).trans h1) ((hW.cell (p := ⟨g2, 0, none⟩) hg2).trans h2) h0
theorem rows_any {w : World} {s : List Int} {a b : Option Addr} {ca m cb : Nat} (A : ArgS w (.slice a s.length ca) s a ca) (h2 : 2 ≤ s.length) :
 Calls Tryz.prog 97 #[.agg #[.slice a s.length ca, .slice b m cb]] w fun e w' => e = .returned (.func (.func 141) #[] #[.pointer (some ⟨w.heap.size, 0, none⟩), .pointer (some ⟨w.heap.size + 1, 0, none⟩)]) ∧
  Row w' w.heap.size 26 #[.slice a s.length ca, .slice b m cb] ∧ Row w' (w.heap.size + 1) 3 #[.int .i64 (s.getD 1 0)] ∧ Below w.heap.size w w' ∧ w'.heap.size = w.heap.size + 1 + 1 := by
 have hmf : ∀ (fn : Fn) (first cap : Array Value) (w : World), (Instr.makeFunc fn first cap).run Tryz.prog w = .ok (.func fn first cap) w := fun _ _ _ _ => rfl
 obtain ⟨b1, o1, rfl, c1⟩ := A.at (i := 1) (by omega)
 obtain ⟨x, hx⟩ : ∃ x, s.getD 1 0 = x := ⟨_, rfl⟩
 obtain ⟨sl, hsl⟩ : ∃ n, s.length = n := ⟨_, rfl⟩
 rw [hx] at c1
 rw [hsl] at h2
 rw [hx, hsl]
 have j1 : 1 < sl := by omega
 obtain ⟨W, hW⟩ : ∃ W, w.alloc (.cells #[.slice (some ⟨b1, o1, none⟩) sl ca, .slice b m cb] 26) = W := ⟨_, rfl⟩
 have R0 : Row W w.heap.size 26 #[.slice (some ⟨b1, o1, none⟩) sl ca, .slice b m cb] := by rw [← hW]; exact Row.new _ _ _
 have bW : Below w.heap.size w W := by rw [← hW]; exact (Below.refl _ _).alloc (Nat.le_refl _) _
 have sW : W.heap.size = w.heap.size + 1 := by rw [← hW]; simp
 have c1' := (bW.cell (World.block_lt_of_cell? _ _ c1)).trans c1
 obtain ⟨p0, p1, _, _⟩ := R0.two
 have HSW := Lib.hid sW
 clear A hx hsl c1 sW
 go_enter Tryz.func97, Tryz.ntmps97
 (try rw [hW])
 go_wp2_with fail
 (try rw [hW])
 go_ret
 refine ⟨by rw [← HSW.out]; rfl, R0.alloc _, by rw [← HSW.out]; exact Row.new _ _ _, bW.alloc bW.size _, by rw [World.size_alloc, HSW.out]⟩
end
end Go.Proofs.YtengpgodmbfmkaaGreat
