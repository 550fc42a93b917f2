/-
  Layer 8's laws: opening tensors under the form's reach.
-/
import Derived.Test.YtengpgodmbfmkaaGreatD17
import Derived.Test.YtengpgodmbfmkaaGreatD19
namespace Go.Proofs.YtengpgodmbfmkaaGreat
set_option linter.unusedVariables false
set_option linter.unusedSimpArgs false
set_option maxRecDepth 100000
set_option maxHeartbeats 40000000
section
open Go.RowKit
theorem backT_any {n : Nat} {w : World} {v : Value} {s : List Int} {qs : List Rat} {a b : Option Addr} {ca cb : Nat} (T : TensR w v s qs n a ca b cb) (hs : s.length ≤ 17592186044416) (hq : qs.length ≤ 1000000000) (hn : n ≤ 1000000000) :
 Calls Tryz.prog 38 #[v] w fun e w' => ∃ (a' b' : Option Addr) (ca' cb' : Nat), e = .returned (.agg #[.slice a' s.length ca', .slice b' qs.length cb']) ∧ ResS w.heap.size w' (.slice a' s.length ca') s ∧
  RowO w.heap.size 54 (fun W v x => ResQ w.heap.size W v x n) w' (.slice b' qs.length cb') (qs) ∧ Below w.heap.size w w' := by
 obtain ⟨i0, hi, hz0, hz1, hz2⟩ := info_parts infoQ
 have HT := Lib.hid T
 obtain rfl := T.is
 obtain ⟨W, hW⟩ : ∃ W, ((w.alloc (.cells #[.slice a s.length ca, .slice b qs.length cb] 36)).alloc (.cells #[.slice none 0 0, .slice none 0 0] 26)) = W := ⟨_, rfl⟩
 have R0 : Row W w.heap.size 36 #[.slice a s.length ca, .slice b qs.length cb] := by rw [← hW]; exact (Row.new _ _ _).alloc _
 have R1 : Row W (w.heap.size + 1) 26 #[.slice none 0 0, .slice none 0 0] := by rw [← hW]; have h := (Row.new (w.alloc (.cells #[.slice a s.length ca, .slice b qs.length cb] 36)) 26 #[.slice none 0 0, .slice none 0 0]); simp only [World.size_alloc] at h; exact h
 have hBW : Below w.heap.size w W := by rw [← hW]; exact ((Below.refl _ _).alloc (by simp) _).alloc (by simp) _
 have hsW : w.heap.size + 1 + 1 ≤ W.heap.size := by rw [← hW]; simp
 have AW := HT.out.sh.later hBW
 have nA := HT.out.nila
 have NA := Lib.hid nA
 obtain ⟨p0, p1, _, _⟩ := R0.two
 clear T nA
 go_enter Tryz.func38, Tryz.ntmps38
 go_wp2_with (at_builtin; refine step_copyT rfl _ 23 22 Tryz.underlying23 Tryz.underlying22 rfl rfl AW NA.out hs ?_; intro ro w3 R3 hb3; obtain ⟨a3, c3, rfl, R3', A3, n3⟩ := R3.slice)
 have hs3 := hb3.size
 have hB3 : Below w.heap.size w w3 := hBW.trans (hb3.mono (by omega))
 have hB4 : Below w.heap.size w (w3.alloc (.cells #[.slice a3 s.length c3, .slice none 0 0] 26)) := hB3.alloc (by omega) _
 have r0 := (R0.later hb3).alloc (.cells #[.slice a3 s.length c3, .slice none 0 0] 26)
 have r1 := (R1.later hb3).alloc (.cells #[.slice a3 s.length c3, .slice none 0 0] 26)
 have r2 := Row.new w3 26 #[.slice a3 s.length c3, .slice none 0 0]
 have r3 : ResS w.heap.size (w3.alloc (.cells #[.slice a3 s.length c3, .slice none 0 0] 26)) (.slice a3 s.length c3) s := (R3'.mono (by omega)).later ((Below.refl _ _).alloc (Nat.le_refl _) _)
 obtain ⟨g, hg⟩ : ∃ g, w3.heap.size = g := ⟨_, rfl⟩
 have hg2 : w.heap.size + 1 + 1 ≤ g := by omega
 rw [hg] at r2 ⊢
 generalize w3.alloc (.cells #[.slice a3 s.length c3, .slice none 0 0] 26) = W4 at *
 have H0 := Lib.hid r0
 have H1 := Lib.hid r1
 have H2 := Lib.hid r2
 have H3 := Lib.hid r3
 have HB4 := Lib.hid hB4
 clear r0 r1 r2 r3 hB4 hB3 hb3 hs3 R3 R3' A3 R0 R1 hBW AW p0 p1 hsW hg hW
 go_loopw [4] (fun i wr => ∃ (k : Nat) (v : Value), i = .int .i64 (k : Int) ∧ k ≤ qs.length ∧ Row wr w.heap.size 36 #[.slice a s.length ca, .slice b qs.length cb] ∧ Row wr (w.heap.size + 1) 26 #[.slice none 0 0, .slice none 0 0] ∧
  Row wr g 26 #[.slice a3 s.length c3, v] ∧ ResS w.heap.size wr (.slice a3 s.length c3) s ∧ RowO w.heap.size 54 (fun W v x => ResQ w.heap.size W v x n) wr v (qs.take k) ∧ Below w.heap.size w wr) (fun i _ => qs.length - (intOf i).toNat)
 case atStart => exact ⟨0, _, rfl, Nat.zero_le _, H0.out, H1.out, H2.out, H3.out, RowO.nil _ _ _ _, HB4.out⟩
 case round =>
  obtain ⟨k, v, rfl, hk, r0, r1, r2, r3, ⟨es, hown, hall⟩, hb⟩ := hrel
  have hsz := hb.size
  have c01 := r0.cell 1
  have c21 := r2.cell 1
  have hle : es.length = k := by rw [hall.1]; simp [hk]
  by_cases hlt : k < qs.length
  · obtain ⟨bb, o, x0, x1, x2, q, hbo, hqk, e0, e1, e2, hraw⟩ := (HT.out.el.later hb (fun v x _ k => k.later hb)).at hlt
    have hmem := List.mem_of_getElem? hqk
    have hb0 : bb < w.heap.size := HT.out.el.low (by intro h; rw [h] at hlt; simp at hlt) hbo
    subst hbo
    have hcall : ArgR wr (.agg #[x0, x1, x2]) q n := hraw
    obtain ⟨r, hrv, hrb, hrne⟩ := hown.hits hsz
    have n0 := hrne _ _ _ r0 (by decide)
    have n2 := hrne _ _ _ r2 (by decide)
    have n1 := hrne _ _ _ r1 (by decide)
    have mkS : ∀ X, Kept r wr X → X.cell? ⟨g, 1, none⟩ = some v ∧ X.cell? ⟨w.heap.size, 1, none⟩ = some (.slice (some ⟨bb, o, none⟩) qs.length cb) ∧ X.cell? ⟨bb, o + k * 3, none⟩ = some x0 ∧ X.cell? ⟨bb, o + k * 3 + 1, none⟩ = some x1 ∧ X.cell? ⟨bb, o + k * 3 + 2, none⟩ = some x2 ∧ Kept r wr X := fun X h =>
     ⟨h.cell c21 n2, h.cell c01 n0, h.cell e0 (by show bb ≠ r; omega), h.cell e1 (by show bb ≠ r; omega), h.cell e2 (by show bb ≠ r; omega), h⟩
    have hltI : (k : Int) < (qs.length : Int) := by omega
    have hS0 := mkS wr.drew ((Kept.refl r wr).drew)
    go_wp2_with fail
    refine wp_region_L (S := fun X => X.cell? ⟨g, 1, none⟩ = some v ∧ X.cell? ⟨w.heap.size, 1, none⟩ = some (.slice (some ⟨bb, o, none⟩) qs.length cb) ∧ X.cell? ⟨bb, o + k * 3, none⟩ = some x0 ∧ X.cell? ⟨bb, o + k * 3 + 1, none⟩ = some x1 ∧ X.cell? ⟨bb, o + k * 3 + 2, none⟩ = some x2 ∧ Kept r wr X) (z := 11) (by kernel_rfl) hS0 (fun hHeld => ?_)
    refine todo [0, 1, 2, 3, 4, 5, 6] ?_
    iterate 7
     refine todoL (v := ?_) rfl (by kernel_rfl) (fun _ _ _ h => h) (by assumption) (Or.inl ⟨by rfl, ?_⟩) ?_
     rotate_left
     · intro w hSw; (try dsimp only at hSw); go_simp; (try with_reducible rfl)
     try simp only [Act.put, nA, nB, nC, nD, nE, nF]
    refine todone ?_
    refine wpAnyL_one (i := 7) (by kernel_rfl) rfl (fun K hK => ?sb7)
    go_simp
    refine (backR_any (hcall.later (show Below wr.heap.size wr wr.drew from (Below.refl _ _).drew)) hn).mono ?_
    rintro e w5 ⟨rv, rfl, qv, hb5⟩
    have Q5 := Lib.hid qv
    obtain ⟨m5, f1, l1, j1, f2, l2, j2, rfl⟩ := qv.shape
    clear qv
    go_simp
    have hB5 : Below w.heap.size w w5 := (hb.drew).trans (hb5.mono hsz)
    have hk5 : Kept r wr w5 := ((Kept.refl r wr).drew).below hb5
    refine hK.out _ _ (fun _ => mkS _ hk5) (fun hHeld2 => ?mb7)
    clear hK K hHeld
    have hHeld := hHeld2 (by decide)
    clear hHeld2
    try simp only [Act.put, nD, nE, nF]
    refine wpAnyL_one (i := 8) (by kernel_rfl) rfl (fun K hK => ?sb8)
    go_simp
    refine hK.out _ _ (fun _ => mkS _ (hk5.alloc _)) (fun hHeld2 => ?mb8)
    clear hK K hHeld
    have hHeld := hHeld2 (by decide)
    clear hHeld2
    try simp only [Act.put, nD, nE, nF]
    refine wpAnyL_one (i := 9) (by kernel_rfl) rfl (fun K hK => ?sb9)
    have hb5w : Below wr.heap.size wr w5 := (Below.refl _ wr).drew.trans hb5
    have hown5 : OwnE w.heap.size 54 w5 v es := hown.later hb5w
    have hall5 : AllE (fun v x => ResQ w.heap.size w5 v x n) es (qs.take k) := hall.imp fun u x _ h => h.later hb5w
    have hsz5 := hB5.size
    refine step_append_ownT rfl _ _ 24 rfl w.heap.size 54 i0 _ 3 56 Tryz.underlying24 hi hz0 hz1 hz2 rfl (by decide) _ es.length (flat3 es) rfl (hown5.later ((Below.refl _ _).alloc (Nat.le_refl _) _)) ⟨w5.heap.size, 0, none⟩ 1 1 [.bool m5, .slice f1 l1 j1, .slice f2 l2 j2] rfl rfl (cell_three_new _ _ _ _ _) (by simp [Value.oneCell']) (by unfold maxLen; omega) (by omega) (by simp; omega) ?_
    intro v' w6 hown' hgrow _
    obtain ⟨av, cv, rfl⟩ := ownT_slice hown'
    have hk6 : Kept r wr w6 := (hk5.alloc _).grown hgrow hrv
    refine hK.out _ _ (fun _ => mkS _ hk6) (fun hHeld2 => ?mb9)
    clear hK K hHeld
    have hHeld := hHeld2 (by decide)
    clear hHeld2
    try simp only [Act.put, nD, nE, nF]
    refine wpAnyL_take (i := 10) (v := ?va10) rfl (by kernel_rfl) (by kernel_rfl) (by kernel_rfl) (by kernel_rfl) (fun _ _ _ h => h) (Or.inl ⟨by rfl, ?ha10⟩) (by assumption) ?ra10
    case ha10 =>
     intro w hSw
     try dsimp only at hSw
     go_simp
     try with_reducible rfl
    try simp only [Act.put, nD, nE, nF]
    have R26 := r2.kept hk6 n2
    have f21 := R26.free 1
    have d21 := R26.cell 1
    refine wpAnyL_one (i := 11) (by kernel_rfl) rfl (fun K hK => ?sb11)
    go_simp
    refine hK.out _ _ (fun h => absurd rfl h) (fun _ => ?mb11)
    clear hK K
    try simp only [Act.put, nD, nE, nF]
    refine wpAnyL_done (by kernel_rfl) ?_ _
    go_wp2
    go_roundw
    case rel =>
     have hx5 : ResQ w.heap.size w5 (E3.agg ⟨.bool m5, .slice f1 l1 j1, .slice f2 l2 j2⟩) q n := Q5.out.mono (by show w.heap.size ≤ wr.heap.size; exact hsz)
     obtain ⟨hrow6, hb6⟩ := pushE (P := fun W v x => ResQ w.heap.size W v x n) (e := ⟨.bool m5, .slice f1 l1 j1, .slice f2 l2 j2⟩) hB5 hsz5 hown5 hall5 hx5 (fun u y h => ResQ.apart hown5 hgrow (by decide) h) hown' hgrow
     rw [hle] at hrow6
     have r06 := r0.kept hk6 n0
     have r16 := r1.kept hk6 n1
     have r36 : ResS w.heap.size w6 (.slice a3 s.length c3) s := ResS.apart hown5 hgrow (by decide) (r3.later hb5w)
     refine ⟨k + 1, _, by go_num, by omega, r06.far (by show w.heap.size ≠ g; omega) _, r16.far (by show w.heap.size + 1 ≠ g; omega) _, R26.set21 _, r36.far R26 (by decide) (kept1 _), ?_, hb6.setCell (by show w.heap.size ≤ g; omega) _⟩
     rw [take_nextL hqk]
     exact hrow6.far R26 (by decide) (kept1 _) (fun u y h => h.far R26 (by decide) (kept1 _))
    case measure => simp [intOf]; omega
  · obtain rfl : k = qs.length := by omega
    have hltI : ¬ (qs.length : Int) < (qs.length : Int) := by omega
    rw [List.take_length] at hall
    obtain ⟨av, cv, rfl⟩ := ownT_slice hown
    have hel : es.length = qs.length := hle
    rw [hel] at r2 hown
    have c20 := r2.cell 0
    have d21 := r2.cell 1
    have f10 := r1.free 0
    have f11 := r1.free 1
    have g10 := r1.cell 0
    have g11 := r1.cell 1
    have R1s := r1.set2 (.slice a3 s.length c3) (.slice av qs.length cv)
    obtain ⟨z0, z1, _, _⟩ := R1s.two
    have HOWN := Lib.hid hown
    have HALL := Lib.hid hall
    have HR1 := Lib.hid r1
    clear hown hall hle R1s r1
    go_wp2
    refine bodyPost_ret (v := .agg #[.slice a3 s.length c3, .slice av qs.length cv]) (by simp [results, Tryz.results38, go_sem, z0, z1]) rfl ⟨_, _, _, _, rfl, ?_, ?_, below_set2 hb (by omega) _ _⟩
    · exact r3.far HR1.out (by decide) (kept2 _ _)
    · exact RowO.far ⟨es, HOWN.out, HALL.out⟩ HR1.out (by decide) (kept2 _ _) (fun u y h => h.far HR1.out (by decide) (kept2 _ _))
end
section
open Go.RowKit
noncomputable def allBC {α β : Type} (B : α → β → Bool) (s1 s2 : List Int) (L1 : List α) (L2 : List β) : Bool := @decide (s1 = s2 ∧ L1.length = L2.length ∧ ∀ (i : Nat) (x : α) (y : β), L1[i]? = some x → L2[i]? = some y → B x y = true) (Classical.propDecidable _)
theorem allBC_yes {α β : Type} {B : α → β → Bool} {s1 s2 : List Int} {L1 : List α} {L2 : List β} (h1 : s1 = s2) (h2 : L1.length = L2.length) (h3 : ∀ (i : Nat) (x : α) (y : β), L1[i]? = some x → L2[i]? = some y → B x y = true) : allBC B s1 s2 L1 L2 = true := by
 unfold allBC
 simp only [decide_eq_true_eq]
 exact ⟨h1, h2, h3⟩
theorem allBC_no {α β : Type} {B : α → β → Bool} {s1 s2 : List Int} {L1 : List α} {L2 : List β} (h : ¬ (s1 = s2 ∧ L1.length = L2.length ∧ ∀ (i : Nat) (x : α) (y : β), L1[i]? = some x → L2[i]? = some y → B x y = true)) : allBC B s1 s2 L1 L2 = false := by
 unfold allBC
 simp only [decide_eq_false_iff_not]
 exact h
theorem isRaw_any {n : Nat} {w : World} {u v : Value} {X : Rat} {q : Q3} (hu : ArgR w u X n) (hv : RawQ w v q) (hn : n ≤ 1000000000) (hx : q.num.length ≤ 134217728) (hd : q.den.length ≤ 134217728) :
 Calls Tryz.prog 82 #[u, v] w fun e w' => e = .returned (.bool (validB q.neg q.num q.den X)) ∧ Below w.heap.size w w' := by
 obtain ⟨ad, bd, ca, cb, rfl, A, B, _⟩ := hv
 exact isR_dec hu A B hn hx hd
theorem isT_any {n : Nat} {w : World} {u v : Value} {s1 s2 : List Int} {L1 : List Rat} {L2 : List Q3} {a1 b1 a2 b2 : Option Addr} {ca1 cb1 ca2 cb2 : Nat} (T1 : TensR w u s1 L1 n a1 ca1 b1 cb1) (T2 : TensQ w v s2 L2 a2 ca2 b2 cb2) (hs : s1.length ≤ 140737488355328) (hq1 : L1.length ≤ 1000000000) (hq2 : L2.length ≤ 1000000000) (hn : n ≤ 1000000000) (hl : ∀ q ∈ L2, q.num.length ≤ 134217728 ∧ q.den.length ≤ 134217728) :
 Calls Tryz.prog 33 #[u, v] w fun e w' => e = .returned (.bool (allBC (fun (x : Rat) (q : Q3) => validB q.neg q.num q.den x) s1 s2 L1 L2)) ∧ Below w.heap.size w w' := by
 have HT1 := Lib.hid T1
 have HT2 := Lib.hid T2
 obtain rfl := T1.is
 obtain rfl := T2.is
 obtain ⟨W, hW⟩ : ∃ W, ((w.alloc (.cells #[.slice a1 s1.length ca1, .slice b1 L1.length cb1] 36)).alloc (.cells #[.slice a2 s2.length ca2, .slice b2 L2.length cb2] 26)) = W := ⟨_, rfl⟩
 have R0 : Row W w.heap.size 36 #[.slice a1 s1.length ca1, .slice b1 L1.length cb1] := by rw [← hW]; exact (Row.new _ _ _).alloc _
 have R1 : Row W (w.heap.size + 1) 26 #[.slice a2 s2.length ca2, .slice b2 L2.length cb2] := by rw [← hW]; have h := (Row.new (w.alloc (.cells #[.slice a1 s1.length ca1, .slice b1 L1.length cb1] 36)) 26 #[.slice a2 s2.length ca2, .slice b2 L2.length cb2]); simp only [World.size_alloc] at h; exact h
 have hBW : Below w.heap.size w W := by rw [← hW]; exact ((Below.refl _ _).alloc (by simp) _).alloc (by simp) _
 obtain ⟨c, hc⟩ : ∃ c, allBC (fun (x : Rat) (q : Q3) => validB q.neg q.num q.den x) s1 s2 L1 L2 = c := ⟨_, rfl⟩
 have HC := Lib.hid hc
 rw [hc]
 have q1 := sameSh_any (HT1.out.sh.later hBW) (HT2.out.sh.later hBW) hs
 obtain ⟨p0, p1, _, _⟩ := R0.two
 obtain ⟨o0, o1, _, _⟩ := R1.two
 clear T1 T2 hc
 by_cases hsh : s1 = s2
 · rw [decide_eq_true hsh] at q1
   have HSH := Lib.hid hsh
   clear hsh
   by_cases hlen : L1.length = L2.length
   · have hne : ((L1.length : Int) != (L2.length : Int)) = false := by simp; omega
     have HLN := Lib.hid hlen
     clear hlen
     go_enter Tryz.func33, Tryz.ntmps33
     go_wp2_with (go_at_call 81; refine q1.mono ?_; rintro e w1 ⟨rfl, hb1⟩; have R0' := R0.later hb1; have R1' := R1.later hb1; obtain ⟨c00, c01, _, _⟩ := R0'.two; obtain ⟨c10, c11, _, _⟩ := R1'.two)
     have hBW1 : Below w.heap.size w w1 := hBW.trans (hb1.mono hBW.size)
     clear hne q1 hW c00 c01 c10 c11
     go_loopw [5] (fun i wr => ∃ k : Nat, i = .int .i64 (k : Int) ∧ k ≤ L1.length ∧ (∀ i x y, i < k → L1[i]? = some x → L2[i]? = some y → validB y.neg y.num y.den x = true) ∧ Below w1.heap.size w1 wr) (fun i _ => L1.length - (intOf i).toNat)
     case atStart => exact ⟨0, rfl, Nat.zero_le _, fun i x y h => by omega, Below.refl _ _⟩
     case round =>
      obtain ⟨k, rfl, hk, hall, hb⟩ := hrel
      have r0 := R0'.later hb
      have r1 := R1'.later hb
      obtain ⟨c00, c01, _, _⟩ := r0.two
      obtain ⟨c10, c11, _, _⟩ := r1.two
      have HALL := Lib.hid hall
      clear hall
      by_cases hlt : k < L1.length
      · have hlt2 : k < L2.length := by have := HLN.out; omega
        have hbw := hBW1.trans (hb.mono hBW1.size)
        obtain ⟨bb, o, x0, x1, x2, q, hbo, hqk, e0, e1, e2, hraw⟩ := (HT1.out.el.later hbw (fun v x _ k => k.later hbw)).at hlt
        obtain ⟨bd, od, y0, y1, y2, t, hbd, htk, d0, d1, d2, hrat⟩ := (HT2.out.el.later hbw (fun v x _ k => k.later hbw)).at hlt2
        have hm1 := List.mem_of_getElem? hqk
        have hm2 := List.mem_of_getElem? htk
        subst hbo
        subst hbd
        have hcall := fun X (hX : Below wr.heap.size wr X) => isRaw_any (ArgR.later hraw hX) (hrat.later hX) hn (hl t hm2).1 (hl t hm2).2
        have hltI : (k : Int) < (L1.length : Int) := by omega
        have hltI2 : (k : Int) < (L2.length : Int) := by omega
        have HQK := Lib.hid hqk
        have HTK := Lib.hid htk
        have mkS : ∀ X, Below wr.heap.size wr X → X.cell? ⟨w.heap.size, 1, none⟩ = some (.slice (some ⟨bb, o, none⟩) L1.length cb1) ∧ X.cell? ⟨w.heap.size + 1, 1, none⟩ = some (.slice (some ⟨bd, od, none⟩) L2.length cb2) ∧ X.cell? ⟨bb, o + k * 3, none⟩ = some x0 ∧ X.cell? ⟨bb, o + k * 3 + 1, none⟩ = some x1 ∧ X.cell? ⟨bb, o + k * 3 + 2, none⟩ = some x2 ∧
         X.cell? ⟨bd, od + k * 3, none⟩ = some y0 ∧ X.cell? ⟨bd, od + k * 3 + 1, none⟩ = some y1 ∧ X.cell? ⟨bd, od + k * 3 + 2, none⟩ = some y2 ∧ Below wr.heap.size wr X := fun X h =>
         ⟨(r0.later h).cell 1, (r1.later h).cell 1, (h.cell (World.block_lt_of_cell? wr _ e0)).trans e0, (h.cell (World.block_lt_of_cell? wr _ e1)).trans e1, (h.cell (World.block_lt_of_cell? wr _ e2)).trans e2, (h.cell (World.block_lt_of_cell? wr _ d0)).trans d0, (h.cell (World.block_lt_of_cell? wr _ d1)).trans d1, (h.cell (World.block_lt_of_cell? wr _ d2)).trans d2, h⟩
        clear hqk htk hraw hrat
        obtain ⟨bo, hbo⟩ : ∃ bo, validB t.neg t.num t.den q = bo := ⟨_, rfl⟩
        rw [hbo] at hcall
        have HBO := Lib.hid hbo
        clear hbo
        cases bo with
        | true =>
         go_wp2_with fail
         go_region_held3 (fun X => X.cell? ⟨w.heap.size, 1, none⟩ = some (.slice (some ⟨bb, o, none⟩) L1.length cb1) ∧ X.cell? ⟨w.heap.size + 1, 1, none⟩ = some (.slice (some ⟨bd, od, none⟩) L2.length cb2) ∧ X.cell? ⟨bb, o + k * 3, none⟩ = some x0 ∧ X.cell? ⟨bb, o + k * 3 + 1, none⟩ = some x1 ∧ X.cell? ⟨bb, o + k * 3 + 2, none⟩ = some x2 ∧
          X.cell? ⟨bd, od + k * 3, none⟩ = some y0 ∧ X.cell? ⟨bd, od + k * 3 + 1, none⟩ = some y1 ∧ X.cell? ⟨bd, od + k * 3 + 2, none⟩ = some y2 ∧ Below wr.heap.size wr X)
          (((refine mkS _ ?_; (repeat' (first | exact Below.refl _ _ | refine Below.drew ?_ | assumption)))))
          ((go_at_call 82; (with_reducible refine (hcall _ (show Below wr.heap.size wr _ by (repeat' (first | exact Below.refl _ _ | refine Below.drew ?_)))).mono ?_); rintro e w2 ⟨rfl, hb2⟩; have hb2 : Below wr.heap.size wr w2 := ((Below.refl _ _).drew).trans hb2))
         go_wp2
         go_roundw
         case rel =>
          refine ⟨k + 1, by go_num, by omega, fun i x y hi h1 h2 => ?_, hb.trans (hb2.mono hb.size)⟩
          by_cases hik : i = k
          · subst hik
            rw [HQK.out] at h1
            rw [HTK.out] at h2
            cases h1
            cases h2
            exact HBO.out
          · exact HALL.out i x y (by omega) h1 h2
         case measure => simp [intOf]; omega
        | false =>
         obtain rfl : c = false := by rw [← HC.out]; exact allBC_no fun ⟨_, _, h⟩ => by have := h k q t HQK.out HTK.out; rw [show validB t.neg t.num t.den q = false from HBO.out] at this; cases this
         go_wp2_with fail
         go_region_held3 (fun X => X.cell? ⟨w.heap.size, 1, none⟩ = some (.slice (some ⟨bb, o, none⟩) L1.length cb1) ∧ X.cell? ⟨w.heap.size + 1, 1, none⟩ = some (.slice (some ⟨bd, od, none⟩) L2.length cb2) ∧ X.cell? ⟨bb, o + k * 3, none⟩ = some x0 ∧ X.cell? ⟨bb, o + k * 3 + 1, none⟩ = some x1 ∧ X.cell? ⟨bb, o + k * 3 + 2, none⟩ = some x2 ∧
          X.cell? ⟨bd, od + k * 3, none⟩ = some y0 ∧ X.cell? ⟨bd, od + k * 3 + 1, none⟩ = some y1 ∧ X.cell? ⟨bd, od + k * 3 + 2, none⟩ = some y2 ∧ Below wr.heap.size wr X)
          (((refine mkS _ ?_; (repeat' (first | exact Below.refl _ _ | refine Below.drew ?_ | assumption)))))
          ((go_at_call 82; (with_reducible refine (hcall _ (show Below wr.heap.size wr _ by (repeat' (first | exact Below.refl _ _ | refine Below.drew ?_)))).mono ?_); rintro e w2 ⟨rfl, hb2⟩; have hb2 : Below wr.heap.size wr w2 := ((Below.refl _ _).drew).trans hb2))
         go_wp2
         go_ret
         exact ⟨rfl, hBW1.trans ((hb.trans (hb2.mono hb.size)).mono hBW1.size)⟩
      · obtain rfl : k = L1.length := by omega
        have hltI : ¬ (L1.length : Int) < (L1.length : Int) := by omega
        obtain rfl : c = true := by rw [← HC.out]; exact allBC_yes HSH.out HLN.out fun i x y h1 h2 => HALL.out i x y (by
         rcases Nat.lt_or_ge i L1.length with g | g
         · exact g
         · rw [List.getElem?_eq_none g] at h1; cases h1) h1 h2
        go_wp2
        go_ret
        exact ⟨rfl, hBW1.trans (hb.mono hBW1.size)⟩
   · have hne : ((L1.length : Int) != (L2.length : Int)) = true := by simp; omega
     obtain rfl : c = false := by rw [← HC.out]; exact allBC_no fun h => hlen h.2.1
     clear hlen
     go_enter Tryz.func33, Tryz.ntmps33
     go_wp2_with (go_at_call 81; refine q1.mono ?_; rintro e w1 ⟨rfl, hb1⟩; have R0' := R0.later hb1; have R1' := R1.later hb1; obtain ⟨c00, c01, _, _⟩ := R0'.two; obtain ⟨c10, c11, _, _⟩ := R1'.two)
     go_ret
     exact ⟨rfl, hBW.trans (hb1.mono hBW.size)⟩
 · rw [decide_eq_false hsh] at q1
   obtain rfl : c = false := by rw [← HC.out]; exact allBC_no fun h => hsh h.1
   clear hsh
   go_enter Tryz.func33, Tryz.ntmps33
   go_wp2_with (go_at_call 81; refine q1.mono ?_; rintro e w1 ⟨rfl, hb1⟩; have R0' := R0.later hb1; have R1' := R1.later hb1; obtain ⟨c00, c01, _, _⟩ := R0'.two; obtain ⟨c10, c11, _, _⟩ := R1'.two)
   go_ret
   exact ⟨rfl, hBW.trans (hb1.mono hBW.size)⟩
end
section
open Go.RowKit
theorem scale1_any {n g : Nat} {w : World} {u v : Value} {q : Q3} {X : Rat} (h : RawQ w u q) (h1 : q.num.length ≤ n) (h2 : q.den.length ≤ n) (hn : n ≤ 16777000) {y0 : Bool} {y1 y2 : Option Addr} {i1 i2 k1 k2 : Nat} (hv : ArgQ w (.agg #[.bool y0, .slice y1 i1 k1, .slice y2 i2 k2]) X n) (hg : Row w g 54 #[.bool y0, .slice y1 i1 k1, .slice y2 i2 k2]) :
 Calls Tryz.prog 92 #[u, .pointer (some ⟨g, 0, none⟩)] w fun e w' => ∃ r, e = .returned r ∧ ResQ w.heap.size w' r (q.rat * X) (2 * n + 4) ∧ Below w.heap.size w w' := by
 obtain ⟨ad, bd, ca, cb, rfl, A, D, na, nb⟩ := h
 have HRAW : Hid (RawQ w (.agg #[.bool q.neg, .slice ad q.num.length ca, .slice bd q.den.length cb]) q) := Lib.hid ⟨ad, bd, ca, cb, rfl, A, D, na, nb⟩
 obtain ⟨W, hW⟩ : ∃ W, ((w.alloc (.cells #[.bool q.neg, .slice ad q.num.length ca, .slice bd q.den.length cb] 54)).alloc (.cells #[.bool false, .slice none 0 0, .slice none 0 0] 54)) = W := ⟨_, rfl⟩
 have R0 : Row W (w.heap.size) 54 #[.bool q.neg, .slice ad q.num.length ca, .slice bd q.den.length cb] := by rw [← hW]; exact ((Row.new _ _ _).alloc _)
 have R1 : Row W (w.heap.size + 1) 54 #[.bool false, .slice none 0 0, .slice none 0 0] := by rw [← hW]; have h := (Row.new (w.alloc (.cells #[.bool q.neg, .slice ad q.num.length ca, .slice bd q.den.length cb] 54)) 54 #[.bool false, .slice none 0 0, .slice none 0 0]); simp only [World.size_alloc] at h; exact h
 have hBW : Below w.heap.size w W := by rw [← hW]; exact (((Below.refl _ _).alloc (by (try simp) <;> omega) _).alloc (by (try simp) <;> omega) _)
 have hsW : w.heap.size + 1 + 1 ≤ W.heap.size := by rw [← hW]; simp
 have G0 := hg.later hBW
 obtain ⟨d0, d1, d2, _, _, _⟩ := G0.three
 have hp := mulQ_any ((HRAW.out.later hBW).arg h1 h2) (hv.later hBW) hn
 have HA := Lib.hid A
 have HV := Lib.hid hv
 clear A D na nb hv
 obtain ⟨c0, c1, c2, _, _, _⟩ := R0.three
 go_enter Tryz.func92, Tryz.ntmps92
 (try rw [hW])
 go_wp2_with (go_at_call 93; refine hp.mono ?_; rintro e w2 ⟨r, rfl, qv, hb2⟩; have Q2 := Lib.hid qv; obtain ⟨m5, f1, l1, j1, f2, l2, j2, rfl⟩ := qv.shape; clear qv; have P2 := R1.later hb2; have s2 := hb2.size; obtain ⟨u0, u1, u2, g0, g1, g2⟩ := P2.three)
 have P3 := P2.set3 (.bool m5) (.slice f1 l1 j1) (.slice f2 l2 j2)
 obtain ⟨z0, z1, z2, _, _, _⟩ := P3.three
 refine bodyPost_ret (v := .agg #[.bool m5, .slice f1 l1 j1, .slice f2 l2 j2]) (by simp [results, Tryz.results92, go_sem, z0, z1, z2]) rfl ⟨_, rfl, ?_, below_set3 (hBW.trans (hb2.mono (by omega))) (by omega) _ _ _⟩
 exact (Q2.out.mono (by omega)).far P2 (by decide) (kept3 _ _ _)
end
section
open Go.RowKit
def ResA (base : Nat) (w0 W : World) (v : Value) (x : Rat) (n : Nat) : Prop := ResR base W v x n ∨ ArgR w0 v x n
theorem ResA.later {base n : Nat} {w0 W W' : World} {v : Value} {x : Rat} (h : ResA base w0 W v x n) (hb : Below W.heap.size W W') : ResA base w0 W' v x n := h.imp (fun h => h.later hb) id
theorem ResA.far {base n g : Nat} {w0 W W' : World} {v : Value} {x : Rat} {t : TypeId} {cs : Array Value} (h : ResA base w0 W v x n) (R : Row W g t cs) (ht : t ≠ 3) (hk : ∀ k, k ≠ g → W'.heap[k]? = W.heap[k]?) : ResA base w0 W' v x n := h.imp (fun h => h.far R ht hk) id
theorem ResA.apart {base base' n : Nat} {T : TypeId} {w0 w w' : World} {v u : Value} {es : List E3} {x : Rat} {o : Obj} (h : OwnE base T w v es) (hg : (w.alloc o).grownBy w' v.ownBlock) (hT : T ≠ 3) (k : ResA base' w0 w u x n) : ResA base' w0 w' u x n := k.imp (fun k => ResR.apart h hg hT k) id
theorem ResA.arg {base n : Nat} {w0 W : World} {v : Value} {x : Rat} (h : ResA base w0 W v x n) (hb : Below w0.heap.size w0 W) : ArgR W v x n := h.elim (fun h => h.arg) (fun h => h.later hb)
theorem ArgR.shape {w : World} {v : Value} {x : Rat} {n : Nat} (h : ArgR w v x n) : ∃ m a1 n1 c1 a2 n2 c2, v = .agg #[.bool m, .slice a1 n1 c1, .slice a2 n2 c2] := by
 obtain ⟨_, _, _, _, _, _, rfl, _⟩ := h
 exact ⟨_, _, _, _, _, _, _, rfl⟩
def TenR (w : World) (v : Value) (s : List Int) (L : List Rat) (n : Nat) : Prop := ∃ a ca b cb, TensR w v s L n a ca b cb
theorem TenR.later {w w' : World} {v : Value} {s : List Int} {L : List Rat} {n : Nat} (h : TenR w v s L n) (hb : Below w.heap.size w w') : TenR w' v s L n := by
 obtain ⟨a, ca, b, cb, h⟩ := h
 exact ⟨a, ca, b, cb, h.later hb⟩
end
section
open Go.RowKit
def OkShape (s : List Int) (k : Nat) : Prop := mayC s = 0 ∧ (k : Int) = countS s ∧ s.length ≤ 4
theorem OkShape.may {s : List Int} {k : Nat} {qs : List Q3} (h : OkShape s k) (hk : qs.length = k) (hok : ∀ q ∈ qs, okQ q = true) : mayT s qs = 0 := mayT_ok h.1 (by rw [hk]; exact h.2.1) hok
end
section
open Go.RowKit Go.ChangeShapes Go.WideShapes Go.ChangeAt Go.Joins Go.Deep
theorem laid8 : laidOutB Tryz.prog = true := by kernel_rfl
theorem bytesInt8 : Tryz.prog.bytesOf 3 = 8 := by kernel_rfl
theorem open_intsW {H : Type} {enc : TypeId × Value → H} {W : World} {v : Value} {y : DataW H × List MemPlace} {fuel : Nat} {T : TypeId} (hT : Tryz.prog.underlying T = some (.slice 3))
 (hf : DataW.trod enc Tryz.prog W 0 (fun _ => true) true fuel T [v] = some y) : ∃ ad xs cap, v = .slice ad xs.length cap ∧ ArgS W (.slice ad xs.length cap) xs ad cap ∧ (xs.length = 0 ∨ xs.length * 8 ∈ DataW.weights Tryz.prog T y.1 ∨ ∃ m, xs.length ≤ m ∧ m * 8 ∈ DataW.weights Tryz.prog T y.1) ∧ (ad = none → cap = 0) := by
 rcases open_ints hT Tryz.underlying3 cellsInt7 hf with ⟨hcs, hx⟩ | ⟨a, n, cap, zs, hcs, _, hl, hm, hz, hx, hcell, hwz⟩
 · simp only [List.cons.injEq, and_true] at hcs
   subst hcs
   exact ⟨none, [], 0, rfl, ⟨rfl, .inl rfl, Nat.le_refl _, Wid.nil⟩, .inl rfl, fun _ => rfl⟩
 · simp only [List.cons.injEq, and_true] at hcs
   subst hcs
   subst hx
   simp only [if_true] at hz
   have hlen : (zs.take n).length = n := by rw [List.length_take]; omega
   refine ⟨some a, zs.take n, cap, by rw [hlen], ⟨rfl, ?_, by rw [hlen]; exact hl, fun x hx => wf_int7 (hwz x (List.mem_of_mem_take hx))⟩, .inr (.inr ⟨(lits .i64 (zs.take n) : List (DataW H)).length + (lits .i64 (zs.drop n) : List (DataW H)).length, by simp [lits], by simp [DataW.weights, hT, bytesInt8]⟩), fun e => by cases e⟩
   by_cases h0 : n = 0
   · exact .inl (by simp [h0])
   · obtain ⟨b, off, rfl, hc⟩ := ints_at hcell (by omega)
     refine .inr ⟨b, off, rfl, fun i hi => ?_⟩
     rw [hlen] at hi
     rw [hc i (by omega)]
     simp [hi]
theorem open_tensorW {H : Type} {enc : TypeId × Value → H} {W : World} {v : Value} {d : DataW H} {p : List MemPlace} {base : Nat}
 (hval : Value.okWide Tryz.prog W .any base 26 v) (h : DataW.Trod enc Tryz.prog W 0 (fun _ => true) true 26 v d p) (hk : ∀ n ∈ DataW.weights Tryz.prog 26 d, n ≤ reachBytes) :
 ∃ (s : List Int) (qs : List Q3) (a b : Option Addr) (ca cb : Nat), TensQ W v s qs a ca b cb ∧ s.length ≤ 17592186043904 := by
 obtain ⟨v0, v1, y0, y1, n, rfl, rfl, rfl, h0, h1⟩ := open_agg2 Tryz.underlying26 (by kernel_rfl) cellsTensor hval h
 obtain ⟨a, s, ca, rfl, A, l1, n1⟩ := open_intsW Tryz.underlying23 h0
 obtain ⟨b, qs, cb, rfl, B, n2, l2⟩ := open_rats h1
 refine ⟨s, qs, a, b, ca, cb, ⟨rfl, A, n1, B, n2⟩, ?_⟩
 have hin : ∀ m, m ∈ DataW.weights Tryz.prog 23 y0.1 → m ≤ 140737488351232 := fun m hm => by
  refine Nat.le_trans (hk m ?_) (by decide)
  simp only [DataW.weights, Tryz.underlying26]
  exact DataW.weights_mem_each (j := 0) rfl rfl m hm
 rcases l1 with l1 | l1 | ⟨m, l1, l2⟩
 · omega
 · have := hin _ l1; omega
 · have := hin _ l2; omega
end
section
open Go.RowKit
structure Ok9 (s : List Int) (k : Nat) : Prop where
 ok : OkS s
 len : (k : Int) = prodS s
theorem Ok9.may {s : List Int} {k : Nat} {qs : List Q3} (h : Ok9 s k) (hk : qs.length = k) (hok : ∀ q ∈ qs, okQ q = true) : mayT s qs = 0 := mayT_ok (mayC_ok h.ok) (by rw [hk, h.ok.count]; exact h.len) hok
theorem Ok9.le {s : List Int} {k : Nat} (h : Ok9 s k) : s.length ≤ 4 ∧ k ≤ 1024 := ⟨h.ok.rank, by have := h.len; have := h.ok.few; omega⟩
end
end Go.Proofs.YtengpgodmbfmkaaGreat
