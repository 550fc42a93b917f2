/-
  Part 26 of 39: contracts and what they rest on (TOf, POpen).
-/
import Derived.Test.YtengpgodmbfmkaaGreatG21
import Derived.Test.YtengpgodmbfmkaaGreatG22
namespace Go.Proofs.YtengpgodmbfmkaaGreat
set_option linter.unusedVariables false
set_option linter.unusedSimpArgs false
set_option maxRecDepth 100000
set_option maxHeartbeats 40000000
section
open Go.RowKit
theorem ofT_any {n : Nat} {w : World} {v : Value} {s : List Int} {qs : List Q3} {a b : Option Addr} {ca cb : Nat} (T : TensQ w v s qs a ca b cb) (hs : s.length ≤ 17592186044416) (hq : qs.length ≤ 1000000000)
 (hl : ∀ q ∈ qs, q.num.length ≤ n ∧ q.den.length ≤ n) (hn : n ≤ 134217728) :
 Calls Tryz.prog 18 #[v] w fun e w' => ∃ (a' b' : Option Addr) (ca' cb' : Nat), e = .returned (.agg #[.slice a' s.length ca', .slice b' qs.length cb']) ∧ ResS w.heap.size w' (.slice a' s.length ca') s ∧
  RowO w.heap.size 58 (fun W v x => ResR w.heap.size W v x (5 * n + 1)) w' (.slice b' qs.length cb') (qs.map Q3.rat) ∧ Below w.heap.size w w' := by
 obtain ⟨i0, hi, hz0, hz1, hz2⟩ := info_parts infoR
 have HT := Lib.hid T
 obtain rfl := T.is
 obtain ⟨W, hW⟩ : ∃ W, ((w.alloc (.cells #[.slice a s.length ca, .slice b qs.length cb] 26)).alloc (.cells #[.slice none 0 0, .slice none 0 0] 36)) = W := ⟨_, rfl⟩
 have R0 : Row W w.heap.size 26 #[.slice a s.length ca, .slice b qs.length cb] := by rw [← hW]; exact (Row.new _ _ _).alloc _
 have R1 : Row W (w.heap.size + 1) 36 #[.slice none 0 0, .slice none 0 0] := by rw [← hW]; have h := (Row.new (w.alloc (.cells #[.slice a s.length ca, .slice b qs.length cb] 26)) 36 #[.slice none 0 0, .slice none 0 0]); simp only [World.size_alloc] at h; exact h
 have hBW : Below w.heap.size w W := by rw [← hW]; exact ((Below.refl _ _).alloc (by simp) _).alloc (by simp) _
 have hsW : w.heap.size + 1 + 1 ≤ W.heap.size := by rw [← hW]; simp
 have AW := HT.out.sh.later hBW
 have nA := HT.out.nila
 have NA := Lib.hid nA
 obtain ⟨p0, p1, _, _⟩ := R0.two
 clear T nA
 go_enter Tryz.func18, Tryz.ntmps18
 go_wp2_with (at_builtin; refine step_copyT rfl _ 22 23 Tryz.underlying22 Tryz.underlying23 rfl rfl AW NA.out hs ?_; intro ro w3 R3 hb3; obtain ⟨a3, c3, rfl, R3', A3, n3⟩ := R3.slice)
 have hs3 := hb3.size
 have hB3 : Below w.heap.size w w3 := hBW.trans (hb3.mono (by omega))
 have hB4 : Below w.heap.size w (w3.alloc (.cells #[.slice a3 s.length c3, .slice none 0 0] 36)) := hB3.alloc (by omega) _
 have r0 := (R0.later hb3).alloc (.cells #[.slice a3 s.length c3, .slice none 0 0] 36)
 have r1 := (R1.later hb3).alloc (.cells #[.slice a3 s.length c3, .slice none 0 0] 36)
 have r2 := Row.new w3 36 #[.slice a3 s.length c3, .slice none 0 0]
 have r3 : ResS w.heap.size (w3.alloc (.cells #[.slice a3 s.length c3, .slice none 0 0] 36)) (.slice a3 s.length c3) s := (R3'.mono (by omega)).later ((Below.refl _ _).alloc (Nat.le_refl _) _)
 obtain ⟨g, hg⟩ : ∃ g, w3.heap.size = g := ⟨_, rfl⟩
 have hg2 : w.heap.size + 1 + 1 ≤ g := by omega
 rw [hg] at r2 ⊢
 generalize w3.alloc (.cells #[.slice a3 s.length c3, .slice none 0 0] 36) = W4 at *
 have H0 := Lib.hid r0
 have H1 := Lib.hid r1
 have H2 := Lib.hid r2
 have H3 := Lib.hid r3
 have HB4 := Lib.hid hB4
 clear r0 r1 r2 r3 hB4 hB3 hb3 hs3 R3 R3' A3 R0 R1 hBW AW p0 p1 hsW hg hW
 go_loopw [4] (fun i wr => ∃ (k : Nat) (v : Value), i = .int .i64 (k : Int) ∧ k ≤ qs.length ∧ Row wr w.heap.size 26 #[.slice a s.length ca, .slice b qs.length cb] ∧ Row wr (w.heap.size + 1) 36 #[.slice none 0 0, .slice none 0 0] ∧
  Row wr g 36 #[.slice a3 s.length c3, v] ∧ ResS w.heap.size wr (.slice a3 s.length c3) s ∧ RowO w.heap.size 58 (fun W v x => ResR w.heap.size W v x (5 * n + 1)) wr v ((qs.take k).map Q3.rat) ∧ Below w.heap.size w wr) (fun i _ => qs.length - (intOf i).toNat)
 case atStart => exact ⟨0, _, rfl, Nat.zero_le _, H0.out, H1.out, H2.out, H3.out, RowO.nil _ _ _ _, HB4.out⟩
 case round =>
  obtain ⟨k, v, rfl, hk, r0, r1, r2, r3, ⟨es, hown, hall⟩, hb⟩ := hrel
  have hsz := hb.size
  have c01 := r0.cell 1
  have c21 := r2.cell 1
  have hle : es.length = k := by rw [hall.1]; simp [hk]
  by_cases hlt : k < qs.length
  · obtain ⟨bb, o, x0, x1, x2, q, hbo, hqk, e0, e1, e2, hraw⟩ := (HT.out.el.later hb (fun v x _ k => k.later hb)).at hlt
    have hmem := List.mem_of_getElem? hqk
    have hb0 : bb < w.heap.size := HT.out.el.low (by intro h; rw [h] at hlt; simp at hlt) hbo
    subst hbo
    have hcall := hraw.arg (hl q hmem).1 (hl q hmem).2
    obtain ⟨r, hrv, hrb, hrne⟩ := hown.hits hsz
    have n0 := hrne _ _ _ r0 (by decide)
    have n2 := hrne _ _ _ r2 (by decide)
    have n1 := hrne _ _ _ r1 (by decide)
    have mkS : ∀ X, Kept r wr X → X.cell? ⟨g, 1, none⟩ = some v ∧ X.cell? ⟨w.heap.size, 1, none⟩ = some (.slice (some ⟨bb, o, none⟩) qs.length cb) ∧ X.cell? ⟨bb, o + k * 3, none⟩ = some x0 ∧ X.cell? ⟨bb, o + k * 3 + 1, none⟩ = some x1 ∧ X.cell? ⟨bb, o + k * 3 + 2, none⟩ = some x2 ∧ Kept r wr X := fun X h =>
     ⟨h.cell c21 n2, h.cell c01 n0, h.cell e0 (by show bb ≠ r; omega), h.cell e1 (by show bb ≠ r; omega), h.cell e2 (by show bb ≠ r; omega), h⟩
    have hltI : (k : Int) < (qs.length : Int) := by omega
    have hS0 := mkS wr.drew ((Kept.refl r wr).drew)
    go_wp2_with fail
    refine wp_region_L (S := fun X => X.cell? ⟨g, 1, none⟩ = some v ∧ X.cell? ⟨w.heap.size, 1, none⟩ = some (.slice (some ⟨bb, o, none⟩) qs.length cb) ∧ X.cell? ⟨bb, o + k * 3, none⟩ = some x0 ∧ X.cell? ⟨bb, o + k * 3 + 1, none⟩ = some x1 ∧ X.cell? ⟨bb, o + k * 3 + 2, none⟩ = some x2 ∧ Kept r wr X) (z := 11) (by kernel_rfl) hS0 (fun hHeld => ?_)
    refine todo [0, 1, 2, 3, 4, 5, 6] ?_
    iterate 7
     refine todoL (v := ?_) rfl (by kernel_rfl) (fun _ _ _ h => h) (by assumption) (Or.inl ⟨by rfl, ?_⟩) ?_
     rotate_left
     · intro w hSw; (try dsimp only at hSw); go_simp; (try with_reducible rfl)
     try simp only [Act.put, nA, nB, nC, nD, nE, nF]
    refine todone ?_
    refine wpAnyL_one (i := 7) (by kernel_rfl) rfl (fun K hK => ?sb7)
    go_simp
    refine (ofRR_any (hcall.later (show Below wr.heap.size wr wr.drew from (Below.refl _ _).drew)) (by omega)).mono ?_
    rintro e w5 ⟨rv, rfl, qv, hb5⟩
    have Q5 := Lib.hid qv
    obtain ⟨m5, f1, l1, j1, f2, l2, j2, rfl⟩ := qv.shape
    clear qv
    go_simp
    have hB5 : Below w.heap.size w w5 := (hb.drew).trans (hb5.mono hsz)
    have hk5 : Kept r wr w5 := ((Kept.refl r wr).drew).below hb5
    refine hK.out _ _ (fun _ => mkS _ hk5) (fun hHeld2 => ?mb7)
    clear hK K hHeld
    have hHeld := hHeld2 (by decide)
    clear hHeld2
    try simp only [Act.put, nD, nE, nF]
    refine wpAnyL_one (i := 8) (by kernel_rfl) rfl (fun K hK => ?sb8)
    go_simp
    refine hK.out _ _ (fun _ => mkS _ (hk5.alloc _)) (fun hHeld2 => ?mb8)
    clear hK K hHeld
    have hHeld := hHeld2 (by decide)
    clear hHeld2
    try simp only [Act.put, nD, nE, nF]
    refine wpAnyL_one (i := 9) (by kernel_rfl) rfl (fun K hK => ?sb9)
    have hb5w : Below wr.heap.size wr w5 := (Below.refl _ wr).drew.trans hb5
    have hown5 : OwnE w.heap.size 58 w5 v es := hown.later hb5w
    have hall5 : AllE (fun v x => ResR w.heap.size w5 v x (5 * n + 1)) es ((qs.take k).map Q3.rat) := hall.imp fun u x _ h => h.later hb5w
    have hsz5 := hB5.size
    refine step_append_ownT rfl _ _ 34 rfl w.heap.size 58 i0 _ 3 56 Tryz.underlying34 hi hz0 hz1 hz2 rfl (by decide) _ es.length (flat3 es) rfl (hown5.later ((Below.refl _ _).alloc (Nat.le_refl _) _)) ⟨w5.heap.size, 0, none⟩ 1 1 [.bool m5, .slice f1 l1 j1, .slice f2 l2 j2] rfl rfl (cell_three_new _ _ _ _ _) (by simp [Value.oneCell']) (by unfold maxLen; omega) (by omega) (by simp; omega) ?_
    intro v' w6 hown' hgrow _
    obtain ⟨av, cv, rfl⟩ := ownT_slice hown'
    have hk6 : Kept r wr w6 := (hk5.alloc _).grown hgrow hrv
    refine hK.out _ _ (fun _ => mkS _ hk6) (fun hHeld2 => ?mb9)
    clear hK K hHeld
    have hHeld := hHeld2 (by decide)
    clear hHeld2
    try simp only [Act.put, nD, nE, nF]
    refine wpAnyL_take (i := 10) (v := ?va10) rfl (by kernel_rfl) (by kernel_rfl) (by kernel_rfl) (by kernel_rfl) (fun _ _ _ h => h) (Or.inl ⟨by rfl, ?ha10⟩) (by assumption) ?ra10
    case ha10 =>
     intro w hSw
     try dsimp only at hSw
     go_simp
     try with_reducible rfl
    try simp only [Act.put, nD, nE, nF]
    have R26 := r2.kept hk6 n2
    have f21 := R26.free 1
    have d21 := R26.cell 1
    refine wpAnyL_one (i := 11) (by kernel_rfl) rfl (fun K hK => ?sb11)
    go_simp
    refine hK.out _ _ (fun h => absurd rfl h) (fun _ => ?mb11)
    clear hK K
    try simp only [Act.put, nD, nE, nF]
    refine wpAnyL_done (by kernel_rfl) ?_ _
    go_wp2
    go_roundw
    case rel =>
     have hx5 : ResR w.heap.size w5 (E3.agg ⟨.bool m5, .slice f1 l1 j1, .slice f2 l2 j2⟩) q.rat (5 * n + 1) := Q5.out.mono (by show w.heap.size ≤ wr.heap.size; exact hsz)
     obtain ⟨hrow6, hb6⟩ := pushE (P := fun W v x => ResR w.heap.size W v x (5 * n + 1)) (e := ⟨.bool m5, .slice f1 l1 j1, .slice f2 l2 j2⟩) hB5 hsz5 hown5 hall5 hx5 (fun u y h => ResR.apart hown5 hgrow (by decide) h) hown' hgrow
     rw [hle] at hrow6
     have r06 := r0.kept hk6 n0
     have r16 := r1.kept hk6 n1
     have r36 : ResS w.heap.size w6 (.slice a3 s.length c3) s := ResS.apart hown5 hgrow (by decide) (r3.later hb5w)
     refine ⟨k + 1, _, by go_num, by omega, r06.far (by show w.heap.size ≠ g; omega) _, r16.far (by show w.heap.size + 1 ≠ g; omega) _, R26.set21 _, r36.far R26 (by decide) (kept1 _), ?_, hb6.setCell (by show w.heap.size ≤ g; omega) _⟩
     rw [take_mapQ hqk]
     exact hrow6.far R26 (by decide) (kept1 _) (fun u y h => h.far R26 (by decide) (kept1 _))
    case measure => simp [intOf]; omega
  · obtain rfl : k = qs.length := by omega
    have hltI : ¬ (qs.length : Int) < (qs.length : Int) := by omega
    rw [List.take_length] at hall
    obtain ⟨av, cv, rfl⟩ := ownT_slice hown
    have hel : es.length = qs.length := hle
    rw [hel] at r2 hown
    have c20 := r2.cell 0
    have d21 := r2.cell 1
    have f10 := r1.free 0
    have f11 := r1.free 1
    have g10 := r1.cell 0
    have g11 := r1.cell 1
    have R1s := r1.set2 (.slice a3 s.length c3) (.slice av qs.length cv)
    obtain ⟨z0, z1, _, _⟩ := R1s.two
    have HOWN := Lib.hid hown
    have HALL := Lib.hid hall
    have HR1 := Lib.hid r1
    clear hown hall hle R1s r1
    go_wp2
    refine bodyPost_ret (v := .agg #[.slice a3 s.length c3, .slice av qs.length cv]) (by simp [results, Tryz.results18, go_sem, z0, z1]) rfl ⟨_, _, _, _, rfl, ?_, ?_, below_set2 hb (by omega) _ _⟩
    · exact r3.far HR1.out (by decide) (kept2 _ _)
    · exact RowO.far ⟨es, HOWN.out, HALL.out⟩ HR1.out (by decide) (kept2 _ _) (fun u y h => h.far HR1.out (by decide) (kept2 _ _))
end
section
open Go.RowKit Go.ChangeShapes Go.WideShapes Go.ChangeAt Go.Joins Go.Deep
theorem laid8 : laidOutB Tryz.prog = true := by kernel_rfl
theorem bytesInt8 : Tryz.prog.bytesOf 3 = 8 := by kernel_rfl
theorem open_intsW {H : Type} {enc : TypeId × Value → H} {W : World} {v : Value} {y : DataW H × List MemPlace} {fuel : Nat} {T : TypeId} (hT : Tryz.prog.underlying T = some (.slice 3))
 (hf : DataW.trod enc Tryz.prog W 0 (fun _ => true) true fuel T [v] = some y) : ∃ ad xs cap, v = .slice ad xs.length cap ∧ ArgS W (.slice ad xs.length cap) xs ad cap ∧ (xs.length = 0 ∨ xs.length * 8 ∈ DataW.weights Tryz.prog T y.1 ∨ ∃ m, xs.length ≤ m ∧ m * 8 ∈ DataW.weights Tryz.prog T y.1) ∧ (ad = none → cap = 0) := by
 rcases open_ints hT Tryz.underlying3 cellsInt7 hf with ⟨hcs, hx⟩ | ⟨a, n, cap, zs, hcs, _, hl, hm, hz, hx, hcell, hwz⟩
 · simp only [List.cons.injEq, and_true] at hcs
   subst hcs
   exact ⟨none, [], 0, rfl, ⟨rfl, .inl rfl, Nat.le_refl _, Wid.nil⟩, .inl rfl, fun _ => rfl⟩
 · simp only [List.cons.injEq, and_true] at hcs
   subst hcs
   subst hx
   simp only [if_true] at hz
   have hlen : (zs.take n).length = n := by rw [List.length_take]; omega
   refine ⟨some a, zs.take n, cap, by rw [hlen], ⟨rfl, ?_, by rw [hlen]; exact hl, fun x hx => wf_int7 (hwz x (List.mem_of_mem_take hx))⟩, .inr (.inr ⟨(lits .i64 (zs.take n) : List (DataW H)).length + (lits .i64 (zs.drop n) : List (DataW H)).length, by simp [lits], by simp [DataW.weights, hT, bytesInt8]⟩), fun e => by cases e⟩
   by_cases h0 : n = 0
   · exact .inl (by simp [h0])
   · obtain ⟨b, off, rfl, hc⟩ := ints_at hcell (by omega)
     refine .inr ⟨b, off, rfl, fun i hi => ?_⟩
     rw [hlen] at hi
     rw [hc i (by omega)]
     simp [hi]
theorem open_tensorW {H : Type} {enc : TypeId × Value → H} {W : World} {v : Value} {d : DataW H} {p : List MemPlace} {base : Nat}
 (hval : Value.okWide Tryz.prog W .any base 26 v) (h : DataW.Trod enc Tryz.prog W 0 (fun _ => true) true 26 v d p) (hk : ∀ n ∈ DataW.weights Tryz.prog 26 d, n ≤ reachBytes) :
 ∃ (s : List Int) (qs : List Q3) (a b : Option Addr) (ca cb : Nat), TensQ W v s qs a ca b cb ∧ s.length ≤ 17592186043904 := by
 obtain ⟨v0, v1, y0, y1, n, rfl, rfl, rfl, h0, h1⟩ := open_agg2 Tryz.underlying26 (by kernel_rfl) cellsTensor hval h
 obtain ⟨a, s, ca, rfl, A, l1, n1⟩ := open_intsW Tryz.underlying23 h0
 obtain ⟨b, qs, cb, rfl, B, n2, l2⟩ := open_rats h1
 refine ⟨s, qs, a, b, ca, cb, ⟨rfl, A, n1, B, n2⟩, ?_⟩
 have hin : ∀ m, m ∈ DataW.weights Tryz.prog 23 y0.1 → m ≤ 140737488351232 := fun m hm => by
  refine Nat.le_trans (hk m ?_) (by decide)
  simp only [DataW.weights, Tryz.underlying26]
  exact DataW.weights_mem_each (j := 0) rfl rfl m hm
 rcases l1 with l1 | l1 | ⟨m, l1, l2⟩
 · omega
 · have := hin _ l1; omega
 · have := hin _ l2; omega
end
end Go.Proofs.YtengpgodmbfmkaaGreat
