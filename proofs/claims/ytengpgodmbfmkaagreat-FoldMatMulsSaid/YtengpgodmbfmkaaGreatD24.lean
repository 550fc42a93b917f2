/-
  Package move as it landed: layers. (Made by wip/gen/gen_mconc.py.)
-/
import Derived.Test.YtengpgodmbfmkaaGreatD20
import Derived.Test.YtengpgodmbfmkaaGreatD21
import Derived.Test.YtengpgodmbfmkaaGreatD22
namespace Go.Proofs.YtengpgodmbfmkaaGreat
set_option linter.unusedVariables false
set_option linter.unusedSimpArgs false
set_option maxRecDepth 100000
set_option maxHeartbeats 40000000
section
open Go.RowKit Go.ChangeShapes Go.WideShapes Go.ChangeAt Go.Joins Go.Deep
theorem afterSet2 {K : World → Prop} {V : World} {g : Nat} {t : TypeId} {a b x y : Value} (R : Row V g t #[a, b]) (h : ∀ X, Only g V X → Row X g t #[x, y] → K X) :
 K ((V.setCell ⟨g, 0, none⟩ x).setCell ⟨g, 1, none⟩ y) :=
 h _ ((Only.set V g 0 x).trans (Only.set _ g 1 y)) (R.set2 x y)
def DotQ (base : Nat) (w : World) (r : Value) (x : Rat) (n : Nat) (c : Int) : Prop := (c = 0 → ResQ base w r x n) ∧ (c ≠ 0 → r = noRat)
theorem DotQ.later {base n : Nat} {w w' : World} {r : Value} {x : Rat} {c : Int} (h : DotQ base w r x n c) (hb : Below w.heap.size w w') : DotQ base w' r x n c := ⟨fun k => (h.1 k).later hb, h.2⟩
theorem DotQ.shape {base n : Nat} {w : World} {r : Value} {x : Rat} {c : Int} (h : DotQ base w r x n c) : ∃ m f1 l1 j1 f2 l2 j2, r = .agg #[.bool m, .slice f1 l1 j1, .slice f2 l2 j2] ∧ (c ≠ 0 → l1 = 0 ∧ l2 = 0) := by
 by_cases hc : c = 0
 · obtain ⟨m, a, b, d, e, f, g, rfl⟩ := (h.1 hc).shape
   exact ⟨m, a, b, d, e, f, g, rfl, fun k => absurd hc k⟩
 · exact ⟨_, _, _, _, _, _, _, h.2 hc, fun _ => ⟨rfl, rfl⟩⟩
def TenC (base : Nat) (w : World) (r : Value) (s : List Int) (L : List Rat) (n : Nat) (c : Int) : Prop := (c = 0 → ResT base w r s L n) ∧ (c ≠ 0 → r = noTensor)
theorem TenC.later {base n : Nat} {w w' : World} {r : Value} {s : List Int} {L : List Rat} {c : Int} (h : TenC base w r s L n c) (hb : Below w.heap.size w w') : TenC base w' r s L n c := ⟨fun k => (h.1 k).later hb, h.2⟩
theorem TenC.shape {base n : Nat} {w : World} {r : Value} {s : List Int} {L : List Rat} {c : Int} (h : TenC base w r s L n c) : ∃ f1 l1 j1 f2 l2 j2, r = .agg #[.slice f1 l1 j1, .slice f2 l2 j2] ∧ (c ≠ 0 → l1 = 0 ∧ l2 = 0) := by
 by_cases hc : c = 0
 · obtain ⟨a, b, d, e, rfl, _, _⟩ := h.1 hc
   exact ⟨_, _, _, _, _, _, rfl, fun k => absurd hc k⟩
 · exact ⟨_, _, _, _, _, _, h.2 hc, fun _ => ⟨rfl, rfl⟩⟩
end
section
open Go.RowKit
theorem each_any {N F : Nat} {cap : Array Value} {f : Rat → Rat} {w : World} {v : Value} {s : List Int} {qs : List Q3} {a b : Option Addr} {ca cb : Nat} (T : TensQ w v s qs a ca b cb) (hs : s.length ≤ 17592186044416) (hq : qs.length ≤ 1000000)
 (heF : ∀ args w, (callFunc F args).run Tryz.prog w = .ok (.enter F args) w)
 (hdo : ∀ (W : World) (x : Value) (q : Q3), q ∈ qs → Below w.heap.size w W → RawQ W x q → Calls Tryz.prog F (#[x] ++ cap) W fun e w' => ∃ r, e = .returned r ∧ ResQ W.heap.size w' r (f q.rat) N ∧ Below W.heap.size W w') :
 Calls Tryz.prog 139 #[v, .func (.func F) #[] cap] w fun e w' => ∃ r, e = .returned r ∧ ResT w.heap.size w' r s (qs.map fun q => f q.rat) N ∧ Below w.heap.size w w' := by
 obtain ⟨i0, hi, hz0, hz1, hz2⟩ := info_parts infoQ
 have HT := Lib.hid T
 have HDO := Lib.hid hdo
 obtain rfl := T.is
 obtain ⟨W, hW⟩ : ∃ W, ((w.alloc (.cells #[.slice a s.length ca, .slice b qs.length cb] 26)).alloc (.cells #[.slice none 0 0, .slice none 0 0] 26)) = W := ⟨_, rfl⟩
 have R0 : Row W w.heap.size 26 #[.slice a s.length ca, .slice b qs.length cb] := by rw [← hW]; exact (Row.new _ _ _).alloc _
 have R1 : Row W (w.heap.size + 1) 26 #[.slice none 0 0, .slice none 0 0] := by rw [← hW]; have h := (Row.new (w.alloc (.cells #[.slice a s.length ca, .slice b qs.length cb] 26)) 26 #[.slice none 0 0, .slice none 0 0]); simp only [World.size_alloc] at h; exact h
 have hBW : Below w.heap.size w W := by rw [← hW]; exact ((Below.refl _ _).alloc (by simp) _).alloc (by simp) _
 have hsW : W.heap.size = w.heap.size + 1 + 1 := by rw [← hW]; simp
 have HSW := Lib.hid hsW
 have hmk := make_rowP qs.length (by omega)
 obtain ⟨p0, p1, _, _⟩ := R0.two
 obtain ⟨k0, k1, _, _⟩ := (R0.alloc (.cells (madeCells #[.bool false, .slice none 0 0, .slice none 0 0] (qs.length * 3)) 54)).two
 clear T hdo hsW
 go_enter Tryz.func139, Tryz.ntmps139
 (try rw [hW])
 go_wp2_with fail
 obtain ⟨V, hV⟩ : ∃ V, W.alloc (.cells (madeCells #[.bool false, .slice none 0 0, .slice none 0 0] (qs.length * 3)) 54) = V := ⟨_, rfl⟩
 have r0 : Row V w.heap.size 26 #[.slice a s.length ca, .slice b qs.length cb] := by rw [← hV]; exact R0.alloc _
 have r1 : Row V (w.heap.size + 1) 26 #[.slice none 0 0, .slice none 0 0] := by rw [← hV]; exact R1.alloc _
 have r2 : OwnE w.heap.size 54 V (.slice (some ⟨w.heap.size + 1 + 1, 0, none⟩) 0 qs.length) [] := by
  rw [← hV, ← HSW.out]
  exact (show OwnE W.heap.size 54 _ (.slice (some ⟨W.heap.size, 0, none⟩) 0 qs.length) [] from World.ownsRow_made W _ qs.length (Nat.le_refl _) (by unfold maxLen; omega) (madeP_len _ _)).mono (by rw [HSW.out]; omega)
 have hBV : Below w.heap.size w V := by rw [← hV]; exact hBW.alloc (by rw [HSW.out]; omega) _
 (try rw [HSW.out])
 (try rw [hV])
 have H0 := Lib.hid r0
 have H1 := Lib.hid r1
 have H2 := Lib.hid r2
 have HB := Lib.hid hBV
 clear r0 r1 r2 hBV hmk R0 R1 hBW p0 p1 hV hW
 clear k0 k1
 go_loopw [5, 7, 15] (fun v _ i wr => ∃ (k : Nat), i = .int .i64 (k : Int) ∧ k ≤ qs.length ∧ Row wr w.heap.size 26 #[.slice a s.length ca, .slice b qs.length cb] ∧ Row wr (w.heap.size + 1) 26 #[.slice none 0 0, .slice none 0 0] ∧
  RowO w.heap.size 54 (fun W v x => ResQ w.heap.size W v x N) wr v ((qs.take k).map fun q => f q.rat) ∧ Below w.heap.size w wr) (fun _ _ i _ => qs.length - (intOf i).toNat)
 case atStart => exact ⟨0, rfl, Nat.zero_le _, H0.out, H1.out, ⟨[], H2.out, AllE.nil _⟩, HB.out⟩
 case round =>
  obtain ⟨k, rfl, hk, r0, r1, ⟨es, hown, hall⟩, hb⟩ := hrel
  have hsz := hb.size
  obtain ⟨av, cv, rfl⟩ := ownT_slice hown
  have hle : es.length = k := by rw [hall.1]; simp [hk]
  subst hle
  by_cases hlt : es.length < qs.length
  · obtain ⟨bb, o, x0, x1, x2, q, hbo, hqk, e0, e1, e2, hraw⟩ := (HT.out.el.later hb (fun v x _ k => k.later hb)).at hlt
    have hmem := List.mem_of_getElem? hqk
    subst hbo
    obtain ⟨u1, u2, j1, j2, hraw', _⟩ := id hraw
    simp only [Value.agg.injEq, Array.mk.injEq, List.cons.injEq, and_true] at hraw'
    obtain ⟨rfl, rfl, rfl⟩ := hraw'
    have hltI : (es.length : Int) < (qs.length : Int) := by omega
    obtain ⟨V1, hV1⟩ : ∃ V1, wr.alloc (.cells #[.bool q.neg, .slice u1 q.num.length j1, .slice u2 q.den.length j2] 54) = V1 := ⟨_, rfl⟩
    have P1 : Row V1 wr.heap.size 54 #[.bool q.neg, .slice u1 q.num.length j1, .slice u2 q.den.length j2] := by rw [← hV1]; exact Row.new _ _ _
    have b1 : Below wr.heap.size wr V1 := by rw [← hV1]; exact (Below.refl _ _).alloc (Nat.le_refl _) _
    obtain ⟨d0, d1, d2, _, _, _⟩ := P1.three
    have hraw1 := hraw.later b1
    have hB1 : Below w.heap.size w V1 := hb.trans (b1.mono hsz)
    have hcall := HDO.out V1 _ q hmem hB1 hraw1
    have HRAW := Lib.hid hraw
    have HRAW1 := Lib.hid hraw1
    clear hraw hraw1
    go_wp2_with fail
    (try rw [hV1])
    refine hcall.mono ?_
    rintro e w5 ⟨rv, rfl, qv, hb5⟩
    have Q5 := Lib.hid qv
    obtain ⟨m5, f1, l1, i1, f2, l2, i2, rfl⟩ := qv.shape
    clear qv
    have hb5w : Below wr.heap.size wr w5 := b1.trans (hb5.mono b1.size)
    have hown5 : OwnE w.heap.size 54 w5 (.slice av es.length cv) es := hown.later hb5w
    have hall5 : AllE (fun v x => ResQ w.heap.size w5 v x N) es ((qs.take es.length).map fun q => f q.rat) := hall.imp fun u x _ h => h.later hb5w
    have hB5 : Below w.heap.size w w5 := hb.trans (hb5w.mono hsz)
    have hsz5 := hB5.size
    obtain ⟨r, hrv, hrb, hrne⟩ := hown.hits hsz
    have n0 := hrne _ _ _ r0 (by decide)
    have n1 := hrne _ _ _ r1 (by decide)
    have hk5 : Kept r wr w5 := (Kept.refl r wr).below hb5w
    have hx5 : ResQ w.heap.size w5 (E3.agg ⟨.bool m5, .slice f1 l1 i1, .slice f2 l2 i2⟩) (f q.rat) N := Q5.out.mono hB1.size
    have HALL := Lib.hid hall5
    clear hall hall5 hown
    go_wp2_with (at_builtin; refine wpList_append_own _ rfl _ _ 24 rfl w.heap.size 54 i0 _ 3 56 Tryz.underlying24 hi hz0 hz1 hz2 rfl (by decide) _ es.length (flat3 es) rfl (hown5.later ((Below.refl _ _).alloc (Nat.le_refl _) _)) ⟨w5.heap.size, 0, none⟩ 1 1 [.bool m5, .slice f1 l1 i1, .slice f2 l2 i2] rfl rfl (cell_three_new _ _ _ _ _) (by simp [Value.oneCell']) (by unfold maxLen; omega) (by omega) (by simp; omega) ?_)
    intro v' w6 hown' hgrow _
    obtain ⟨av', cv', rfl⟩ := ownT_slice hown'
    have hk6 : Kept r wr w6 := (hk5.alloc _).grown hgrow hrv
    go_wp2
    go_roundw
    case rel =>
     obtain ⟨hrow6, hb6⟩ := pushE (P := fun W v x => ResQ w.heap.size W v x N) (e := ⟨.bool m5, .slice f1 l1 i1, .slice f2 l2 i2⟩) hB5 hsz5 hown5 HALL.out hx5 (fun u y h => ResQ.apart hown5 hgrow (by decide) h) hown' hgrow
     refine ⟨es.length + 1, by go_num, by omega, r0.kept hk6 n0, r1.kept hk6 n1, ?_, hb6⟩
     rw [take_nextL hqk, List.map_append]
     exact hrow6
    case measure => simp [intOf]; omega
  · have hkl : es.length = qs.length := by omega
    have hltI : ¬ (es.length : Int) < (qs.length : Int) := by omega
    have hT := HT.out.later hb
    have hown' : OwnE w.heap.size 54 wr (.slice av es.length cv) es := hown
    have hrow : RowO w.heap.size 54 (fun W v x => ResQ w.heap.size W v x N) wr (.slice av es.length cv) (qs.map fun q => f q.rat) := ⟨es, hown, by rw [hkl, List.take_length] at hall; exact hall⟩
    have HROW := Lib.hid hrow
    have HKL := Lib.hid hkl
    obtain ⟨d0, d1, _, _⟩ := r0.two
    have hsh := shaped_any (b := av) (n := es.length) (cb := cv) hT.sh HT.out.nila hs
    have HR1 := Lib.hid r1
    clear hown hall hkl hrow hlt hown' r1
    go_wp2_with fail
    refine hsh.mono ?_
    rintro e w7 ⟨a', ca', rfl, R7, hb7⟩
    have P7 := HR1.out.later hb7
    have hs7 := hb7.size
    obtain ⟨u0, u1, g0, g1⟩ := P7.two
    go_wp2_with fail
    have P8 := P7.set2 (.slice a' s.length ca') (.slice av es.length cv)
    obtain ⟨z0, z1, _, _⟩ := P8.two
    refine bodyPost_ret (v := .agg #[.slice a' s.length ca', .slice av es.length cv]) (by simp [results, Tryz.results139, go_sem, z0, z1]) rfl ⟨_, rfl, ⟨a', av, ca', cv, by rw [List.length_map, HKL.out], (R7.mono hsz).far P7 (by decide) (kept2 _ _), ?_⟩, below_set2 (hb.trans (hb7.mono hsz)) (by omega) _ _⟩
    rw [List.length_map, ← HKL.out]
    exact RowO.far (HROW.out.later hb7 (fun v x h => h.later hb7)) P7 (by decide) (kept2 _ _) (fun u y h => h.far P7 (by decide) (kept2 _ _))
end
section
open Go.RowKit
def AnsM (base : Nat) (w : World) (r : Value) (c : Int) (s : List Int) (L : List Rat) (N : Nat) : Prop := (c = 0 ∧ ResT base w r s L N) ∨ (c ≠ 0 ∧ r = noTensor)
theorem AnsM.later {base N : Nat} {w w' : World} {r : Value} {c : Int} {s : List Int} {L : List Rat} (h : AnsM base w r c s L N) (hb : Below w.heap.size w w') : AnsM base w' r c s L N := h.imp (fun h => ⟨h.1, h.2.later hb⟩) id
end
section
open Go.RowKit
def sumD (a : Nat) : List X2 → Int
 | [] => 0
 | x :: l => x.s.getD a 0 + sumD a l
def joS (a : Nat) (xs : List X2) : List Int := ((xs.head?.map X2.s).getD []).set a (sumD a xs)
end
section
open Go.RowKit
def firstS (xs : List X2) : List Int := (xs.head?.map X2.s).getD []
end
section
open Go.RowKit
def layL (a : Nat) (xs : List X2) : List (X2 × Int) := xs.flatMap fun x => (List.range (x.s.getD a 0).toNat).map fun n : Nat => (x, (n : Int))
theorem layL_len {a : Nat} {l : List X2} (h : ∀ x ∈ l, 0 ≤ x.s.getD a 0) : ((layL a l).length : Int) = sumD a l := by
 induction l with
 | nil => rfl
 | cons x l ih =>
  have h1 := ih fun y hy => h y (List.mem_cons_of_mem _ hy)
  have h2 := h x List.mem_cons_self
  have e : layL a (x :: l) = ((List.range (x.s.getD a 0).toNat).map fun n : Nat => (x, (n : Int))) ++ layL a l := by unfold layL; rw [List.flatMap_cons]
  rw [e, List.length_append, List.length_map, List.length_range]
  simp only [sumD]
  omega
theorem layL_mem {a : Nat} {l : List X2} {x : X2} {n : Int} (h : (x, n) ∈ layL a l) : x ∈ l ∧ 0 ≤ n ∧ n < x.s.getD a 0 := by
 obtain ⟨y, hy, hm⟩ := List.mem_flatMap.1 h
 obtain ⟨k, hk, e⟩ := List.mem_map.1 hm
 have := List.mem_range.1 hk
 simp only [Prod.mk.injEq] at e
 obtain ⟨rfl, rfl⟩ := e
 exact ⟨hy, by omega, by omega⟩
def LayP (w : World) (v : Value) (l : X2 × Int) : Prop := ∃ (a e : Option Addr) (ca ce : Nat), v = .agg #[.slice a l.1.s.length ca, .slice e l.1.q.length ce, .int .i64 l.2] ∧ TensQ w (.agg #[.slice a l.1.s.length ca, .slice e l.1.q.length ce]) l.1.s l.1.q a ca e ce
theorem LayP.later {w w' : World} {v : Value} {l : X2 × Int} (h : LayP w v l) (hb : Below w.heap.size w w') : LayP w' v l := by
 obtain ⟨a, e, ca, ce, hv, T⟩ := h
 exact ⟨a, e, ca, ce, hv, T.later hb⟩
end
section
open Go.RowKit
theorem FillB.skip {s xs zs : List Int} {k r : Nat} (h : FillB s xs zs k r) (e : xs.getD (k + r) 0 % s.getD r 0 = xs.getD (k + r) 0) : FillB s xs zs k (r + 1) := by
 obtain ⟨h1, h2, h3⟩ := h
 refine ⟨h1, fun i hi => ?_, fun i hi => h3 i (by omega)⟩
 by_cases g : i = r
 · subst g
   rw [e]
   exact h3 _ (Nat.le_refl _)
 · exact h2 i (by omega)
end
end Go.Proofs.YtengpgodmbfmkaaGreat
