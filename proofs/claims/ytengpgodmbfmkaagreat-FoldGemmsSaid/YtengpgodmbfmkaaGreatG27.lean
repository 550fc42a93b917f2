/-
  Part 27 of 39: contracts and what they rest on (TDef, TMade).
-/
import Derived.Test.YtengpgodmbfmkaaGreatG21
import Derived.Test.YtengpgodmbfmkaaGreatG24
namespace Go.Proofs.YtengpgodmbfmkaaGreat
set_option linter.unusedVariables false
set_option linter.unusedSimpArgs false
set_option maxRecDepth 100000
set_option maxHeartbeats 40000000
section
open Go.RowKit
def lensQ (qs : List Q3) (n : Nat) : Prop := ∀ q ∈ qs, q.num.length ≤ n ∧ q.den.length ≤ n
def makeC (s : List Int) (n : Nat) : Int := if mayC s ≠ 0 then mayC s else if (n : Int) ≠ countS s then 13 else 0
def ResC (base : Nat) (w : World) (v : Value) (s : List Int) (qs : List Q3) : Prop :=
 ∃ (a b : Option Addr) (ca cb : Nat), v = .agg #[.slice a s.length ca, .slice b qs.length cb] ∧ ResS base w (.slice a s.length ca) s ∧ RowO base 54 (RawO base) w (.slice b qs.length cb) qs
def noTensor : Value := .agg #[.slice none 0 0, .slice none 0 0]
theorem ResQ.raw {base n : Nat} {w : World} {v : Value} {x : Rat} (h : ResQ base w v x n) : ∃ q : Q3, RawQ w v q ∧ q.rat = x ∧ q.num.length ≤ n ∧ q.den.length ≤ n ∧ okQ q = true := by
 obtain ⟨zs, ys, ad, bd, ca, cb, rfl, A, B, l1, l2⟩ := h
 have e : (Q3.mk (decide (x.num < 0)) zs ys).rat = x := by unfold Q3.rat; rw [A.eq, B.eq, ratOf_self]
 refine ⟨⟨decide (x.num < 0), zs, ys⟩, ⟨ad, bd, ca, cb, rfl, A.at_.2, B.at_.2, (Num.at_ A.num A.wf).2.2, (Num.at_ B.num B.wf).2.2⟩, e, l1, l2, ?_⟩
 unfold okQ validB isB
 rw [e]
 simp only [Bool.and_eq_true, decide_eq_true_eq, beq_iff_eq]
 exact ⟨by simp, ⟨A.full, A.eq⟩, B.full, B.eq⟩
theorem ResT.tens {base m : Nat} {w : World} {v : Value} {s : List Int} {L : List Rat} (h : ResT base w v s L m) : ∃ (qs : List Q3) (a b : Option Addr) (ca cb : Nat), TensQ w v s qs a ca b cb ∧ qs.map Q3.rat = L ∧ lensQ qs m ∧ ∀ q ∈ qs, okQ q = true := by
 obtain ⟨a, b, ca, cb, rfl, h1, h2⟩ := h
 obtain ⟨_, A, na⟩ := h1.at_
 obtain ⟨_, B, nb⟩ := h2.at_
 rcases B.els with e | ⟨bb, o, es, e, hc, hall⟩
 · subst e
   exact ⟨[], a, b, ca, cb, ⟨rfl, A, na, ⟨rfl, B.le, .inl rfl⟩, nb⟩, rfl, (fun q hq => by cases hq), fun q hq => by cases hq⟩
 · have hch : ∀ i, ∃ q : Q3, i < L.length → ∀ d x, es[i]? = some d → L[i]? = some x → RawQ w d.agg q ∧ q.rat = x ∧ q.num.length ≤ m ∧ q.den.length ≤ m ∧ okQ q = true := fun i => by
    by_cases hi : i < L.length
    · obtain ⟨d, x, g1, g2, g3⟩ := hall.at hi
      obtain ⟨q, k1, k2, k3, k4, k5⟩ := ResQ.raw g3
      refine ⟨q, fun _ d' x' e1 e2 => ?_⟩
      rw [g1] at e1
      rw [g2] at e2
      cases e1
      cases e2
      exact ⟨k1, k2, k3, k4, k5⟩
    · exact ⟨⟨false, [], []⟩, fun h => absurd h hi⟩
   obtain ⟨F, hF⟩ := Classical.axiomOfChoice hch
   have hl : ((List.range L.length).map F).length = L.length := by simp
   have hat : ∀ i q, ((List.range L.length).map F)[i]? = some q → i < L.length ∧ q = F i := fun i q hq => by
    have hlt : i < L.length := by
     rcases Nat.lt_or_ge i L.length with g | g
     · exact g
     · rw [List.getElem?_eq_none (by simpa using g)] at hq; cases hq
    rw [List.getElem?_map, List.getElem?_range hlt] at hq
    simp only [Option.map_some, Option.some.injEq] at hq
    exact ⟨hlt, hq.symm⟩
   refine ⟨(List.range L.length).map F, a, b, ca, cb, ⟨by rw [hl], A, na, ⟨rfl, by rw [hl]; exact B.le, .inr ⟨bb, o, es, e, hc, by rw [hl]; exact hall.1, fun i d q h1 hq => ?_⟩⟩, nb⟩, ?_, fun q hq => ?_, fun q hq => ?_⟩
   · obtain ⟨hlt, rfl⟩ := hat i q hq
     obtain ⟨d', x, g1, g2, _⟩ := hall.at hlt
     rw [h1] at g1
     cases g1
     exact (hF i hlt d x h1 g2).1
   · apply List.ext_getElem?
     intro i
     by_cases hlt : i < L.length
     · obtain ⟨d, x, g1, g2, _⟩ := hall.at hlt
       rw [List.getElem?_map, List.getElem?_map, List.getElem?_range hlt, g2]
       simp only [Option.map_some]
       rw [(hF i hlt d x g1 g2).2.1]
     · rw [List.getElem?_eq_none (by simpa using hlt), List.getElem?_eq_none (by omega)]
   · obtain ⟨i, hi, rfl⟩ := List.mem_iff_getElem.1 hq
     obtain ⟨hlt, he⟩ := hat i _ (List.getElem?_eq_getElem hi)
     obtain ⟨d, x, g1, g2, _⟩ := hall.at hlt
     rw [he]
     exact ⟨(hF i hlt d x g1 g2).2.2.1, (hF i hlt d x g1 g2).2.2.2.1⟩
   · obtain ⟨i, hi, rfl⟩ := List.mem_iff_getElem.1 hq
     obtain ⟨hlt, he⟩ := hat i _ (List.getElem?_eq_getElem hi)
     obtain ⟨d, x, g1, g2, _⟩ := hall.at hlt
     rw [he]
     exact (hF i hlt d x g1 g2).2.2.2.2
end
section
open Go.RowKit Go.Shelf
attribute [local go_sem] Oper.semAt_some
theorem infoQ7 : (Tryz.prog.info? 54).map (fun i => (i.zero, i.size, i.bytes)) = some (some (.agg #[.bool false, .slice none 0 0, .slice none 0 0]), 3, 56) := by kernel_rfl
theorem make_rowQ (m : Nat) (hc : m ≤ 1000000000000) (w : World) :
 (Instr.makeSlice 96 (.int .i64 0) (.int .i64 (m : Int))).run Tryz.prog w = .ok (.slice (some ⟨w.heap.size, 0, none⟩) 0 m) (w.alloc (.cells (madeCells #[.bool false, .slice none 0 0, .slice none 0 0] (m * 3)) 54)) := by
 obtain ⟨i0, hi, hz0, hz1, hz2⟩ := info_parts infoQ7
 have h := run_make (P := Tryz.prog) w 96 54 i0 (.agg #[.bool false, .slice none 0 0, .slice none 0 0]) Tryz.underlying96 hi hz0 .i64 .i64 0 m (by omega) (by omega) (by rw [hz2]; omega) (by omega)
 simpa [hz1, Value.cells] using h
theorem make_rowU (m : Nat) (hc : m ≤ 35184372088832) (w : World) :
 (Instr.makeSlice 194 (.int .i64 0) (.int .i64 (m : Int))).run Tryz.prog w = .ok (.slice (some ⟨w.heap.size, 0, none⟩) 0 m) (w.alloc (.cells (madeCells #[.int .u32 0] m) 144)) := by
 obtain ⟨i0, hi, hz0, hz1, hz2⟩ := info_parts infoLimb
 have h := run_make (P := Tryz.prog) w 194 144 i0 (.int .u32 0) Tryz.underlying194 hi hz0 .i64 .i64 0 m (by omega) (by omega) (by rw [hz2]; omega) (by omega)
 simpa [hz1, Value.cells] using h
theorem make_rowI (m : Nat) (hc : m ≤ 17592186044416) (w : World) :
 (Instr.makeSlice 192 (.int .i64 0) (.int .i64 (m : Int))).run Tryz.prog w = .ok (.slice (some ⟨w.heap.size, 0, none⟩) 0 m) (w.alloc (.cells (madeCells #[.int .i64 0] m) 3)) := by
 obtain ⟨i0, hi, hz0, hz1, hz2⟩ := info_parts infoS
 have h := run_make (P := Tryz.prog) w 192 3 i0 (.int .i64 0) Tryz.underlying192 hi hz0 .i64 .i64 0 m (by omega) (by omega) (by rw [hz2]; omega) (by omega)
 simpa [hz1, Value.cells] using h
theorem keptBelow {r B : Nat} {X Y : World} (h : Kept r X Y) (hb : B ≤ r) (hs : B ≤ X.heap.size) : Below B X Y :=
 ⟨h.os, h.tape, h.output, h.size, fun k hk => h.block k (by omega) (by omega)⟩
theorem madeCells_len (z : Array Value) (m : Nat) : (madeCells z m).size = m := by
 simp [madeCells]
theorem copiedU1_any (x : Int) (w : World) : Calls Tryz.prog 178 #[.int .u32 x] w fun e w' => e = .returned (.int .u32 x) ∧ Below w.heap.size w w' := by
 go_enter Tryz.func178, Tryz.ntmps178
 go_wp2
 go_ret
 exact ⟨rfl, Below.refl _ _⟩
theorem cell_oneU (w : World) (a : Value) (t : TypeId) : ∀ j u, [a][j]? = some u → (w.alloc (.cells #[a] t)).cell? ((⟨w.heap.size, 0, none⟩ : Addr).add j) = some u := by
 intro j u hj
 match j, hj with
 | 0, hj => simp at hj; subst hj; simp [Addr.add]
 | j + 1, hj => simp at hj
theorem madeU_any {w : World} {ad : Option Addr} {xs : List Int} {cap : Nat} (hlim : Lim w ad xs) (hcap : xs.length ≤ cap) (hm : xs.length ≤ 35184372088832) :
 Calls Tryz.prog 177 #[.slice ad xs.length cap, .func (.func 178) #[] #[]] w fun e w' => ∃ r, e = .returned r ∧ Num w.heap.size w' r xs ∧ Below w.heap.size w w' := by
 obtain ⟨i0, hi, hz0, hz1, hz2⟩ := info_parts infoLimb
 have hmk := make_rowU xs.length (by omega)
 obtain ⟨n', hn'⟩ : ∃ n' : Nat, Hid (3 ≤ n') := ⟨3, Nat.le_refl 3⟩
 refine (callsIn_wide (n := n')).1 ?_
 refine callsIn_of_wp_marks Tryz.func177 rfl trivial ?_ rfl
 simp only [Tryz.ntmps177, List.size_toArray, List.length_cons, List.length_nil, Nat.reduceAdd, Nat.reduceSub, Array.replicate_succ, Array.replicate_zero, List.push_toArray, List.append_toArray, List.nil_append, List.cons_append]
 gi_wp2_with fail
 refine wideCall ((allU_any _ _ _ _).mono ?_)
 rintro e w' ⟨rfl, rfl⟩
 gi_wp2_with fail
 obtain ⟨B, hB⟩ : ∃ B, w.heap.size = B := ⟨_, rfl⟩
 obtain ⟨V1, hV1⟩ : ∃ V1, w.alloc (.cells #[.func (.func 178) #[] #[]] 216) = V1 := ⟨_, rfl⟩
 obtain ⟨V2, hV2⟩ : ∃ V2, V1.alloc (.cells (madeCells #[.int .u32 0] xs.length) 144) = V2 := ⟨_, rfl⟩
 obtain ⟨V3, hV3⟩ : ∃ V3, V2.alloc (.cells #[.slice (some ⟨V1.heap.size, 0, none⟩) 0 xs.length] 194) = V3 := ⟨_, rfl⟩
 obtain ⟨V, hV⟩ : ∃ V, V3.alloc (.cells #[.slice ad xs.length cap] 194) = V := ⟨_, rfl⟩
 have s1 : V1.heap.size = B + 1 := by rw [← hV1, ← hB]; simp
 have s2 : V2.heap.size = B + 1 + 1 := by rw [← hV2, World.size_alloc, s1]
 have s3 : V3.heap.size = B + 1 + 1 + 1 := by rw [← hV3, World.size_alloc, s2]
 have s4 : V.heap.size = B + 1 + 1 + 1 + 1 := by rw [← hV, World.size_alloc, s3]
 have d1 : Boxed V B 216 (.func (.func 178) #[] #[]) := by
  rw [← hV, ← hV3, ← hV2, ← hV1, ← hB]; exact (((Boxed.new _ _ _).alloc _).alloc _).alloc _
 have d2 : Boxed V (B + 1 + 1) 194 (.slice (some ⟨B + 1, 0, none⟩) 0 xs.length) := by
  have h := Boxed.new V2 194 (.slice (some ⟨V1.heap.size, 0, none⟩) 0 xs.length)
  rw [s2, hV3, s1] at h
  rw [← hV]; exact h.alloc _
 have d3 : V.ownsRow B 144 1 (.slice (some ⟨B + 1, 0, none⟩) 0 xs.length) 0 [] := by
  have h : V2.ownsRow B 144 1 (.slice (some ⟨V1.heap.size, 0, none⟩) 0 xs.length) 0 [] := by
   rw [← hV2]
   exact World.ownsRow_made V1 _ xs.length (by omega) (by unfold maxLen; omega) (by rw [madeCells_len, Nat.mul_one])
  rw [← hV, ← hV3, ← s1]; exact (h.alloc _).alloc _
 have d4 : Boxed V (B + 1 + 1 + 1) 194 (.slice ad xs.length cap) := by
  have h := Boxed.new V3 194 (.slice ad xs.length cap)
  rw [s3, hV] at h; exact h
 have d5 : Below B w V := by
  rw [← hV, ← hV3, ← hV2, ← hV1]; exact ((((Below.refl _ w).alloc (by omega) _).alloc (by simp; omega) _).alloc (by simp; omega) _).alloc (by simp; omega) _
 rw [s1] at hV3
 simp only [hB, hV1, hV2, s1, s2, s3, hV3, hV]
 have h3 : 3 ≤ n' := hn'
 clear hV1 hV2 hV3 hV hmk
 have hlt0 : ∀ x, xs ≠ [] → ad = some x → x.block < B := fun x h1 h2 => by rw [← hB]; exact hlim.lt h1 x h2
 refine wpIn_rangeFunc_ownH (F := Fence.wide) (n := n') rfl (by omega) (gf := 196) (lb := #[.pointer (some ⟨B + 1 + 1 + 1, 0, none⟩)]) rfl trivial (enters_of Tryz.func196 (by kernel_rfl) rfl)
  (allU_stops (n' - 1) (B + 1 + 1 + 1) B ad xs cap (by omega) hcap (fun h x hx => hlt0 x h hx) V (by omega) d4.cell (hlim.later (by rw [hB]; exact d5))) belowK_t (belowK_b (by omega)) (Below.refl _ _) (fun _ => rfl)
  (fun (pre : List (Fin xs.length)) X => ∃ v, Boxed X B 216 (.func (.func 178) #[] #[]) ∧ Boxed X (B + 1 + 1) 194 v ∧ X.ownsRow B 144 1 v pre.length (pre.map (fun x => Value.int .u32 (xs[x.val]?.getD 0))) ∧ Below B w X ∧ B + 1 + 1 + 1 + 1 ≤ X.heap.size)
  (fun _ _ _ => False)
  (fun pre X Y row ⟨v, h1, h2, h3, h5, h6⟩ hg hr => by
    have kk := KeepC.grown hg (fun r e => (hr r e).2)
    exact ⟨v, Boxed.keepC h1 kk, Boxed.keepC h2 kk, keepC_row kk h3, h5.grown hg (by have := h5.size; omega) (fun k e => by have := (hr k e).1; omega), Nat.le_trans h6 hg.size⟩)
  (fun _ _ _ _ _ hs _ _ => hs)
  ⟨_, d1, d2, d3, d5, by omega⟩
  (fun (x : Fin xs.length) a' X => a' = { tmps := #[.slice ad xs.length cap, .func (.func 178) #[] #[], undef, .pointer (some ⟨B, 0, none⟩), .slice none 0 0, .pointer (some ⟨B + 1 + 1, 0, none⟩), .int .u32 (xs[x.val]?.getD 0), .slice ad xs.length cap, .int .i64 xs.length,
    .slice (some ⟨B + 1, 0, none⟩) 0 xs.length, .slice ad xs.length cap, .func (.func 196) #[] #[.pointer (some ⟨B + 1 + 1 + 1, 0, none⟩)], .int .u32 (xs[x.val]?.getD 0),
    undef, undef, undef, undef, undef, undef, undef], defers := [] })
  (fun x a' _ X Y row h hg hr => h)
  ?assign ?body ?done ?stop
 case assign =>
  rintro l pre ⟨k, hk⟩ X K hI hK
  obtain ⟨x, hx⟩ : ∃ x, xs[k]?.getD 0 = x := ⟨_, rfl⟩
  have HK := Lib.hid hK
  simp only [limbV, hx]
  clear hK
  gi_wp2
  refine HK.out _ _ (KeepsFrom.refl _ _) (Below.refl _ _) hI ?_
  simp only [hx]
 case body =>
  rintro l pre ⟨k, hk⟩ a' X hl hrec ⟨v, h1, h2, h3, h5, h6⟩ rfl hlt
  obtain ⟨x, hx⟩ : ∃ x, xs[k]?.getD 0 = x := ⟨_, rfl⟩
  simp only [hx]
  obtain ⟨r, hrv, hrb, hrne, hrc, hro⟩ := ownV_hits h3 (by omega)
  have n0 := hrne _ _ _ h1 (by decide)
  have n2 := hrne _ _ _ h2 (by decide)
  have c1 := Boxed.cell h1
  have c2 := Boxed.cell h2
  have mkS : ∀ Y, Kept r X Y → Y.cell? ⟨B + 1 + 1, 0, none⟩ = some v ∧ Y.cell? ⟨B, 0, none⟩ = some (.func (.func 178) #[] #[]) ∧ Kept r X Y := fun Y h =>
   ⟨h.cell c2 n2, h.cell c1 n0, h⟩
  refine wpIn_block ?_
  refine region_roundL (fun Y => Y.cell? ⟨B + 1 + 1, 0, none⟩ = some v ∧ Y.cell? ⟨B, 0, none⟩ = some (.func (.func 178) #[] #[]) ∧ Kept r X Y) 6
   (by kernel_rfl) (by kernel_rfl) (by rintro ⟨a', w', h⟩; exact h) (mkS _ ((Kept.refl r X).drew)) (fun hHeld => ?_)
  refine todo [0, 1, 2] ?_
  iterate 3
   refine todoL (v := ?_) rfl (by kernel_rfl) (fun _ _ _ h => h) (by assumption) (Or.inl ⟨by rfl, ?_⟩) ?_
   rotate_left
   · intro w hSw; (try dsimp only at hSw); go_simp; (try with_reducible rfl)
   try simp only [Act.put, nA, nB, nC, nD, nE, nF]
  refine todone ?_
  refine wpAnyL_one (i := 3) (by kernel_rfl) rfl (fun K hK => ?sb3)
  go_simp
  refine (copiedU1_any _ _).mono ?_
  rintro e w5 ⟨rfl, hb5⟩
  go_simp
  have hk5 : Kept r X w5 := ((Kept.refl r X).drew).below hb5
  refine hK.out _ _ (fun _ => mkS _ hk5) (fun hHeld2 => ?mb3)
  clear hK K hHeld
  have hHeld := hHeld2 (by decide)
  clear hHeld2
  try simp only [Act.put, nD, nE, nF]
  refine wpAnyL_one (i := 4) (by kernel_rfl) rfl (fun K hK => ?sb4)
  go_simp
  refine hK.out _ _ (fun _ => mkS _ (hk5.alloc _)) (fun hHeld2 => ?mb4)
  clear hK K hHeld
  have hHeld := hHeld2 (by decide)
  clear hHeld2
  try simp only [Act.put, nD, nE, nF]
  refine wpAnyL_one (i := 5) (by kernel_rfl) rfl (fun K hK => ?sb5)
  have hb5w : Below X.heap.size X w5 := (Below.refl _ X).drew.trans hb5
  have hB5 : Below B w w5 := h5.trans (hb5w.mono (by omega))
  have kk5 : KeepC X w5 := KeepC.below hb5w
  have hown5 := keepC_row kk5 h3
  have hsz5 := hb5w.size
  refine step_append_ownT rfl _ _ 194 rfl B 144 i0 _ 1 4 Tryz.underlying194 hi hz0 hz1 hz2 rfl (by decide) _ pre.length _ rfl (hown5.alloc _) ⟨w5.heap.size, 0, none⟩ 1 1 [.int .u32 x] rfl rfl (cell_oneU _ _ _) (by simp [Value.oneCell']) (by unfold maxLen; omega) (by omega) (by simp; omega) ?_
  intro v' w6 hown' hgrow _
  obtain ⟨av, cv, rfl⟩ := ownT_slice hown'
  have hk6 : Kept r X w6 := (hk5.alloc _).grown hgrow hrv
  refine hK.out _ _ (fun _ => mkS _ hk6) (fun hHeld2 => ?mb5)
  clear hK K hHeld
  have hHeld := hHeld2 (by decide)
  clear hHeld2
  try simp only [Act.put, nD, nE, nF]
  have R26 : Row w6 (B + 1 + 1) 194 #[v] := Row.kept h2 hk6 n2
  have f21 := R26.free 0
  have d21 := R26.cell 0
  refine wpAnyL_one (i := 6) (by kernel_rfl) rfl (fun K hK => ?sb6)
  go_simp
  refine hK.out _ _ (fun h => absurd rfl h) (fun _ => ?mb6)
  clear hK K
  try simp only [Act.put, nD, nE, nF]
  refine wpAnyL_done (by kernel_rfl) ?_ _
  have hk6s := hk6.size
  have r1 : Boxed w6 B 216 (.func (.func 178) #[] #[]) := Row.kept h1 hk6 n0
  refine ⟨keepsFrom_set (keepsFrom_kept hk6 hrc) _ _, (keptBelow hk6 hrb (by omega)).setCell (by show B ≤ B + 1 + 1; omega) _, ?_⟩
  refine ⟨.slice av (pre.length + 1) cv, ?_, ?_, ?_, (h5.trans (keptBelow hk6 hrb (by omega))).setCell (by show B ≤ B + 1 + 1; omega) _, by have := (Only.set w6 (B + 1 + 1) 0 (.slice av (pre.length + 1) cv)).size; omega⟩
  · exact Row.far (p := ⟨B + 1 + 1, 0, none⟩) r1 (by show B ≠ B + 1 + 1; omega) _
  · exact Boxed.set _ R26
  · rw [List.length_append, List.map_append, List.map_cons, List.map_nil]
    simp only [hx]
    exact ownsRow_setCell_other hown' (Ne.symm (Boxed.not_row R26 (by decide) hown')) _
 case done =>
  rintro D ys X hD hup ⟨v, h1, h2, h3, h5, h6⟩ hK
  have c2 := Boxed.cell h2
  have e : ys.map (fun x => Value.int .u32 (xs[x.val]?.getD 0)) = xs.map (Value.int .u32) := list_upto xs (Value.int .u32) 0 rfl hup
  rw [e, hup.length] at h3
  gi_wp2
  refine ⟨by simp, .inl ⟨_, _, rfl, run_takeDeferred hK, ?_⟩⟩
  have kk : ∀ o', KeepC X (X.putObj D o') := fun o' => KeepC.grown (grownBy_putObj' X D o') (fun r e => by cases e; exact ⟨_, hK, rfl⟩)
  exact ⟨_, results_tmp rfl _ _ _, _, rfl, (by rw [hB]; exact keepC_row (kk _) h3), (by rw [hB]; exact h5.trans (belowK_b (n₀ := B) (w := w) (by omega) X D _ _ (by omega) hK rfl rfl))⟩
 case stop =>
  rintro D c pre X _ _ h _
  exact h.elim
theorem copiedU_any {w : World} {ad : Option Addr} {xs : List Int} {cap : Nat} (hlim : Lim w ad xs) (hcap : xs.length ≤ cap) (hm : xs.length ≤ 35184372088832) :
 Calls Tryz.prog 157 #[.slice ad xs.length cap] w fun e w' => ∃ r, e = .returned r ∧ Num w.heap.size w' r xs ∧ Below w.heap.size w w' := by
 go_enter Tryz.func157, Tryz.ntmps157
 go_wp2_with (go_at_call 177; refine (madeU_any hlim hcap hm).mono ?_; rintro e w1 ⟨r, rfl, hr, hb⟩)
 go_ret
 exact ⟨_, rfl, hr, hb⟩
theorem copiedI1_any (x : Int) (w : World) : Calls Tryz.prog 176 #[.int .i64 x] w fun e w' => e = .returned (.int .i64 x) ∧ Below w.heap.size w w' := by
 go_enter Tryz.func176, Tryz.ntmps176
 go_wp2
 go_ret
 exact ⟨rfl, Below.refl _ _⟩
theorem cell_oneI (w : World) (a : Value) (t : TypeId) : ∀ j u, [a][j]? = some u → (w.alloc (.cells #[a] t)).cell? ((⟨w.heap.size, 0, none⟩ : Addr).add j) = some u := by
 intro j u hj
 match j, hj with
 | 0, hj => simp at hj; subst hj; simp [Addr.add]
 | j + 1, hj => simp at hj
theorem madeI_any {w : World} {ad : Option Addr} {xs : List Int} {cap : Nat} (hlim : LimS w ad xs) (hcap : xs.length ≤ cap) (hm : xs.length ≤ 17592186044416) :
 Calls Tryz.prog 175 #[.slice ad xs.length cap, .func (.func 176) #[] #[]] w fun e w' => ∃ r, e = .returned r ∧ NumS w.heap.size w' r xs ∧ Below w.heap.size w w' := by
 obtain ⟨i0, hi, hz0, hz1, hz2⟩ := info_parts infoS
 have hmk := make_rowI xs.length (by omega)
 obtain ⟨n', hn'⟩ : ∃ n' : Nat, Hid (3 ≤ n') := ⟨3, Nat.le_refl 3⟩
 refine (callsIn_wide (n := n')).1 ?_
 refine callsIn_of_wp_marks Tryz.func175 rfl trivial ?_ rfl
 simp only [Tryz.ntmps175, List.size_toArray, List.length_cons, List.length_nil, Nat.reduceAdd, Nat.reduceSub, Array.replicate_succ, Array.replicate_zero, List.push_toArray, List.append_toArray, List.nil_append, List.cons_append]
 gi_wp2_with fail
 refine wideCall ((allI_any _ _ _ _).mono ?_)
 rintro e w' ⟨rfl, rfl⟩
 gi_wp2_with fail
 obtain ⟨B, hB⟩ : ∃ B, w.heap.size = B := ⟨_, rfl⟩
 obtain ⟨V1, hV1⟩ : ∃ V1, w.alloc (.cells #[.func (.func 176) #[] #[]] 123) = V1 := ⟨_, rfl⟩
 obtain ⟨V2, hV2⟩ : ∃ V2, V1.alloc (.cells (madeCells #[.int .i64 0] xs.length) 3) = V2 := ⟨_, rfl⟩
 obtain ⟨V3, hV3⟩ : ∃ V3, V2.alloc (.cells #[.slice (some ⟨V1.heap.size, 0, none⟩) 0 xs.length] 192) = V3 := ⟨_, rfl⟩
 obtain ⟨V, hV⟩ : ∃ V, V3.alloc (.cells #[.slice ad xs.length cap] 192) = V := ⟨_, rfl⟩
 have s1 : V1.heap.size = B + 1 := by rw [← hV1, ← hB]; simp
 have s2 : V2.heap.size = B + 1 + 1 := by rw [← hV2, World.size_alloc, s1]
 have s3 : V3.heap.size = B + 1 + 1 + 1 := by rw [← hV3, World.size_alloc, s2]
 have s4 : V.heap.size = B + 1 + 1 + 1 + 1 := by rw [← hV, World.size_alloc, s3]
 have d1 : Boxed V B 123 (.func (.func 176) #[] #[]) := by
  rw [← hV, ← hV3, ← hV2, ← hV1, ← hB]; exact (((Boxed.new _ _ _).alloc _).alloc _).alloc _
 have d2 : Boxed V (B + 1 + 1) 192 (.slice (some ⟨B + 1, 0, none⟩) 0 xs.length) := by
  have h := Boxed.new V2 192 (.slice (some ⟨V1.heap.size, 0, none⟩) 0 xs.length)
  rw [s2, hV3, s1] at h
  rw [← hV]; exact h.alloc _
 have d3 : V.ownsRow B 3 1 (.slice (some ⟨B + 1, 0, none⟩) 0 xs.length) 0 [] := by
  have h : V2.ownsRow B 3 1 (.slice (some ⟨V1.heap.size, 0, none⟩) 0 xs.length) 0 [] := by
   rw [← hV2]
   exact World.ownsRow_made V1 _ xs.length (by omega) (by unfold maxLen; omega) (by rw [madeCells_len, Nat.mul_one])
  rw [← hV, ← hV3, ← s1]; exact (h.alloc _).alloc _
 have d4 : Boxed V (B + 1 + 1 + 1) 192 (.slice ad xs.length cap) := by
  have h := Boxed.new V3 192 (.slice ad xs.length cap)
  rw [s3, hV] at h; exact h
 have d5 : Below B w V := by
  rw [← hV, ← hV3, ← hV2, ← hV1]; exact ((((Below.refl _ w).alloc (by omega) _).alloc (by simp; omega) _).alloc (by simp; omega) _).alloc (by simp; omega) _
 rw [s1] at hV3
 simp only [hB, hV1, hV2, s1, s2, s3, hV3, hV]
 have h3 : 3 ≤ n' := hn'
 clear hV1 hV2 hV3 hV hmk
 have hlt0 : ∀ x, xs ≠ [] → ad = some x → x.block < B := fun x h1 h2 => by rw [← hB]; exact hlim.lt h1 x h2
 refine wpIn_rangeFunc_ownH (F := Fence.wide) (n := n') rfl (by omega) (gf := 195) (lb := #[.pointer (some ⟨B + 1 + 1 + 1, 0, none⟩)]) rfl trivial (enters_of Tryz.func195 (by kernel_rfl) rfl)
  (allI_stops (n' - 1) (B + 1 + 1 + 1) B ad xs cap (by omega) hcap (fun h x hx => hlt0 x h hx) V (by omega) d4.cell (hlim.later (by rw [hB]; exact d5))) belowK_t (belowK_b (by omega)) (Below.refl _ _) (fun _ => rfl)
  (fun (pre : List (Fin xs.length)) X => ∃ v, Boxed X B 123 (.func (.func 176) #[] #[]) ∧ Boxed X (B + 1 + 1) 192 v ∧ X.ownsRow B 3 1 v pre.length (pre.map (fun x => Value.int .i64 (xs[x.val]?.getD 0))) ∧ Below B w X ∧ B + 1 + 1 + 1 + 1 ≤ X.heap.size)
  (fun _ _ _ => False)
  (fun pre X Y row ⟨v, h1, h2, h3, h5, h6⟩ hg hr => by
    have kk := KeepC.grown hg (fun r e => (hr r e).2)
    exact ⟨v, Boxed.keepC h1 kk, Boxed.keepC h2 kk, keepC_row kk h3, h5.grown hg (by have := h5.size; omega) (fun k e => by have := (hr k e).1; omega), Nat.le_trans h6 hg.size⟩)
  (fun _ _ _ _ _ hs _ _ => hs)
  ⟨_, d1, d2, d3, d5, by omega⟩
  (fun (x : Fin xs.length) a' X => a' = { tmps := #[.slice ad xs.length cap, .func (.func 176) #[] #[], undef, .pointer (some ⟨B, 0, none⟩), .slice none 0 0, .pointer (some ⟨B + 1 + 1, 0, none⟩), .int .i64 (xs[x.val]?.getD 0), .slice ad xs.length cap, .int .i64 xs.length,
    .slice (some ⟨B + 1, 0, none⟩) 0 xs.length, .slice ad xs.length cap, .func (.func 195) #[] #[.pointer (some ⟨B + 1 + 1 + 1, 0, none⟩)], .int .i64 (xs[x.val]?.getD 0),
    undef, undef, undef, undef, undef, undef, undef], defers := [] })
  (fun x a' _ X Y row h hg hr => h)
  ?assign ?body ?done ?stop
 case assign =>
  rintro l pre ⟨k, hk⟩ X K hI hK
  obtain ⟨x, hx⟩ : ∃ x, xs[k]?.getD 0 = x := ⟨_, rfl⟩
  have HK := Lib.hid hK
  simp only [numV, hx]
  clear hK
  gi_wp2
  refine HK.out _ _ (KeepsFrom.refl _ _) (Below.refl _ _) hI ?_
  simp only [hx]
 case body =>
  rintro l pre ⟨k, hk⟩ a' X hl hrec ⟨v, h1, h2, h3, h5, h6⟩ rfl hlt
  obtain ⟨x, hx⟩ : ∃ x, xs[k]?.getD 0 = x := ⟨_, rfl⟩
  simp only [hx]
  obtain ⟨r, hrv, hrb, hrne, hrc, hro⟩ := ownV_hits h3 (by omega)
  have n0 := hrne _ _ _ h1 (by decide)
  have n2 := hrne _ _ _ h2 (by decide)
  have c1 := Boxed.cell h1
  have c2 := Boxed.cell h2
  have mkS : ∀ Y, Kept r X Y → Y.cell? ⟨B + 1 + 1, 0, none⟩ = some v ∧ Y.cell? ⟨B, 0, none⟩ = some (.func (.func 176) #[] #[]) ∧ Kept r X Y := fun Y h =>
   ⟨h.cell c2 n2, h.cell c1 n0, h⟩
  refine wpIn_block ?_
  refine region_roundL (fun Y => Y.cell? ⟨B + 1 + 1, 0, none⟩ = some v ∧ Y.cell? ⟨B, 0, none⟩ = some (.func (.func 176) #[] #[]) ∧ Kept r X Y) 6
   (by kernel_rfl) (by kernel_rfl) (by rintro ⟨a', w', h⟩; exact h) (mkS _ ((Kept.refl r X).drew)) (fun hHeld => ?_)
  refine todo [0, 1, 2] ?_
  iterate 3
   refine todoL (v := ?_) rfl (by kernel_rfl) (fun _ _ _ h => h) (by assumption) (Or.inl ⟨by rfl, ?_⟩) ?_
   rotate_left
   · intro w hSw; (try dsimp only at hSw); go_simp; (try with_reducible rfl)
   try simp only [Act.put, nA, nB, nC, nD, nE, nF]
  refine todone ?_
  refine wpAnyL_one (i := 3) (by kernel_rfl) rfl (fun K hK => ?sb3)
  go_simp
  refine (copiedI1_any _ _).mono ?_
  rintro e w5 ⟨rfl, hb5⟩
  go_simp
  have hk5 : Kept r X w5 := ((Kept.refl r X).drew).below hb5
  refine hK.out _ _ (fun _ => mkS _ hk5) (fun hHeld2 => ?mb3)
  clear hK K hHeld
  have hHeld := hHeld2 (by decide)
  clear hHeld2
  try simp only [Act.put, nD, nE, nF]
  refine wpAnyL_one (i := 4) (by kernel_rfl) rfl (fun K hK => ?sb4)
  go_simp
  refine hK.out _ _ (fun _ => mkS _ (hk5.alloc _)) (fun hHeld2 => ?mb4)
  clear hK K hHeld
  have hHeld := hHeld2 (by decide)
  clear hHeld2
  try simp only [Act.put, nD, nE, nF]
  refine wpAnyL_one (i := 5) (by kernel_rfl) rfl (fun K hK => ?sb5)
  have hb5w : Below X.heap.size X w5 := (Below.refl _ X).drew.trans hb5
  have hB5 : Below B w w5 := h5.trans (hb5w.mono (by omega))
  have kk5 : KeepC X w5 := KeepC.below hb5w
  have hown5 := keepC_row kk5 h3
  have hsz5 := hb5w.size
  refine step_append_ownT rfl _ _ 192 rfl B 3 i0 _ 1 8 Tryz.underlying192 hi hz0 hz1 hz2 rfl (by decide) _ pre.length _ rfl (hown5.alloc _) ⟨w5.heap.size, 0, none⟩ 1 1 [.int .i64 x] rfl rfl (cell_oneI _ _ _) (by simp [Value.oneCell']) (by unfold maxLen; omega) (by omega) (by simp; omega) ?_
  intro v' w6 hown' hgrow _
  obtain ⟨av, cv, rfl⟩ := ownT_slice hown'
  have hk6 : Kept r X w6 := (hk5.alloc _).grown hgrow hrv
  refine hK.out _ _ (fun _ => mkS _ hk6) (fun hHeld2 => ?mb5)
  clear hK K hHeld
  have hHeld := hHeld2 (by decide)
  clear hHeld2
  try simp only [Act.put, nD, nE, nF]
  have R26 : Row w6 (B + 1 + 1) 192 #[v] := Row.kept h2 hk6 n2
  have f21 := R26.free 0
  have d21 := R26.cell 0
  refine wpAnyL_one (i := 6) (by kernel_rfl) rfl (fun K hK => ?sb6)
  go_simp
  refine hK.out _ _ (fun h => absurd rfl h) (fun _ => ?mb6)
  clear hK K
  try simp only [Act.put, nD, nE, nF]
  refine wpAnyL_done (by kernel_rfl) ?_ _
  have hk6s := hk6.size
  have r1 : Boxed w6 B 123 (.func (.func 176) #[] #[]) := Row.kept h1 hk6 n0
  refine ⟨keepsFrom_set (keepsFrom_kept hk6 hrc) _ _, (keptBelow hk6 hrb (by omega)).setCell (by show B ≤ B + 1 + 1; omega) _, ?_⟩
  refine ⟨.slice av (pre.length + 1) cv, ?_, ?_, ?_, (h5.trans (keptBelow hk6 hrb (by omega))).setCell (by show B ≤ B + 1 + 1; omega) _, by have := (Only.set w6 (B + 1 + 1) 0 (.slice av (pre.length + 1) cv)).size; omega⟩
  · exact Row.far (p := ⟨B + 1 + 1, 0, none⟩) r1 (by show B ≠ B + 1 + 1; omega) _
  · exact Boxed.set _ R26
  · rw [List.length_append, List.map_append, List.map_cons, List.map_nil]
    simp only [hx]
    exact ownsRow_setCell_other hown' (Ne.symm (Boxed.not_row R26 (by decide) hown')) _
 case done =>
  rintro D ys X hD hup ⟨v, h1, h2, h3, h5, h6⟩ hK
  have c2 := Boxed.cell h2
  have e : ys.map (fun x => Value.int .i64 (xs[x.val]?.getD 0)) = xs.map (Value.int .i64) := list_upto xs (Value.int .i64) 0 rfl hup
  rw [e, hup.length] at h3
  gi_wp2
  refine ⟨by simp, .inl ⟨_, _, rfl, run_takeDeferred hK, ?_⟩⟩
  have kk : ∀ o', KeepC X (X.putObj D o') := fun o' => KeepC.grown (grownBy_putObj' X D o') (fun r e => by cases e; exact ⟨_, hK, rfl⟩)
  exact ⟨_, results_tmp rfl _ _ _, _, rfl, (by rw [hB]; exact keepC_row (kk _) h3), (by rw [hB]; exact h5.trans (belowK_b (n₀ := B) (w := w) (by omega) X D _ _ (by omega) hK rfl rfl))⟩
 case stop =>
  rintro D c pre X _ _ h _
  exact h.elim
theorem copiedI_any {w : World} {ad : Option Addr} {xs : List Int} {cap : Nat} (hlim : LimS w ad xs) (hcap : xs.length ≤ cap) (hm : xs.length ≤ 17592186044416) :
 Calls Tryz.prog 156 #[.slice ad xs.length cap] w fun e w' => ∃ r, e = .returned r ∧ NumS w.heap.size w' r xs ∧ Below w.heap.size w w' := by
 go_enter Tryz.func156, Tryz.ntmps156
 go_wp2_with (go_at_call 175; refine (madeI_any hlim hcap hm).mono ?_; rintro e w1 ⟨r, rfl, hr, hb⟩)
 go_ret
 exact ⟨_, rfl, hr, hb⟩
theorem copyRat_any {w : World} {v : Value} {q : Q3} (h : RawQ w v q) (h1 : q.num.length ≤ 134217728) (h2 : q.den.length ≤ 134217728) :
 Calls Tryz.prog 132 #[v] w fun e w' => ∃ r, e = .returned r ∧ RawO w.heap.size w' r q ∧ Below w.heap.size w w' := by
 obtain ⟨ad, bd, ca, cb, rfl, A, D, na, nb⟩ := h
 obtain ⟨B, hB⟩ : ∃ B, w.heap.size = B := ⟨_, rfl⟩
 obtain ⟨W1, hW1⟩ : ∃ W1, w.alloc (.cells #[.bool q.neg, .slice ad q.num.length ca, .slice bd q.den.length cb] 54) = W1 := ⟨_, rfl⟩
 obtain ⟨W2, hW2⟩ : ∃ W2, W1.alloc (.cells #[.bool false, .slice none 0 0, .slice none 0 0] 54) = W2 := ⟨_, rfl⟩
 have s1 : W1.heap.size = B + 1 := by rw [← hW1, ← hB]; simp
 have s2 : W2.heap.size = B + 1 + 1 := by rw [← hW2, World.size_alloc, s1]
 have R0 : Row W2 B 54 #[.bool q.neg, .slice ad q.num.length ca, .slice bd q.den.length cb] := by rw [← hW2, ← hW1, ← hB]; exact (Row.new _ _ _).alloc _
 have R1 : Row W2 (B + 1) 54 #[.bool false, .slice none 0 0, .slice none 0 0] := by rw [← hW2, ← s1]; exact Row.new _ _ _
 have hb2 : Below B w W2 := by rw [← hW2, ← hW1]; exact ((Below.refl _ w).alloc (by omega) _).alloc (by simp; omega) _
 have A2 := A.later (by rw [hB]; exact hb2)
 have D2 := D.later (by rw [hB]; exact hb2)
 obtain ⟨c0, c1, c2, _, _, _⟩ := R0.three
 have hN := A.le
 have hD := D.le
 go_enter Tryz.func132, Tryz.ntmps132
 go_wp2_with fail
 have mkS : ∀ Y, Below W2.heap.size W2 Y → Y.cell? ⟨B, 0, none⟩ = some (.bool q.neg) ∧ Y.cell? ⟨B, 1, none⟩ = some (.slice ad q.num.length ca) ∧ Y.cell? ⟨B, 2, none⟩ = some (.slice bd q.den.length cb) := fun Y hb => by
  obtain ⟨x0, x1, x2, _⟩ := (R0.later hb).three
  exact ⟨x0, x1, x2⟩
 refine wp_region_L (S := fun Y => Y.cell? ⟨B, 0, none⟩ = some (.bool q.neg) ∧ Y.cell? ⟨B, 1, none⟩ = some (.slice ad q.num.length ca) ∧ Y.cell? ⟨B, 2, none⟩ = some (.slice bd q.den.length cb)) (z := 9) (by kernel_rfl) (mkS _ (Below.refl _ W2).drew) (fun hHeld => ?_)
 refine todo [0, 1, 2, 3, 5, 6] ?_
 iterate 6
  refine todoL (v := ?_) rfl (by kernel_rfl) (fun _ _ _ h => h) (by assumption) (Or.inl ⟨by rfl, ?_⟩) ?_
  rotate_left
  · intro w hSw; (try dsimp only at hSw); go_simp; (try with_reducible rfl)
  try simp only [Act.put, nA, nB, nC, nD, nE, nF]
 refine todone ?_
 have b0 : Below W2.heap.size W2 W2.drew := (Below.refl _ W2).drew
 refine wpAnyL_one (i := 4) (by kernel_rfl) rfl (fun K hK => ?sb4)
 go_simp
 refine (copiedU_any (A2.lim.later b0) hN (by omega)).mono ?_
 rintro e w5 ⟨r5, rfl, n5, b5⟩
 obtain ⟨f1, j1, rfl⟩ := ownT_slice n5
 go_simp
 have b05 : Below W2.heap.size W2 w5 := b0.trans b5
 have z5 := b05.size
 refine hK.out _ _ (fun _ => mkS _ b05) (fun hHeld2 => ?mb4)
 clear hK K hHeld
 have hHeld := hHeld2 (by decide)
 clear hHeld2
 try simp only [Act.put, nD, nE, nF]
 refine wpAnyL_one (i := 7) (by kernel_rfl) rfl (fun K hK => ?sb7)
 go_simp
 refine (copiedU_any (D2.lim.later b05) hD (by omega)).mono ?_
 rintro e w6 ⟨r6, rfl, n6, b6⟩
 obtain ⟨f2, j2, rfl⟩ := ownT_slice n6
 go_simp
 have b06 : Below W2.heap.size W2 w6 := b05.trans (b6.mono z5)
 refine hK.out _ _ (fun _ => mkS _ b06) (fun hHeld2 => ?mb7)
 clear hK K hHeld
 have hHeld := hHeld2 (by decide)
 clear hHeld2
 try simp only [Act.put, nD, nE, nF]
 refine wpAnyL_take (i := 8) (v := ?va8) rfl (by kernel_rfl) (by kernel_rfl) (by kernel_rfl) (by kernel_rfl) (fun _ _ _ h => h) (Or.inl ⟨by rfl, ?ha8⟩) (by assumption) ?ra8
 case ha8 =>
  intro w hSw
  try dsimp only at hSw
  go_simp
  try with_reducible rfl
 try simp only [Act.put, nD, nE, nF]
 have R6 := R1.later b06
 obtain ⟨g0, g1, g2, e0, e1, e2⟩ := R6.three
 have R7 := R6.set3 (.bool q.neg) (.slice f1 q.num.length j1) (.slice f2 q.den.length j2)
 refine wpAnyL_one (i := 9) (by kernel_rfl) rfl (fun K hK => ?sb9)
 go_simp
 refine hK.out _ _ (fun h => absurd rfl h) (fun _ => ?mb9)
 clear hK K
 try simp only [Act.put, nD, nE, nF]
 refine wpAnyL_done (by kernel_rfl) ?_ _
 obtain ⟨u0, u1, u2, _⟩ := R7.three
 have n5' : Num B w6 (.slice f1 q.num.length j1) q.num := (Num.later n5 b6).mono (by show B ≤ W2.heap.size; omega)
 have n6' : Num B w6 (.slice f2 q.den.length j2) q.den := Num.mono n6 (by omega)
 have HR6 := Lib.hid R6
 clear R6 R7
 go_wp2
 refine bodyPost_ret (v := .agg #[.bool q.neg, .slice f1 q.num.length j1, .slice f2 q.den.length j2]) (by simp [results, Tryz.results132, go_sem, u0, u1, u2]) rfl ⟨_, rfl, ⟨f1, f2, j1, j2, rfl, ?_, ?_, A.wf, D.wf⟩, ?_⟩
 · rw [hB]; exact n5'.far HR6.out (by decide) (kept3 _ _ _)
 · rw [hB]; exact n6'.far HR6.out (by decide) (kept3 _ _ _)
 · rw [hB]; exact below_set3 (g := B + 1) (hb2.trans (b06.mono (by omega))) (by omega) _ _ _
theorem madeC_any {n : Nat} {w : World} {u : Value} {qs : List Q3} {b : Option Addr} {cb : Nat} (E : RowA RawQ w u qs b cb) (hq : qs.length ≤ 1000000000) (hl : lensQ qs n) (hn : n ≤ 134217728) :
 Calls Tryz.prog 131 #[u, .func (.func 132) #[] #[]] w fun e w' => ∃ r, e = .returned r ∧ RowO w.heap.size 54 (fun W v x => RawO w.heap.size W v x) w' r (qs) ∧ Below w.heap.size w w' := by
 obtain ⟨i0, hi, hz0, hz1, hz2⟩ := info_parts infoQ7
 obtain rfl := E.is
 obtain ⟨es, hlim, hall⟩ := E.limE
 have hsh : ShE es := shE_of hall (fun v x h => h.form)
 have hcap := E.le
 have hel : es.length = qs.length := hall.1
 clear E
 have HL := Lib.hid hl
 have HA := Lib.hid hall
 clear hl hall
 rw [← hel] at hcap hq ⊢
 have HEL := Lib.hid hel
 clear hel
 have hmk := make_rowQ es.length (by omega)
 obtain ⟨n', hn'⟩ : ∃ n' : Nat, Hid (3 ≤ n') := ⟨3, Nat.le_refl 3⟩
 refine (callsIn_wide (n := n')).1 ?_
 refine callsIn_of_wp_marks Tryz.func131 rfl trivial ?_ rfl
 simp only [Tryz.ntmps131, List.size_toArray, List.length_cons, List.length_nil, Nat.reduceAdd, Nat.reduceSub, Array.replicate_succ, Array.replicate_zero, List.push_toArray, List.append_toArray, List.nil_append, List.cons_append]
 gi_wp2_with fail
 refine wideCall ((allQ_any _ _ _ _).mono ?_)
 rintro e w' ⟨rfl, rfl⟩
 gi_wp2_with fail
 obtain ⟨B, hB⟩ : ∃ B, w.heap.size = B := ⟨_, rfl⟩
 obtain ⟨V1, hV1⟩ : ∃ V1, w.alloc (.cells #[.func (.func 132) #[] #[]] 128) = V1 := ⟨_, rfl⟩
 obtain ⟨V2, hV2⟩ : ∃ V2, V1.alloc (.cells (madeCells #[.bool false, .slice none 0 0, .slice none 0 0] (es.length * 3)) 54) = V2 := ⟨_, rfl⟩
 obtain ⟨V3, hV3⟩ : ∃ V3, V2.alloc (.cells #[.slice (some ⟨V1.heap.size, 0, none⟩) 0 es.length] 96) = V3 := ⟨_, rfl⟩
 obtain ⟨V, hV⟩ : ∃ V, V3.alloc (.cells #[.slice b es.length cb] 96) = V := ⟨_, rfl⟩
 have s1 : V1.heap.size = B + 1 := by rw [← hV1, ← hB]; simp
 have s2 : V2.heap.size = B + 1 + 1 := by rw [← hV2, World.size_alloc, s1]
 have s3 : V3.heap.size = B + 1 + 1 + 1 := by rw [← hV3, World.size_alloc, s2]
 have s4 : V.heap.size = B + 1 + 1 + 1 + 1 := by rw [← hV, World.size_alloc, s3]
 have d1 : Boxed V B 128 (.func (.func 132) #[] #[]) := by
  rw [← hV, ← hV3, ← hV2, ← hV1, ← hB]; exact (((Boxed.new _ _ _).alloc _).alloc _).alloc _
 have d2 : Boxed V (B + 1 + 1) 96 (.slice (some ⟨B + 1, 0, none⟩) 0 es.length) := by
  have h := Boxed.new V2 96 (.slice (some ⟨V1.heap.size, 0, none⟩) 0 es.length)
  rw [s2, hV3, s1] at h
  rw [← hV]; exact h.alloc _
 have d3 : OwnE B 54 V (.slice (some ⟨B + 1, 0, none⟩) 0 es.length) [] := by
  have h : V2.ownsRow B 54 3 (.slice (some ⟨V1.heap.size, 0, none⟩) 0 es.length) 0 [] := by
   rw [← hV2]
   exact World.ownsRow_made V1 _ es.length (by omega) (by unfold maxLen; omega) (madeCells_len _ _)
  rw [← hV, ← hV3, ← s1]; exact (h.alloc _).alloc _
 have d4 : Boxed V (B + 1 + 1 + 1) 96 (.slice b es.length cb) := by
  have h := Boxed.new V3 96 (.slice b es.length cb)
  rw [s3, hV] at h; exact h
 have d5 : Below B w V := by
  rw [← hV, ← hV3, ← hV2, ← hV1]; exact ((((Below.refl _ w).alloc (by omega) _).alloc (by simp; omega) _).alloc (by simp; omega) _).alloc (by simp; omega) _
 rw [hB] at hlim
 rw [s1] at hV3
 simp only [hB, hV1, hV2, s1, s2, s3, hV3, hV]
 have h3 : 3 ≤ n' := hn'
 clear hV1 hV2 hV3 hV hmk
 refine wpIn_rangeFunc_ownH (F := Fence.wide) (n := n') rfl (by omega) (gf := 107) (lb := #[.pointer (some ⟨B + 1 + 1 + 1, 0, none⟩)]) rfl trivial (enters_of Tryz.func107 (by kernel_rfl) rfl)
  (allQ_stops (n' - 1) (B + 1 + 1 + 1) B b es cb (by omega) hcap V (by omega) (by omega) d4.cell (hlim.below d5) hsh) belowK_t (belowK_b (by omega)) (Below.refl _ _) (fun _ => rfl)
  (fun (pre : List (Fin es.length)) X => ∃ v fs, Boxed X B 128 (.func (.func 132) #[] #[]) ∧ Boxed X (B + 1 + 1) 96 v ∧ OwnE B 54 X v fs ∧
    AllE ((fun W v x => RawO B W v x) X) fs (pre.map (fun x => (qs[x.val]?.getD ⟨false, [], []⟩))) ∧ Below B w X ∧ B + 1 + 1 + 1 + 1 ≤ X.heap.size)
  (fun _ _ _ => False)
  (fun pre X Y row ⟨v, fs, h1, h2, h3, h4, h5, h6⟩ hg hr => by
    have kk := KeepC.grown hg (fun r e => (hr r e).2)
    exact ⟨v, fs, Boxed.keepC h1 kk, Boxed.keepC h2 kk, h3.keepC kk, h4.imp (fun _ _ _ h => h.keepC kk), h5.grown hg (by have := h5.size; omega) (fun k e => by have := (hr k e).1; omega), Nat.le_trans h6 hg.size⟩)
  (fun _ _ _ _ _ hs _ _ => hs)
  ⟨_, [], d1, d2, d3, AllE.nil _, d5, by omega⟩
  (fun (x : Fin es.length) a' X => ∃ p v0, B + 1 + 1 + 1 + 1 ≤ p ∧ (Boxed X (B + 1 + 1) 96 v0 ∧ v0.ownBlock ≠ some p) ∧ Row X p 54 #[(es[x.val]?.getD dfE).a, (es[x.val]?.getD dfE).b, (es[x.val]?.getD dfE).c] ∧
    a' = { tmps := #[.slice b es.length cb, .func (.func 132) #[] #[], undef, .pointer (some ⟨B, 0, none⟩), .slice none 0 0, .pointer (some ⟨B + 1 + 1, 0, none⟩), .pointer (some ⟨p, 0, none⟩), .slice b es.length cb, .int .i64 es.length,
     .slice (some ⟨B + 1, 0, none⟩) 0 es.length, .slice b es.length cb, .func (.func 107) #[] #[.pointer (some ⟨B + 1 + 1 + 1, 0, none⟩)], .agg #[(es[x.val]?.getD dfE).a, (es[x.val]?.getD dfE).b, (es[x.val]?.getD dfE).c],
     undef, undef, undef, undef, undef, undef, undef], defers := [] })
  (fun x a' _ X Y row ⟨p, v0, h1, ⟨h4, h5⟩, h2, h3⟩ hg hr => ⟨p, v0, h1, ⟨Boxed.keepC h4 (KeepC.grown hg (fun r e => (hr r e).2)), h5⟩, h2.keepC (KeepC.grown hg (fun r e => (hr r e).2)), h3⟩)
  ?assign ?body ?done ?stop
 case assign =>
  rintro l pre ⟨k, hk⟩ X K ⟨v, fs, h1, h2, h3, h4, h5, h6⟩ hK
  obtain ⟨z1, z2, z3, z4, z5, z6, z7, he⟩ := hsh k hk
  have hs5 := h5.size
  have hb2 : Below X.heap.size X (X.alloc (.cells #[.bool z1, .slice z2 z3 z4, .slice z5 z6 z7] 54)) := (Below.refl _ _).alloc (Nat.le_refl _) _
  have kk := KeepC.below hb2
  have HK := Lib.hid hK
  simp only [ratAt]
  rw [he]
  simp only
  clear hK
  gi_wp2
  refine HK.out _ _ ⟨by simp, fun q o _ ho _ => (Below.heap_alloc _ _ _ (lt_of_block ho)).trans ho⟩ (hb2.mono (by omega)) ⟨v, fs, Boxed.keepC h1 kk, Boxed.keepC h2 kk, h3.keepC kk, h4.imp (fun _ _ _ h => h.keepC kk), h5.trans (hb2.mono (by omega)), by simp; omega⟩ ⟨X.heap.size, v, h6, ⟨Boxed.keepC h2 kk, fun e => by have := (h3.lt _ e).2; omega⟩, ?_, ?_⟩
  · simp only [he]; exact Row.new _ _ _
  · simp only [he]
 case body =>
  rintro l pre ⟨k, hk⟩ a' X hl hrec ⟨v, fs, h1, h2, h3, h4, h5, h6⟩ ⟨p, v0, hp, ⟨hv0, hvp⟩, hR, rfl⟩ hlt
  obtain ⟨z1, z2, z3, z4, z5, z6, z7, he⟩ := hsh k hk
  simp only at hR ⊢
  rw [he] at hR ⊢
  simp only at hR ⊢
  have hkq : k < qs.length := by rw [← HEL.out]; exact hk
  have hqk : qs[k]? = some qs[k] := List.getElem?_eq_getElem hkq
  obtain ⟨q, hq2⟩ : ∃ q, qs[k] = q := ⟨_, rfl⟩
  rw [hq2] at hqk
  have hek : es[k]? = some es[k] := List.getElem?_eq_getElem hk
  have hraw := HA.out.2 k _ _ hek hqk
  have e2 : es[k] = ⟨.bool z1, .slice z2 z3 z4, .slice z5 z6 z7⟩ := by rw [hek] at he; exact he
  rw [e2] at hraw
  have hmem := List.mem_of_getElem? hqk
  have hlq := HL.out q hmem
  have hgd : qs[k]?.getD ⟨false, [], []⟩ = q := by rw [hqk]; rfl
  have hraw' : RawQ X (.agg #[.bool z1, .slice z2 z3 z4, .slice z5 z6 z7]) q := hraw.later (by rw [hB]; exact h5)
  obtain ⟨r, hrv, hrb, hrne, hrc, hro⟩ := ownV_hits h3 (by omega)
  have n0 := hrne _ _ _ h1 (by decide)
  have n2 := hrne _ _ _ h2 (by decide)
  have ev : v0 = v := by
   have := (show X.heap[B + 1 + 1]? = _ from hv0).symm.trans h2
   simpa using this
  have nR : p ≠ r := by
   rcases hro with e | e
   · intro e2
     rw [ev, e, e2] at hvp
     exact hvp rfl
   · have := hR.lt
     omega
  clear hvp hv0 ev
  obtain ⟨d0, d1, d2, _, _, _⟩ := hR.three
  have c1 := Boxed.cell h1
  have c2 := Boxed.cell h2
  have mkS : ∀ Y, Kept r X Y → Y.cell? ⟨B + 1 + 1, 0, none⟩ = some v ∧ Y.cell? ⟨B, 0, none⟩ = some (.func (.func 132) #[] #[]) ∧ Y.cell? ⟨p, 0, none⟩ = some (.bool z1) ∧ Y.cell? ⟨p, 1, none⟩ = some (.slice z2 z3 z4) ∧ Y.cell? ⟨p, 2, none⟩ = some (.slice z5 z6 z7) ∧ Kept r X Y := fun Y h =>
   ⟨h.cell c2 n2, h.cell c1 n0, h.cell d0 nR, h.cell d1 nR, h.cell d2 nR, h⟩
  have hle : fs.length ≤ es.length := by rw [h4.1, List.length_map]; exact Nat.le_of_lt hlt
  refine wpIn_block ?_
  refine region_roundL (fun Y => Y.cell? ⟨B + 1 + 1, 0, none⟩ = some v ∧ Y.cell? ⟨B, 0, none⟩ = some (.func (.func 132) #[] #[]) ∧ Y.cell? ⟨p, 0, none⟩ = some (.bool z1) ∧ Y.cell? ⟨p, 1, none⟩ = some (.slice z2 z3 z4) ∧ Y.cell? ⟨p, 2, none⟩ = some (.slice z5 z6 z7) ∧ Kept r X Y) 6
   (by kernel_rfl) (by kernel_rfl) (by rintro ⟨a', w', h⟩; exact h) (mkS _ ((Kept.refl r X).drew)) (fun hHeld => ?_)
  refine todo [0, 1, 2] ?_
  iterate 3
   refine todoL (v := ?_) rfl (by kernel_rfl) (fun _ _ _ h => h) (by assumption) (Or.inl ⟨by rfl, ?_⟩) ?_
   rotate_left
   · intro w hSw; (try dsimp only at hSw); go_simp; (try with_reducible rfl)
   try simp only [Act.put, nA, nB, nC, nD, nE, nF]
  refine todone ?_
  refine wpAnyL_one (i := 3) (by kernel_rfl) rfl (fun K hK => ?sb3)
  go_simp
  refine (copyRat_any (hraw'.later (show Below X.heap.size X X.drew from (Below.refl _ _).drew)) (by omega) (by omega)).mono ?_
  rintro e w5 ⟨rv, rfl, qv, hb5⟩
  have Q5 := Lib.hid qv
  obtain ⟨m5, f1, l1, j1, f2, l2, j2, rfl⟩ := qv.shape
  clear qv
  go_simp
  have hk5 : Kept r X w5 := ((Kept.refl r X).drew).below hb5
  refine hK.out _ _ (fun _ => mkS _ hk5) (fun hHeld2 => ?mb3)
  clear hK K hHeld
  have hHeld := hHeld2 (by decide)
  clear hHeld2
  try simp only [Act.put, nD, nE, nF]
  refine wpAnyL_one (i := 4) (by kernel_rfl) rfl (fun K hK => ?sb4)
  go_simp
  refine hK.out _ _ (fun _ => mkS _ (hk5.alloc _)) (fun hHeld2 => ?mb4)
  clear hK K hHeld
  have hHeld := hHeld2 (by decide)
  clear hHeld2
  try simp only [Act.put, nD, nE, nF]
  refine wpAnyL_one (i := 5) (by kernel_rfl) rfl (fun K hK => ?sb5)
  have hb5w : Below X.heap.size X w5 := (Below.refl _ X).drew.trans hb5
  have hB5 : Below B w w5 := h5.trans (hb5w.mono (by omega))
  have kk5 : KeepC X w5 := KeepC.below hb5w
  have hown5 : OwnE B 54 w5 v fs := h3.keepC kk5
  have hall5 := h4.imp (Q := fun u x => (fun W v x => RawO B W v x) w5 u x) fun u x _ h => h.keepC kk5
  have hsz5 := hb5w.size
  refine step_append_ownT rfl _ _ 96 rfl B 54 i0 _ 3 56 Tryz.underlying96 hi hz0 hz1 hz2 rfl (by decide) _ fs.length (flat3 fs) rfl (hown5.later ((Below.refl _ _).alloc (Nat.le_refl _) _)) ⟨w5.heap.size, 0, none⟩ 1 1 [.bool m5, .slice f1 l1 j1, .slice f2 l2 j2] rfl rfl (cell_three_new _ _ _ _ _) (by simp [Value.oneCell']) (by unfold maxLen; omega) (by omega) (by simp; omega) ?_
  intro v' w6 hown' hgrow _
  obtain ⟨av, cv, rfl⟩ := ownT_slice hown'
  have hk6 : Kept r X w6 := (hk5.alloc _).grown hgrow hrv
  refine hK.out _ _ (fun _ => mkS _ hk6) (fun hHeld2 => ?mb5)
  clear hK K hHeld
  have hHeld := hHeld2 (by decide)
  clear hHeld2
  try simp only [Act.put, nD, nE, nF]
  have R26 : Row w6 (B + 1 + 1) 96 #[v] := Row.kept h2 hk6 n2
  have f21 := R26.free 0
  have d21 := R26.cell 0
  refine wpAnyL_one (i := 6) (by kernel_rfl) rfl (fun K hK => ?sb6)
  go_simp
  refine hK.out _ _ (fun h => absurd rfl h) (fun _ => ?mb6)
  clear hK K
  try simp only [Act.put, nD, nE, nF]
  refine wpAnyL_done (by kernel_rfl) ?_ _
  have hx5 : (fun W v x => RawO B W v x) w5 (E3.agg ⟨.bool m5, .slice f1 l1 j1, .slice f2 l2 j2⟩) ((q)) := Q5.out.mono (by show B ≤ X.heap.size; omega)
  obtain ⟨hrow6, hb6⟩ := pushE (P := fun W v x => RawO B W v x) (e := ⟨.bool m5, .slice f1 l1 j1, .slice f2 l2 j2⟩) (base := B) (w := w) (by exact hB5) (by omega) hown5 hall5 hx5 (fun u y h => h.apart hown5 hgrow (by decide)) hown' hgrow
  refine ⟨keepsFrom_set (keepsFrom_kept hk6 hrc) _ _, ?_, ?_⟩
  · exact (keptBelow hk6 hrb (by omega)).setCell (by show B ≤ B + 1 + 1; omega) _
  · obtain ⟨fs', ho', ha'⟩ := RowO.far (w' := w6.setCell ⟨B + 1 + 1, 0, none⟩ (.slice av (fs.length + 1) cv)) hrow6 R26 (by decide) (kept1 _) (fun u y h => h.far R26 (by decide) (kept1 _))
    have r1 : Boxed w6 B 128 (.func (.func 132) #[] #[]) := Row.kept h1 hk6 n0
    have hk6s := hk6.size
    refine ⟨_, fs', ?_, ?_, ho', ?_, hb6.setCell (by show B ≤ B + 1 + 1; omega) _, by have := (Only.set w6 (B + 1 + 1) 0 (.slice av (fs.length + 1) cv)).size; omega⟩
    · exact Row.far (p := ⟨B + 1 + 1, 0, none⟩) r1 (by show B ≠ B + 1 + 1; omega) _
    · exact Boxed.set _ R26
    · rw [List.map_append, List.map_cons, List.map_nil]
      simp only [hgd]
      exact ha'
 case done =>
  rintro D ys X hD hup ⟨v, fs, h1, h2, h3, h4, h5, h6⟩ hK
  have c2 := Boxed.cell h2
  have e : ys.map (fun x => (qs[x.val]?.getD ⟨false, [], []⟩)) = qs.map (fun q => (q)) := list_upto qs (fun q => (q)) _ HEL.out.symm hup
  rw [List.map_id' qs] at e
  rw [e] at h4
  gi_wp2
  refine ⟨by simp, .inl ⟨_, _, rfl, run_takeDeferred hK, ?_⟩⟩
  have kk : ∀ o', KeepC X (X.putObj D o') := fun o' => KeepC.grown (grownBy_putObj' X D o') (fun r e => by cases e; exact ⟨_, hK, rfl⟩)
  exact ⟨_, results_tmp rfl _ _ _, _, rfl, ⟨fs, h3.keepC (kk _), h4.imp fun u x _ h => h.keepC (kk _)⟩, h5.trans (belowK_b (w := w) (by omega) X D _ _ (by omega) hK rfl rfl)⟩
 case stop =>
  rintro D c pre X _ _ h _
  exact h.elim
end
end Go.Proofs.YtengpgodmbfmkaaGreat
