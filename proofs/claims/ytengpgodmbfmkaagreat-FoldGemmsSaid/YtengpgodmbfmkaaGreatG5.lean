/-
  Part 5 of 39: contracts and what they rest on (Trim, Mul, Val, ValD, RefA).
-/
import Derived.Test.YtengpgodmbfmkaaGreatG3
import Derived.Test.YtengpgodmbfmkaaGreatG4
namespace Go.Proofs.YtengpgodmbfmkaaGreat
set_option linter.unusedVariables false
set_option linter.unusedSimpArgs false
set_option maxRecDepth 100000
set_option maxHeartbeats 40000000
section
open Go.RowKit Go.Shelf
attribute [local go_sem] Oper.semAt_some
theorem trim_any (ad : Option Addr) (xs : List Int) (cap : Nat) (w : World) (hl : Lim w ad xs) (hm : xs.length ≤ 35184372088832) (hcap : xs.length ≤ cap) :
 Calls Tryz.prog 162 #[.slice ad xs.length cap] w fun e w' => ∃ v, e = .returned v ∧ Num w.heap.size w' v (trim xs) ∧ Below w.heap.size w w' := by
 have hle := trim_le xs
 obtain ⟨i0, hi, hz0, hz1, hz2⟩ := info_parts infoLimb
 obtain ⟨n, hn⟩ : ∃ n : Nat, Hid (3 ≤ n) := ⟨3, Nat.le_refl 3⟩
 refine (callsIn_wide (n := n)).1 ?_
 refine callsIn_of_wp_marks Tryz.func162 rfl trivial ?_ rfl
 simp only [Tryz.ntmps162, List.size_toArray, List.length_cons, List.length_nil, Nat.reduceAdd, Nat.reduceSub, Array.replicate_succ, Array.replicate_zero, List.push_toArray, List.append_toArray, List.nil_append, List.cons_append]
 gi_wp2_with fail
 refine wideCall ((cut_any ad xs cap _ hl (by unfold maxLen; omega) hcap).mono ?_)
 rintro e w' ⟨rfl, rfl⟩
 obtain ⟨m, hmm⟩ : ∃ m, trimN xs xs.length = m := ⟨_, rfl⟩
 have hmk := make_run0 m (by omega)
 rw [hmm]
 rw [hmm] at hle
 have HM := Lib.hid hmm
 clear hmm
 gi_wp2_with fail
 refine wideCall ((limbs_any ad xs.length cap _).mono ?_)
 rintro e w' ⟨rfl, rfl⟩
 gi_wp2_with fail
 have h3 : 3 ≤ n := hn
 have bO := Boxed.new (w.alloc (Obj.cells (madeCells #[Value.int IntKind.u32 0] m) 144)) 52 (Value.slice (some ⟨w.heap.size, 0, none⟩) 0 m)
 have bN := Boxed.new ((w.alloc (Obj.cells (madeCells #[Value.int IntKind.u32 0] m) 144)).alloc (Obj.cells #[Value.slice (some ⟨w.heap.size, 0, none⟩) 0 m] 52)) 52 (Value.slice ad xs.length cap)
 have hown : ((w.alloc (Obj.cells (madeCells #[Value.int IntKind.u32 0] m) 144))).ownsRow w.heap.size 144 1 (Value.slice (some ⟨w.heap.size, 0, none⟩) 0 m) 0 [] :=
  ⟨rfl, .inr ⟨w.heap.size, m, _, rfl, Nat.le_refl _, heap_alloc_new w _, Nat.zero_le _, by unfold maxLen; omega, by simp [madeCells], by simp⟩⟩
 simp only [World.size_alloc] at bO bN
 have hB0 : Below w.heap.size w (((w.alloc (Obj.cells (madeCells #[Value.int IntKind.u32 0] m) 144)).alloc (Obj.cells #[Value.slice (some ⟨w.heap.size, 0, none⟩) 0 m] 52)).alloc (Obj.cells #[Value.slice ad xs.length cap] 52)) :=
  (((Below.refl _ w).alloc (Nat.le_refl _) _).alloc (by simp) _).alloc (by simp; omega) _
 refine wpIn_rangeFunc_ownG rfl (by omega) (gf := 188) (lb := #[.pointer (some ⟨w.heap.size + 1 + 1, 0, none⟩)]) rfl trivial (enters_of Tryz.func188 (by kernel_rfl) rfl)
  (limbs_stops (n - 1) (w.heap.size + 1 + 1) w.heap.size ad xs cap hm hcap hl.lt _ (by simp) bN.cell (hl.later hB0)) belowK_t (belowK_b (by simp; omega)) (Below.refl _ _) (fun _ => rfl)
  (fun (pre : List (Fin (trimN xs xs.length))) W => (∃ v, Boxed W (w.heap.size + 1) 52 v ∧ W.ownsRow w.heap.size 144 1 v pre.length (pre.map fun x => Value.int .u32 (xs[x.val]?.getD 0)) ∧ True) ∧ Below w.heap.size w W)
  (fun _ _ _ => False)
  (OwnFrom.and (Own.from (holdsRow_own w.heap.size (w.heap.size + 1) 52 144 1 (fun pre : List (Fin (trimN xs xs.length)) => pre.length) (fun pre => pre.map fun x => Value.int .u32 (xs[x.val]?.getD 0)) (fun _ _ => True)) _) (ownFrom_below (Nat.le_refl _) (by simp; omega)))
  (fun _ _ _ _ _ hs _ _ => hs)
  ⟨⟨_, bO.alloc _, (hown.alloc _).alloc _, trivial⟩, hB0⟩
  (fun (x : Fin (trimN xs xs.length)) => { tmps := #[.slice ad xs.length cap, undef, .slice none 0 0, .pointer (some ⟨w.heap.size + 1, 0, none⟩), undef, .int .u32 (xs[x.val]?.getD 0), .slice ad xs.length cap, .slice ad m cap, .int .i64 m, .slice (some ⟨w.heap.size, 0, none⟩) 0 m, .slice ad xs.length cap,
    .func (.func 188) #[] #[.pointer (some ⟨w.heap.size + 1 + 1, 0, none⟩)], .int .i64 (x.val : Int), .int .u32 (xs[x.val]?.getD 0), undef, undef, undef, undef, undef], defers := [] }) ?assign ?body ?done ?stop
 case assign =>
  intro l x W K hK
  simp only [limbAt]
  gi_wp2
  exact hK
 case body =>
  rintro l pre x W ⟨⟨v, hv, hrow, _⟩, hB⟩ hlt
  have hc := hv.cell
  have hpl : pre.length + 1 ≤ 35184372088832 := by have := HM.out; omega
  have hbs := hB.size
  gi_wp2_with (gi_at_builtin; refine wpListIn_append_own _ rfl _ _ 52 rfl w.heap.size 144 i0 (.int .u32 0) 1 4 Tryz.underlying52 hi hz0 hz1 hz2 rfl (by decide) _ _ _ rfl (hrow.alloc _) ⟨W.heap.size, 0, none⟩ 1 1 [.int .u32 (xs[x.val]?.getD 0)] rfl rfl (cell_one_new _ _ _) (by simp [Value.oneCell']) (by unfold maxLen; omega) (by omega) (by simp; omega) ?_; intro v' w1 hown' hgrow _; obtain ⟨g', cap', rfl⟩ := ownsRow_succ hown'; obtain ⟨hv1, hv2, hr2, hk2, hb2⟩ := hv.appended (by decide) hrow hB.size (Nat.le_succ _) hown' hgrow; have hc1 := hv1.cell; have hf1 := hv1.frozen)
  exact ⟨hk2.from _, hb2, ⟨_, hv2, by simpa using hr2, trivial⟩, hB.trans hb2⟩
 case done =>
  rintro D ys W hD hup ⟨⟨v, hv, hrow, _⟩, hB⟩ hK
  have hc := hv.cell
  gi_wp2
  refine ⟨by simp, .inl ⟨_, _, rfl, run_takeDeferred hK, ?_⟩⟩
  refine ⟨_, results_tmp rfl _ _ _, v, rfl, ?_, hB.trans (belowK_b (w := w) (Nat.le_refl _) W D _ _ (by simp at hD; omega) hK rfl rfl)⟩
  have h2 := ownsRow_putObj hrow (.deferred none) hK rfl
  have e : trim xs = ys.map (fun x => xs[x.val]?.getD 0) := (hup.limbs (trim_le xs)).symm
  unfold Num
  rw [e, List.length_map, List.map_map]
  exact h2
 case stop =>
  rintro D c pre W _ _ h _
  exact h.elim
end
section
open Go.RowKit Go.Shelf
attribute [local go_sem] Oper.semAt_some
theorem trimN_last (xs : List Int) (n : Nat) (h : 0 < trimN xs n) : xs.getD (trimN xs n - 1) 0 ≠ 0 := by
 induction n with
 | zero => simp [trimN] at h
 | succ n ih =>
   unfold trimN at h ⊢
   split
   · rename_i hz; rw [if_pos hz] at h; exact ih h
   · rename_i hz; simpa using hz
theorem trim_full (xs : List Int) : trimN (trim xs) (trim xs).length = (trim xs).length := by
 rw [trim_length]
 have hl := trimN_last xs xs.length
 have hle := trim_le xs
 unfold trim
 generalize trimN xs xs.length = m at *
 cases m with
 | zero => rfl
 | succ j =>
   have h := hl (by omega)
   simp only [Nat.add_sub_cancel] at h
   unfold trimN
   rw [if_neg]
   simpa [List.getD, List.getElem?_take] using h
def mulOf (us vs : List Int) (ks : List Nat) : List Int := ks.foldl (fun z k => rowL z k (us.getD k 0) vs) (List.replicate (us.length + vs.length) 0)
def mulL (us vs : List Int) : List Int := mulOf us vs (List.range us.length)
theorem mulOf_snoc (us vs : List Int) (ks : List Nat) (k : Nat) : mulOf us vs (ks ++ [k]) = rowL (mulOf us vs ks) k (us.getD k 0) vs := by simp [mulOf]
theorem rowL_ok (zs : List Int) (off : Nat) (x : Int) (vs : List Int) (hz : Wf zs) (hx : 0 ≤ x ∧ x < 4294967296) (hv : Wf vs) : (rowL zs off x vs).length = zs.length ∧ Wf (rowL zs off x vs) := by
 obtain ⟨h1, h2, h3, h4⟩ := rowOf_ok zs off x vs hz hx hv (List.range vs.length)
 exact ⟨by simp [rowL, h1], h2.set _ ⟨h3, h4⟩⟩
theorem Wf.zeros (n : Nat) : Wf (List.replicate n 0) := fun x hx => by rw [List.eq_of_mem_replicate hx]; omega
theorem mulOf_ok (us vs : List Int) (hu : Wf us) (hv : Wf vs) (ks : List Nat) : (mulOf us vs ks).length = us.length + vs.length ∧ Wf (mulOf us vs ks) := by
 suffices h : ∀ z : List Int, z.length = us.length + vs.length ∧ Wf z → ((ks.foldl (fun z k => rowL z k (us.getD k 0) vs) z).length = us.length + vs.length ∧ Wf (ks.foldl (fun z k => rowL z k (us.getD k 0) vs) z)) from
  h _ ⟨by simp, Wf.zeros _⟩
 induction ks with
 | nil => exact fun z h => h
 | cons k ks ih =>
   intro z ⟨g1, g2⟩
   have h := rowL_ok z k (us.getD k 0) vs g2 (hu.getD k) hv
   exact ih _ ⟨h.1.trans g1, h.2⟩
set_option linter.unusedSimpArgs false in
theorem mul_any (a b : Option Addr) (xs ys : List Int) (capa capb : Nat) (w : World) (hla : Lim w a xs) (hlb : Lim w b ys) (hma : xs.length ≤ 35184372088832) (hmb : ys.length ≤ 35184372088832)
 (hca : xs.length ≤ capa) (hcb : ys.length ≤ capb) (hwa : Wf xs) (hwb : Wf ys) :
 Calls Tryz.prog 166 #[.slice a xs.length capa, .slice b ys.length capb] w fun e w' => ∃ v, e = .returned v ∧ Num w.heap.size w' v (trim (mulL (trim xs) (trim ys))) ∧ Below w.heap.size w w' := by
 have hta := trim_le xs
 have htb := trim_le ys
 obtain ⟨n, hn⟩ : ∃ n : Nat, Hid (3 ≤ n) := ⟨3, Nat.le_refl 3⟩
 refine (callsIn_wide (n := n)).1 ?_
 refine callsIn_of_wp_marks Tryz.func166 rfl trivial ?_ rfl
 simp only [Tryz.ntmps166, List.size_toArray, List.length_cons, List.length_nil, Nat.reduceAdd, Nat.reduceSub, Array.replicate_succ, Array.replicate_zero, List.push_toArray, List.append_toArray, List.nil_append, List.cons_append]
 gi_wp2_with fail
 have bB := Boxed.new w 52 (.slice b ys.length capb)
 have hB0 : Below w.heap.size w (w.alloc (.cells #[.slice b ys.length capb] 52)) := (Below.refl _ w).alloc (Nat.le_refl _) _
 have hs0 : (w.alloc (.cells #[.slice b ys.length capb] 52)).heap.size = w.heap.size + 1 := by simp
 generalize w.alloc (.cells #[.slice b ys.length capb] 52) = W at *
 have hcB := bB.cell
 have hfB := bB.frozen
 have hla' : Lim W.drew a xs := hla.later hB0.drew
 have hlb' : Lim W.drew b ys := hlb.later hB0.drew
 refine wpIn_wide.2 ?_
 go_still_tail 5, (by kernel_rfl)
 still_call (cut_still a xs capa _ hla' hma hca)
 repeat still_step
 still_call (cut_still b ys capb _ hlb' hmb hcb)
 repeat still_step
 refine wpStill_nil ?_
 have hlu : Lim w a (trim xs) := hla.take _
 have hlv : Lim w b (trim ys) := hlb.take _
 have hwu := hwa.trim
 have hwv := hwb.trim
 have htu := trim_full xs
 have htv := trim_full ys
 rw [← trim_length xs, ← trim_length ys]
 have hlen1 : (trim xs).length ≤ 35184372088832 := by rw [trim_length]; omega
 have hlen2 : (trim ys).length ≤ 35184372088832 := by rw [trim_length]; omega
 have hcu : (trim xs).length ≤ capa := by rw [trim_length]; omega
 have hcv : (trim ys).length ≤ capb := by rw [trim_length]; omega
 clear hla hlb hla' hlb' hta htb
 obtain ⟨us, hus⟩ : ∃ us, trim xs = us := ⟨_, rfl⟩
 obtain ⟨vs, hvs⟩ : ∃ vs, trim ys = vs := ⟨_, rfl⟩
 rw [hus] at hlu hlen1 hwu hcu htu ⊢
 rw [hvs] at hlv hlen2 hwv hcv htv ⊢
 have HU := Lib.hid hus
 have HV := Lib.hid hvs
 have HTU := Lib.hid htu
 have HTV := Lib.hid htv
 clear hus hvs htu htv
 go_wp2_with fail
 have bB2 : Boxed (W.setCell ⟨w.heap.size, 0, none⟩ (.slice b vs.length capb)).drew w.heap.size 52 (.slice b vs.length capb) := bB.set _
 have hB2 : Below w.heap.size w (W.setCell ⟨w.heap.size, 0, none⟩ (.slice b vs.length capb)).drew := (hB0.setCell (p := ⟨w.heap.size, 0, none⟩) (Nat.le_refl _) _).drew
 have hsz2 : (W.setCell ⟨w.heap.size, 0, none⟩ (.slice b vs.length capb)).drew.heap.size = w.heap.size + 1 := by have := (Only.set W w.heap.size 0 (.slice b vs.length capb)).size; exact this.trans hs0
 have hlu2 := hlu.later hB2
 have hlv2 := hlv.later hB2
 clear bB hB0 hcB hfB hlu hlv hs0
 generalize (W.setCell ⟨w.heap.size, 0, none⟩ (.slice b vs.length capb)).drew = V at *
 have hcB := bB2.cell
 have hsV : w.heap.size + 1 ≤ V.heap.size := by omega
 clear hsz2
 have hmk := make_runN (us.length + vs.length) (us.length + vs.length) (Nat.le_refl _) (by omega)
 rw [Int.natCast_add] at hmk
 gi_wp2_with fail
 refine wideCall ((limbs_any a us.length capa _).mono ?_)
 rintro e w' ⟨rfl, rfl⟩
 gi_wp2_with fail
 have j1 := ((Blk.made V (us.length + vs.length)).alloc (Obj.cells #[Value.slice (some ⟨V.heap.size, 0, none⟩) (us.length + vs.length) (us.length + vs.length)] 52)).alloc (Obj.cells #[Value.slice a us.length capa] 52)
 have j2 := (Boxed.new (V.alloc (Obj.cells (madeCells #[Value.int .u32 0] (us.length + vs.length)) 144)) 52 (Value.slice (some ⟨V.heap.size, 0, none⟩) (us.length + vs.length) (us.length + vs.length))).alloc (Obj.cells #[Value.slice a us.length capa] 52)
 have j5 := Boxed.new ((V.alloc (Obj.cells (madeCells #[Value.int .u32 0] (us.length + vs.length)) 144)).alloc (Obj.cells #[Value.slice (some ⟨V.heap.size, 0, none⟩) (us.length + vs.length) (us.length + vs.length)] 52)) 52 (Value.slice a us.length capa)
 have j6 : Below V.heap.size V (((V.alloc (Obj.cells (madeCells #[Value.int .u32 0] (us.length + vs.length)) 144)).alloc (Obj.cells #[Value.slice (some ⟨V.heap.size, 0, none⟩) (us.length + vs.length) (us.length + vs.length)] 52)).alloc (Obj.cells #[Value.slice a us.length capa] 52)) :=
  (((Below.refl _ V).alloc (Nat.le_refl _) _).alloc (by simp) _).alloc (by simp; omega) _
 have j7 : (((V.alloc (Obj.cells (madeCells #[Value.int .u32 0] (us.length + vs.length)) 144)).alloc (Obj.cells #[Value.slice (some ⟨V.heap.size, 0, none⟩) (us.length + vs.length) (us.length + vs.length)] 52)).alloc (Obj.cells #[Value.slice a us.length capa] 52)).heap.size = V.heap.size + 3 := by simp
 simp only [World.size_alloc] at j2 j5
 generalize (((V.alloc (Obj.cells (madeCells #[Value.int .u32 0] (us.length + vs.length)) 144)).alloc (Obj.cells #[Value.slice (some ⟨V.heap.size, 0, none⟩) (us.length + vs.length) (us.length + vs.length)] 52)).alloc (Obj.cells #[Value.slice a us.length capa] 52)) = W5 at *
 clear hmk
 have h3 : 3 ≤ n := hn
 refine wpIn_rangeFunc_ownF rfl (by omega) (gf := 188) (lb := #[.pointer (some ⟨V.heap.size + 1 + 1, 0, none⟩)]) rfl trivial (enters_of Tryz.func188 (by kernel_rfl) rfl)
  (limbs_stops (n - 1) (V.heap.size + 1 + 1) V.heap.size a us capa hlen1 hcu hlu2.lt _ (by omega) j5.cell (hlu2.later j6)) belowK_t (belowK_b (by omega)) (Below.refl _ _) (fun _ => rfl)
  (fun (pre : List (Fin (trimN us us.length))) X => (Blk X V.heap.size (mulOf us vs (pre.map Fin.val)) ∧ Boxed X (V.heap.size + 1) 52 (.slice (some ⟨V.heap.size, 0, none⟩) (us.length + vs.length) (us.length + vs.length))) ∧ Below V.heap.size V X)
  (fun _ _ _ => False)
  (OwnFrom.and (Own.from (Own.and2 (blk_own _ _) (boxed_own _ _ _)) _) (ownFrom_below (Nat.le_refl _) (by omega)))
  (fun _ _ _ _ _ hs _ _ => hs)
  ⟨⟨j1, j2⟩, j6⟩
  (fun (x : Fin (trimN us us.length)) => { tmps := #[.slice a us.length capa, .slice b ys.length capb, undef, .pointer (some ⟨w.heap.size, 0, none⟩), .slice none 0 0, .pointer (some ⟨V.heap.size + 1, 0, none⟩), .int .i64 (x.val : Int), .int .u32 (us[x.val]?.getD 0),
    .slice a xs.length capa, .slice a us.length capa, .slice b ys.length capb, .slice b vs.length capb, .slice a us.length capa, .int .i64 us.length, .slice b vs.length capb, .int .i64 vs.length, .int .i64 ((us.length : Int) + (vs.length : Int)),
    .slice (some ⟨V.heap.size, 0, none⟩) (us.length + vs.length) (us.length + vs.length), .slice a us.length capa, .func (.func 188) #[] #[.pointer (some ⟨V.heap.size + 1 + 1, 0, none⟩)], .int .i64 (x.val : Int), .int .u32 (us[x.val]?.getD 0),
    undef, undef, undef, undef, undef, undef, undef, undef], defers := [] }) ?assign ?body ?done ?stop
 case assign =>
  intro l x X K hK
  simp only [limbAt]
  gi_wp2
  exact hK
 case body =>
  rintro l pre ⟨k, hk⟩ X ⟨⟨hblk, q1⟩, hB⟩ hlt
  have hkm : k < us.length := by have := HTU.out; omega
  obtain ⟨ok1, okw⟩ := mulOf_ok us vs hwu hwv (pre.map Fin.val)
  obtain ⟨z, hz⟩ : ∃ z, mulOf us vs (pre.map Fin.val) = z := ⟨_, rfl⟩
  rw [hz] at hblk ok1 okw
  obtain ⟨x, hxk⟩ : ∃ x, us.getD k 0 = x := ⟨_, rfl⟩
  have bx : 0 ≤ x ∧ x < 4294967296 := hxk ▸ hwu.getD k
  have hxk2 : us[k]?.getD 0 = x := hxk
  simp only [hxk2]
  obtain ⟨L, hL⟩ : ∃ L, k + L = us.length + vs.length := ⟨us.length + vs.length - k, by omega⟩
  have hLk : us.length + vs.length - k = L := by omega
  have HX := Lib.hid hxk
  have HZ := Lib.hid hz
  have HL := Lib.hid hL
  have hLv : vs.length < L := by omega
  clear hxk hxk2 hz hL
  have hle2 : (k : Int) ≤ (us.length : Int) + (vs.length : Int) := by omega
  have hne2 : ¬ (us.length + vs.length = k) := by omega
  have c1 := q1.cell
  have bX : Boxed X w.heap.size 52 (.slice b vs.length capb) := (hB.block w.heap.size (by omega)).trans bB2
  have c0 := bX.cell
  have hsX := hB.size
  have hkN : k < us.length + vs.length := by omega
  refine wpIn_block ?_
  refine region_round (fun X' => X'.cell? ⟨V.heap.size + 1, 0, none⟩ = some (.slice (some ⟨V.heap.size, 0, none⟩) (us.length + vs.length) (us.length + vs.length)) ∧ X'.cell? ⟨w.heap.size, 0, none⟩ = some (.slice b vs.length capb))
   (by kernel_rfl) (by kernel_rfl) (by rintro ⟨a', w', h⟩; exact h) ⟨c1, c0⟩ (fun hHeld => ?_)
  refine todo [0, 1, 2, 3, 4] ?_
  iterate 5
   refine todoH (v := ?_) rfl (by kernel_rfl) (fun _ _ _ h => h) (by assumption) (Or.inl ⟨by rfl, ?_⟩) ?_
   rotate_left
   · intro w hSw; (try dsimp only at hSw); go_simp; (try with_reducible rfl)
   try simp only [Act.put, nA, nB, nC, nD, nE, nF]
  refine todone ?_
  refine wpAnyH_ready (rs := [5]) (by kernel_rfl) (by simp) ?_
  refine AllReadyH.cons rfl (fun K hK => ?sb5) AllReadyH.nil
  go_simp
  refine (row_any V.heap.size k L L b z vs x capb X.drew hblk (by have := HL.out; omega) hLv ((hlv2.later hB).later (show Below X.heap.size X X.drew from (Below.refl _ _).drew)) hlen2 hcv HTV.out hlv2.lt okw hwv bx).mono ?_
  rintro e w2 ⟨rfl, hblk2, hgr⟩
  go_simp
  refine hK.out _ _ ?kb5 (fun hHeld => ?mb5)
  case kb5 =>
   try dsimp only
   exact ⟨hgr.cell c1 (by simp), hgr.cell c0 (by simp <;> omega)⟩
  clear hK K
  try simp only [Act.put, nD, nE, nF]
  refine wpAnyH_done (by kernel_rfl) ?_ _
  have es : mulOf us vs ((pre ++ [(⟨k, hk⟩ : Fin (trimN us us.length))]).map Fin.val) = rowL z k x vs := by
   rw [List.map_append, List.map_cons, List.map_nil, mulOf_snoc, HZ.out, HX.out]
  have hbo : Below V.heap.size X w2 := (Below.refl _ X).drew.grown hgr hsX (fun j ej => by cases ej; exact Nat.le_refl _)
  refine ⟨(KeepsOthers.drew X).trans (KeepsOthers.of_grownBy hgr (fun j o ej hj => by cases ej; rw [show X.drew.heap[V.heap.size]? = _ from hblk] at hj; cases hj; rfl)), hbo, ?_, hB.trans hbo⟩
  rw [es]
  exact ⟨hblk2, Boxed.kept (W := X.drew) q1 hgr (by simp)⟩
 case done =>
  rintro D ks X hD hup ⟨⟨hblk, q1⟩, hB⟩ hK
  have ok1 := (mulOf_ok us vs hwu hwv (ks.map Fin.val)).1
  have hnum := Num.ofBlk hblk (Nat.le_refl _) (us.length + vs.length) (by omega) (by rw [ok1]; unfold maxLen; omega)
  rw [ok1, List.take_of_length_le (by omega)] at hnum
  have es : mulL us vs = mulOf us vs (ks.map Fin.val) := by unfold mulL; rw [hup, HTU.out]
  rw [← es] at hnum
  have c1 := q1.cell
  gi_wp2_with fail
  refine wideCall ((cut_num hnum).mono ?_)
  rintro e w' ⟨u, rfl, hu, rfl⟩
  gi_wp2_with fail
  refine ⟨by simp, .inl ⟨_, _, rfl, run_takeDeferred hK, ?_⟩⟩
  refine ⟨_, results_tmp rfl _ _ _, u, rfl, ?_, (hB2.trans (hB.mono (by omega))).trans (belowK_b (w := w) (Nat.le_refl _) X D _ _ (by omega) hK rfl rfl)⟩
  rw [HU.out, HV.out]
  exact ownsRow_putObj (hu.mono (by omega)) (.deferred none) hK rfl
 case stop =>
  rintro D c pre X _ _ h _
  exact h.elim
end
section
open Go.RowKit
theorem pow_pos' (k : Nat) : (0 : Int) < 4294967296 ^ k := Int.pow_pos (by omega)
theorem val_take_succ (xs : List Int) (k : Nat) : val (xs.take (k + 1)) = val (xs.take k) + 4294967296 ^ k * xs.getD k 0 := by
 by_cases h : k < xs.length
 · rw [List.take_succ_eq_append_getElem h, val_append, List.length_take, Nat.min_eq_left (by omega)]
   simp [val, h]
 · rw [List.take_of_length_le (by omega), List.take_of_length_le (by omega)]
   simp [List.getElem?_eq_none (Nat.le_of_not_lt h)]
theorem val_lt {xs : List Int} (h : Wf xs) : val xs < 4294967296 ^ xs.length := by
 induction xs with
 | nil => simp [val]
 | cons x xs ih =>
   have h1 := ih h.tail
   have h2 := h.head
   simp only [val, List.length_cons, Int.pow_succ]
   omega
theorem val_trimN (xs : List Int) (n : Nat) : val (xs.take (trimN xs n)) = val (xs.take n) := by
 induction n with
 | zero => rfl
 | succ n ih =>
   unfold trimN
   split
   · rename_i hz
     rw [val_take_succ, hz, ih]
     simp
   · rfl
theorem val_trim (xs : List Int) : val (trim xs) = val xs := by
 unfold trim
 rw [val_trimN, List.take_length]
theorem getD_ge_trimN (xs : List Int) (n k : Nat) (h1 : trimN xs n ≤ k) (h2 : k < n) : xs.getD k 0 = 0 := by
 induction n with
 | zero => omega
 | succ n ih =>
   unfold trimN at h1
   split at h1
   · rename_i hz
     by_cases e : k = n
     · rw [e]; exact hz
     · exact ih h1 (by omega)
   · omega
theorem val_take_ge (xs : List Int) (k : Nat) (h : trimN xs xs.length ≤ k) : val (xs.take k) = val xs := by
 induction k with
 | zero =>
   have h0 : trimN xs xs.length = 0 := by omega
   rw [← val_trim xs]
   unfold trim
   rw [h0]
 | succ k ih =>
   by_cases hk : trimN xs xs.length ≤ k
   · rw [val_take_succ, ih hk]
     by_cases hl : k < xs.length
     · rw [getD_ge_trimN xs xs.length k hk hl]; simp
     · simp [List.getElem?_eq_none (Nat.le_of_not_lt hl)]
   · have e : trimN xs xs.length = k + 1 := by omega
     rw [← e]
     exact val_trim xs
theorem getD_eq_of_val {us vs : List Int} (hu : Wf us) (hv : Wf vs) (h : val us = val vs) : ∀ k, us.getD k 0 = vs.getD k 0 := by
 induction us generalizing vs with
 | nil =>
   induction vs with
   | nil => intro k; rfl
   | cons y ys ih =>
     have h1 := hv.head
     have h2 := val_nonneg hv.tail
     simp only [val] at h
     have hy : y = 0 := by omega
     have hys : val [] = val ys := by simp only [val]; omega
     intro k
     cases k with
     | zero => simp [hy]
     | succ k => have := ih hv.tail hys k; simpa using this
 | cons x xs ih =>
   cases vs with
   | nil =>
     have h1 := hu.head
     have h2 := val_nonneg hu.tail
     simp only [val] at h
     have hx : x = 0 := by omega
     intro k
     cases k with
     | zero => simp [hx]
     | succ k => have := ih hu.tail Wf.nil (by simp only [val]; omega) k; simpa using this
   | cons y ys =>
     have h1 := hu.head
     have h2 := hv.head
     simp only [val] at h
     intro k
     cases k with
     | zero => simp; omega
     | succ k => have := ih hu.tail hv.tail (by omega) k; simpa using this
theorem canon {us vs : List Int} (hu : Wf us) (hv : Wf vs) (fu : trimN us us.length = us.length) (fv : trimN vs vs.length = vs.length) (h : val us = val vs) : us = vs := by
 have hd := getD_eq_of_val hu hv h
 have lu := trimN_last us us.length
 have lv := trimN_last vs vs.length
 rw [fu] at lu
 rw [fv] at lv
 have hl : us.length = vs.length := by
  rcases Nat.lt_trichotomy us.length vs.length with h1 | h1 | h1
  · exfalso
    refine lv (by omega) ?_
    rw [← hd]
    simp [List.getElem?_eq_none (show us.length ≤ vs.length - 1 by omega)]
  · exact h1
  · exfalso
    refine lu (by omega) ?_
    rw [hd]
    simp [List.getElem?_eq_none (show vs.length ≤ us.length - 1 by omega)]
 apply List.ext_getElem hl
 intro i h1 h2
 have := hd i
 simpa [h1, h2] using this
theorem mod_div (s : Int) : s % 4294967296 + 4294967296 * (s / 4294967296) = s := by omega
theorem val_addTo (xs ys : List Int) (k : Nat) : val (addTo xs ys k).1 + 4294967296 ^ k * (addTo xs ys k).2 = val (xs.take k) + val (ys.take k) := by
 induction k with
 | zero => simp [addTo, val]
 | succ k ih =>
   rw [val_take_succ, val_take_succ]
   simp only [addTo]
   rw [val_append, addTo_length]
   simp only [val, Int.pow_succ]
   have hm := mod_div ((addTo xs ys k).2 + xs.getD k 0 + ys.getD k 0)
   generalize (addTo xs ys k).2 = c at *
   generalize ((c + xs.getD k 0 + ys.getD k 0) % 4294967296) = r at *
   generalize ((c + xs.getD k 0 + ys.getD k 0) / 4294967296) = q at *
   generalize (4294967296 : Int) ^ k = P at *
   grind
theorem val_addL (xs ys : List Int) : val (addL xs ys) = val xs + val ys := by
 unfold addL
 rw [val_append, addTo_length]
 have h := val_addTo xs ys (addN xs ys)
 rw [val_take_ge xs _ (by unfold addN; omega), val_take_ge ys _ (by unfold addN; omega)] at h
 simp only [val, Int.mul_zero, Int.add_zero]
 exact h
theorem addL_wf {xs ys : List Int} (hx : Wf xs) (hy : Wf ys) : Wf (addL xs ys) := by
 have h := addTo_carry xs ys hx hy (addN xs ys)
 exact (addTo_wf xs ys _).append (Wf.cons (by omega) Wf.nil)
theorem val_set (xs : List Int) (k : Nat) (a : Int) (h : k < xs.length) : val (xs.set k a) = val xs + 4294967296 ^ k * (a - xs.getD k 0) := by
 induction xs generalizing k with
 | nil => simp at h
 | cons x xs ih =>
   cases k with
   | zero => simp [val]; omega
   | succ k =>
     have := ih k (by simpa using h)
     simp only [List.set_cons_succ, val, this, Int.pow_succ]
     simp only [List.getD_cons_succ]
     grind
theorem getD_set (xs : List Int) (k j : Nat) (a : Int) (hk : k < xs.length) : (xs.set k a).getD j 0 = if j = k then a else xs.getD j 0 := by
 by_cases e : j = k
 · subst e; simp [hk]
 · simp only [List.getD, List.getElem?_set]
   rw [if_neg (Ne.symm e), if_neg e]
theorem rowOf_val (zs : List Int) (off : Nat) (x : Int) (vs : List Int) (hl : off + vs.length < zs.length) (k : Nat) (hk : k ≤ vs.length) :
 (rowOf zs off x vs (List.range k)).1.length = zs.length ∧
 val (rowOf zs off x vs (List.range k)).1 + 4294967296 ^ (off + k) * (rowOf zs off x vs (List.range k)).2 = val zs + 4294967296 ^ off * (x * val (vs.take k)) ∧
 (∀ j, off + k ≤ j → (rowOf zs off x vs (List.range k)).1.getD j 0 = zs.getD j 0) := by
 induction k with
 | zero => simp [rowOf, val]
 | succ k ih =>
   obtain ⟨h1, h2, h3⟩ := ih (by omega)
   rw [List.range_succ, rowOf_snoc]
   generalize rowOf zs off x vs (List.range k) = st at *
   obtain ⟨z, c⟩ := st
   simp only at h1 h2 h3
   simp only [rowStep]
   refine ⟨by simp [h1], ?_, fun j hj => ?_⟩
   · rw [val_set _ _ _ (by omega), val_take_succ]
     have hm := mod_div (c + x * vs.getD k 0 + z.getD (off + k) 0)
     have hp : (4294967296 : Int) ^ (off + (k + 1)) = 4294967296 ^ (off + k) * 4294967296 := by rw [show off + (k + 1) = (off + k) + 1 from by omega, Int.pow_succ]
     have hq : (4294967296 : Int) ^ (off + k) = 4294967296 ^ off * 4294967296 ^ k := Int.pow_add ..
     rw [hp]
     generalize ((c + x * vs.getD k 0 + z.getD (off + k) 0) % 4294967296) = r at *
     generalize ((c + x * vs.getD k 0 + z.getD (off + k) 0) / 4294967296) = q at *
     generalize (4294967296 : Int) ^ (off + k) = P at *
     generalize (4294967296 : Int) ^ k = P2 at *
     generalize (4294967296 : Int) ^ off = P1 at *
     generalize vs.getD k 0 = y at *
     generalize z.getD (off + k) 0 = t at *
     generalize val (vs.take k) = vv at *
     grind
   · rw [getD_set _ _ _ _ (by omega), if_neg (by omega)]
     exact h3 j (by omega)
theorem rowL_val (zs : List Int) (off : Nat) (x : Int) (vs : List Int) (hl : off + vs.length < zs.length) (h0 : zs.getD (off + vs.length) 0 = 0) :
 val (rowL zs off x vs) = val zs + 4294967296 ^ off * (x * val vs) ∧ (∀ j, off + vs.length < j → (rowL zs off x vs).getD j 0 = zs.getD j 0) := by
 obtain ⟨h1, h2, h3⟩ := rowOf_val zs off x vs hl vs.length (Nat.le_refl _)
 rw [List.take_length] at h2
 unfold rowL
 generalize rowOf zs off x vs (List.range vs.length) = st at *
 obtain ⟨z, c⟩ := st
 simp only at h1 h2 h3
 refine ⟨?_, fun j hj => ?_⟩
 · rw [val_set _ _ _ (show off + vs.length < z.length by omega), h3 _ (Nat.le_refl _), h0, ← h2, Int.sub_zero]
 · rw [getD_set _ _ _ _ (show off + vs.length < z.length by omega), if_neg (by omega)]
   exact h3 j (by omega)
theorem mulOf_val (us vs : List Int) (k : Nat) (hk : k ≤ us.length) : (mulOf us vs (List.range k)).length = us.length + vs.length ∧ val (mulOf us vs (List.range k)) = val (us.take k) * val vs ∧
 (∀ j, k + vs.length ≤ j → (mulOf us vs (List.range k)).getD j 0 = 0) := by
 induction k with
 | zero =>
   simp only [List.range_zero, mulOf, List.foldl_nil, List.length_replicate, val_zeros, List.take_zero, val, Int.zero_mul, true_and]
   intro j _
   by_cases h : j < us.length + vs.length
   · simp [h]
   · simp [h]
 | succ k ih =>
   obtain ⟨h1, h2, h3⟩ := ih (by omega)
   rw [List.range_succ, mulOf_snoc]
   obtain ⟨g1, g2⟩ := rowL_val (mulOf us vs (List.range k)) k (us.getD k 0) vs (by omega) (h3 _ (Nat.le_refl _))
   obtain ⟨g0, _, _⟩ := rowOf_val (mulOf us vs (List.range k)) k (us.getD k 0) vs (by omega) vs.length (Nat.le_refl _)
   refine ⟨by unfold rowL; rw [List.length_set]; exact g0.trans h1, ?_, fun j hj => by rw [g2 j (by omega)]; exact h3 j (by omega)⟩
   rw [g1, h2, val_take_succ]
   generalize val (us.take k) = A
   generalize (4294967296 : Int) ^ k = P
   grind
theorem val_mulL (us vs : List Int) : val (mulL us vs) = val us * val vs := by
 have h := (mulOf_val us vs us.length (Nat.le_refl _)).2.1
 rw [List.take_length] at h
 exact h
theorem mulL_wf {us vs : List Int} (hu : Wf us) (hv : Wf vs) : Wf (mulL us vs) := (mulOf_ok us vs hu hv _).2
theorem subOf_val (xs ys : List Int) (m k : Nat) (hk : k ≤ m) : (subOf xs ys m (List.range k)).1.length = m ∧
 val ((subOf xs ys m (List.range k)).1.take k) + 4294967296 ^ k * (subOf xs ys m (List.range k)).2 = val (xs.take k) - val (ys.take k) + 4294967296 ^ k := by
 induction k with
 | zero => simp [subOf, val]
 | succ k ih =>
   obtain ⟨h1, h2⟩ := ih (by omega)
   rw [List.range_succ, subOf_snoc]
   generalize subOf xs ys m (List.range k) = st at *
   obtain ⟨z, c⟩ := st
   simp only at h1 h2
   simp only [subStep]
   refine ⟨by simp [h1], ?_⟩
   rw [val_take_succ, val_take_succ, val_take_succ, getD_set _ _ _ _ (by omega), if_pos rfl]
   have e : (z.set k ((c + xs.getD k 0 + (4294967295 - ys.getD k 0)) % 4294967296)).take k = z.take k := by
    rw [List.take_set, List.set_eq_of_length_le (by rw [List.length_take]; omega)]
   rw [e]
   have hm := mod_div (c + xs.getD k 0 + (4294967295 - ys.getD k 0))
   simp only [Int.pow_succ]
   generalize ((c + xs.getD k 0 + (4294967295 - ys.getD k 0)) % 4294967296) = r at *
   generalize ((c + xs.getD k 0 + (4294967295 - ys.getD k 0)) / 4294967296) = q at *
   generalize (4294967296 : Int) ^ k = P at *
   generalize xs.getD k 0 = x at *
   generalize ys.getD k 0 = y at *
   generalize val (z.take k) = Z at *
   generalize val (xs.take k) = XX at *
   generalize val (ys.take k) = YY at *
   grind
theorem subOf_wf (xs ys : List Int) (m : Nat) (ks : List Nat) : Wf (subOf xs ys m ks).1 := by
 suffices h : ∀ s : List Int × Int, Wf s.1 → Wf (ks.foldl (subStep xs ys) s).1 from h _ (Wf.zeros m)
 induction ks with
 | nil => exact fun s h => h
 | cons k ks ih => exact fun s h => ih _ (h.set _ (by omega))
theorem subL_wf (xs ys : List Int) : Wf (subL xs ys) := subOf_wf _ _ _ _
theorem one_of_mul {P c d z : Int} (h : z + P * c = d + P) (hz : 0 ≤ z) (hz2 : z < P) (hd : 0 ≤ d) (hd2 : d < P) : z = d := by
 have h1 : P * (c - 1) = d - z := by rw [Int.mul_sub]; omega
 have h2 : c = 1 := by
  rcases Int.lt_trichotomy c 1 with h3 | h3 | h3
  · have : P * (c - 1) ≤ P * (-1) := Int.mul_le_mul_of_nonneg_left (by omega) (by omega)
    omega
  · exact h3
  · have : P * 1 ≤ P * (c - 1) := Int.mul_le_mul_of_nonneg_left (by omega) (by omega)
    omega
 subst h2
 omega
theorem val_subL {xs ys : List Int} (hx : Wf xs) (hy : Wf ys) (hl : trimN ys ys.length ≤ trimN xs xs.length) (h : val ys ≤ val xs) : val (subL xs ys) = val xs - val ys := by
 obtain ⟨h1, h2⟩ := subOf_val xs ys (trimN xs xs.length) (trimN xs xs.length) (Nat.le_refl _)
 have hw := subL_wf xs ys
 unfold subL at hw ⊢
 rw [val_take_ge xs _ (Nat.le_refl _), val_take_ge ys _ hl, List.take_of_length_le (by omega)] at h2
 have hb := val_lt hx.trim
 rw [val_trim, trim_length] at hb
 have hz := val_lt hw
 rw [h1] at hz
 have hy0 := val_nonneg hy
 exact one_of_mul h2 (val_nonneg hw) hz (by omega) (by omega)
theorem full_ge {us : List Int} (hu : Wf us) (f : trimN us us.length = us.length) (j : Nat) (hj : us.length = j + 1) : 4294967296 ^ j ≤ val us := by
 have h1 := trimN_last us us.length (by omega)
 rw [f, hj, Nat.add_sub_cancel] at h1
 have h2 := hu.getD j
 have h3 := val_take_succ us j
 rw [← hj, List.take_length] at h3
 have h4 := val_nonneg (hu.take j)
 have h5 : (4294967296 : Int) ^ j * 1 ≤ 4294967296 ^ j * us.getD j 0 := Int.mul_le_mul_of_nonneg_left (by omega) (Int.le_of_lt (pow_pos' j))
 omega
theorem len_lt {us vs : List Int} (hu : Wf us) (hv : Wf vs) (fv : trimN vs vs.length = vs.length) (h : us.length < vs.length) : val us < val vs := by
 obtain ⟨j, hj⟩ : ∃ j, vs.length = j + 1 := ⟨vs.length - 1, by omega⟩
 have h1 := full_ge hv fv j hj
 have h2 := val_lt hu
 have h3 : (4294967296 : Int) ^ us.length ≤ 4294967296 ^ j := by
  rw [show j = us.length + (j - us.length) from by omega, Int.pow_add]
  have h4 : (4294967296 : Int) ^ us.length * 1 ≤ 4294967296 ^ us.length * 4294967296 ^ (j - us.length) := Int.mul_le_mul_of_nonneg_left (by have := pow_pos' (j - us.length); omega) (Int.le_of_lt (pow_pos' _))
  omega
 omega
theorem take_above (us vs : List Int) (i : Nat) (n : Nat) (h : ∀ j, i < j → j < n → us.getD j 0 = vs.getD j 0) (k : Nat) (hk : i + 1 ≤ k) (hn : k ≤ n) :
 val (us.take k) - val (vs.take k) = val (us.take (i + 1)) - val (vs.take (i + 1)) := by
 induction k with
 | zero => omega
 | succ k ih =>
   by_cases e : k = i
   · subst e; rfl
   · rw [val_take_succ us k, val_take_succ vs k, h k (by omega) (by omega)]
     have := ih (by omega) (by omega)
     omega
theorem top_lt {us vs : List Int} (hu : Wf us) (hv : Wf vs) (i : Nat) (h : us.getD i 0 < vs.getD i 0) : val (us.take (i + 1)) < val (vs.take (i + 1)) := by
 rw [val_take_succ, val_take_succ]
 have h1 := val_lt (hu.take i)
 have h2 := val_nonneg (hv.take i)
 have h3 : (4294967296 : Int) ^ (us.take i).length ≤ 4294967296 ^ i := by
  rw [List.length_take]
  rw [show i = min i us.length + (i - min i us.length) from by omega, Int.pow_add]
  rw [show min (min i us.length + (i - min i us.length)) us.length = min i us.length from by omega]
  have h4 : (4294967296 : Int) ^ min i us.length * 1 ≤ 4294967296 ^ min i us.length * 4294967296 ^ (i - min i us.length) := Int.mul_le_mul_of_nonneg_left (by have := pow_pos' (i - min i us.length); omega) (Int.le_of_lt (pow_pos' _))
  omega
 have h5 : (4294967296 : Int) ^ i * (us.getD i 0 + 1) ≤ 4294967296 ^ i * vs.getD i 0 := Int.mul_le_mul_of_nonneg_left (by omega) (Int.le_of_lt (pow_pos' i))
 rw [Int.mul_add, Int.mul_one] at h5
 omega
theorem sign_lt {a b : Int} (h : a < b) : sign a b = -1 := if_pos h
theorem sign_gt {a b : Int} (h : b < a) : sign a b = 1 := by unfold sign; rw [if_neg (by omega), if_pos h]
theorem sign_self (a : Int) : sign a a = 0 := by unfold sign; rw [if_neg (by omega), if_neg (by omega)]
theorem cmp_val {us vs : List Int} {r : Int} (hu : Wf us) (hv : Wf vs) (fu : trimN us us.length = us.length) (fv : trimN vs vs.length = vs.length) (h : CmpT us vs r) :
 r = sign (val us) (val vs) ∧ (0 ≤ r → vs.length ≤ us.length) := by
 rcases h with ⟨hne, rfl⟩ | ⟨hl, he, rfl⟩ | ⟨hl, i, hi, hne, ha, rfl⟩
 · rcases Nat.lt_or_gt_of_ne hne with h1 | h1
   · rw [sign_lt (show ((us.length : Int) < vs.length) by omega), sign_lt (len_lt hu hv fv h1)]
     exact ⟨rfl, fun h => by omega⟩
   · rw [sign_gt (show ((vs.length : Int) < us.length) by omega), sign_gt (len_lt hv hu fu h1)]
     exact ⟨rfl, fun _ => by omega⟩
 · have e : us = vs := by
    apply List.ext_getElem hl
    intro j h1 h2
    have := he j h1
    simpa [h1, h2] using this
   rw [e, sign_self]
   exact ⟨rfl, fun _ => Nat.le_refl _⟩
 · have h1 := take_above us vs i us.length ha us.length (by omega) (Nat.le_refl _)
   rw [List.take_length] at h1
   rw [hl, List.take_length] at h1
   refine ⟨?_, fun _ => by omega⟩
   have hne' : us.getD i 0 ≠ vs.getD i 0 := hne
   rcases Int.lt_or_gt_of_ne hne' with h2 | h2
   · have h3 := top_lt hu hv i h2
     rw [sign_lt (show val us < val vs by omega)]
     exact sign_lt h2
   · have h3 := top_lt hv hu i h2
     rw [sign_gt (show val vs < val us by omega)]
     exact sign_gt h2
end
section
open Go.RowKit
theorem WfD.nil : WfD [] := by intro x h; cases h
theorem WfD.cons {x : Int} {xs : List Int} (h : 0 ≤ x ∧ x < 10000) (hs : WfD xs) : WfD (x :: xs) := by
 intro y hy
 rcases List.mem_cons.1 hy with rfl | hy
 · exact h
 · exact hs y hy
theorem WfD.tail {x : Int} {xs : List Int} (h : WfD (x :: xs)) : WfD xs := fun y hy => h y (List.mem_cons_of_mem _ hy)
theorem WfD.head {x : Int} {xs : List Int} (h : WfD (x :: xs)) : 0 ≤ x ∧ x < 10000 := h x List.mem_cons_self
theorem WfD.append {xs ys : List Int} (h : WfD xs) (k : WfD ys) : WfD (xs ++ ys) := by
 intro x hx
 rcases List.mem_append.1 hx with hx | hx
 · exact h x hx
 · exact k x hx
theorem WfD.take {xs : List Int} (h : WfD xs) (n : Nat) : WfD (xs.take n) := fun x hx => h x (List.mem_of_mem_take hx)
theorem WfD.getD {xs : List Int} (h : WfD xs) (i : Nat) : 0 ≤ xs.getD i 0 ∧ xs.getD i 0 < 10000 := by
 by_cases hi : i < xs.length
 · have : xs.getD i 0 = xs[i] := by simp [List.getD, hi]
   rw [this]
   exact h _ (List.getElem_mem hi)
 · have : xs.getD i 0 = 0 := by simp [List.getD, List.getElem?_eq_none (Nat.le_of_not_lt hi)]
   rw [this]; omega
theorem WfD.trim {xs : List Int} (h : WfD xs) : WfD (trim xs) := h.take _
def valD : List Int → Int
 | [] => 0
 | x :: xs => x + 10000 * valD xs
theorem val_nonnegD {xs : List Int} (h : WfD xs) : 0 ≤ valD xs := by
 induction xs with
 | nil => simp [valD]
 | cons x xs ih => have := ih h.tail; have := h.head; simp only [valD]; omega
theorem val_appendD (xs ys : List Int) : valD (xs ++ ys) = valD xs + 10000 ^ xs.length * valD ys := by
 induction xs with
 | nil => simp [valD]
 | cons x xs ih => simp only [List.cons_append, valD, ih, List.length_cons, Int.pow_succ]; grind
theorem pow_posD (k : Nat) : (0 : Int) < 10000 ^ k := Int.pow_pos (by omega)
theorem val_take_succD (xs : List Int) (k : Nat) : valD (xs.take (k + 1)) = valD (xs.take k) + 10000 ^ k * xs.getD k 0 := by
 by_cases h : k < xs.length
 · rw [List.take_succ_eq_append_getElem h, val_appendD, List.length_take, Nat.min_eq_left (by omega)]
   simp [valD, h]
 · rw [List.take_of_length_le (by omega), List.take_of_length_le (by omega)]
   simp [List.getElem?_eq_none (Nat.le_of_not_lt h)]
theorem val_ltD {xs : List Int} (h : WfD xs) : valD xs < 10000 ^ xs.length := by
 induction xs with
 | nil => simp [valD]
 | cons x xs ih =>
   have h1 := ih h.tail
   have h2 := h.head
   simp only [valD, List.length_cons, Int.pow_succ]
   omega
theorem val_trimND (xs : List Int) (n : Nat) : valD (xs.take (trimN xs n)) = valD (xs.take n) := by
 induction n with
 | zero => rfl
 | succ n ih =>
   unfold trimN
   split
   · rename_i hz
     rw [val_take_succD, hz, ih]
     simp
   · rfl
theorem val_trimD (xs : List Int) : valD (trim xs) = valD xs := by
 unfold trim
 rw [val_trimND, List.take_length]
theorem full_geD {us : List Int} (hu : WfD us) (f : trimN us us.length = us.length) (j : Nat) (hj : us.length = j + 1) : 10000 ^ j ≤ valD us := by
 have h1 := trimN_last us us.length (by omega)
 rw [f, hj, Nat.add_sub_cancel] at h1
 have h2 := hu.getD j
 have h3 := val_take_succD us j
 rw [← hj, List.take_length] at h3
 have h4 := val_nonnegD (hu.take j)
 have h5 : (10000 : Int) ^ j * 1 ≤ 10000 ^ j * us.getD j 0 := Int.mul_le_mul_of_nonneg_left (by omega) (Int.le_of_lt (pow_posD j))
 omega
theorem len_ltD {us vs : List Int} (hu : WfD us) (hv : WfD vs) (fv : trimN vs vs.length = vs.length) (h : us.length < vs.length) : valD us < valD vs := by
 obtain ⟨j, hj⟩ : ∃ j, vs.length = j + 1 := ⟨vs.length - 1, by omega⟩
 have h1 := full_geD hv fv j hj
 have h2 := val_ltD hu
 have h3 : (10000 : Int) ^ us.length ≤ 10000 ^ j := by
  rw [show j = us.length + (j - us.length) from by omega, Int.pow_add]
  have h4 : (10000 : Int) ^ us.length * 1 ≤ 10000 ^ us.length * 10000 ^ (j - us.length) := Int.mul_le_mul_of_nonneg_left (by have := pow_posD (j - us.length); omega) (Int.le_of_lt (pow_posD _))
  omega
 omega
theorem take_aboveD (us vs : List Int) (i : Nat) (n : Nat) (h : ∀ j, i < j → j < n → us.getD j 0 = vs.getD j 0) (k : Nat) (hk : i + 1 ≤ k) (hn : k ≤ n) :
 valD (us.take k) - valD (vs.take k) = valD (us.take (i + 1)) - valD (vs.take (i + 1)) := by
 induction k with
 | zero => omega
 | succ k ih =>
   by_cases e : k = i
   · subst e; rfl
   · rw [val_take_succD us k, val_take_succD vs k, h k (by omega) (by omega)]
     have := ih (by omega) (by omega)
     omega
theorem top_ltD {us vs : List Int} (hu : WfD us) (hv : WfD vs) (i : Nat) (h : us.getD i 0 < vs.getD i 0) : valD (us.take (i + 1)) < valD (vs.take (i + 1)) := by
 rw [val_take_succD, val_take_succD]
 have h1 := val_ltD (hu.take i)
 have h2 := val_nonnegD (hv.take i)
 have h3 : (10000 : Int) ^ (us.take i).length ≤ 10000 ^ i := by
  rw [List.length_take]
  rw [show i = min i us.length + (i - min i us.length) from by omega, Int.pow_add]
  rw [show min (min i us.length + (i - min i us.length)) us.length = min i us.length from by omega]
  have h4 : (10000 : Int) ^ min i us.length * 1 ≤ 10000 ^ min i us.length * 10000 ^ (i - min i us.length) := Int.mul_le_mul_of_nonneg_left (by have := pow_posD (i - min i us.length); omega) (Int.le_of_lt (pow_posD _))
  omega
 have h5 : (10000 : Int) ^ i * (us.getD i 0 + 1) ≤ 10000 ^ i * vs.getD i 0 := Int.mul_le_mul_of_nonneg_left (by omega) (Int.le_of_lt (pow_posD i))
 rw [Int.mul_add, Int.mul_one] at h5
 omega
theorem cmp_valD {us vs : List Int} {r : Int} (hu : WfD us) (hv : WfD vs) (fu : trimN us us.length = us.length) (fv : trimN vs vs.length = vs.length) (h : CmpT us vs r) :
 r = sign (valD us) (valD vs) ∧ (0 ≤ r → vs.length ≤ us.length) := by
 rcases h with ⟨hne, rfl⟩ | ⟨hl, he, rfl⟩ | ⟨hl, i, hi, hne, ha, rfl⟩
 · rcases Nat.lt_or_gt_of_ne hne with h1 | h1
   · rw [sign_lt (show ((us.length : Int) < vs.length) by omega), sign_lt (len_ltD hu hv fv h1)]
     exact ⟨rfl, fun h => by omega⟩
   · rw [sign_gt (show ((vs.length : Int) < us.length) by omega), sign_gt (len_ltD hv hu fu h1)]
     exact ⟨rfl, fun _ => by omega⟩
 · have e : us = vs := by
    apply List.ext_getElem hl
    intro j h1 h2
    have := he j h1
    simpa [h1, h2] using this
   rw [e, sign_self]
   exact ⟨rfl, fun _ => Nat.le_refl _⟩
 · have h1 := take_aboveD us vs i us.length ha us.length (by omega) (Nat.le_refl _)
   rw [List.take_length] at h1
   rw [hl, List.take_length] at h1
   refine ⟨?_, fun _ => by omega⟩
   have hne' : us.getD i 0 ≠ vs.getD i 0 := hne
   rcases Int.lt_or_gt_of_ne hne' with h2 | h2
   · have h3 := top_ltD hu hv i h2
     rw [sign_lt (show valD us < valD vs by omega)]
     exact sign_lt h2
   · have h3 := top_ltD hv hu i h2
     rw [sign_gt (show valD vs < valD us by omega)]
     exact sign_gt h2
end
section
open Go.RowKit
theorem infoInt : (Tryz.prog.info? 3).map (fun i => (i.zero, i.size, i.bytes)) = some (some (.int .i64 0), 1, 8) := by kernel_rfl
theorem digit_any (ad : Option Addr) (xs : List Int) (cap k : Nat) (x : Int) (w : World) (hl : LimI w ad xs) (hm : xs.length ≤ 1099511627776) (hx : xs.getD k 0 = x) :
 Calls Tryz.prog 122 #[.slice ad xs.length cap, .int .i64 k] w fun e w' => e = .returned (.int .i64 x) ∧ w = w' := by
 subst hx
 by_cases hk : k < xs.length
 · rcases hl with rfl | ⟨b, off, rfl, hc⟩
   · simp at hk
   · have hck := hc k hk
     clear hc
     go_enter Tryz.func122, Tryz.ntmps122
     go_wp2
     go_ret
     refine ⟨?_, rfl⟩
     simp [hk]
 · go_enter Tryz.func122, Tryz.ntmps122
   go_wp2
   go_ret
   refine ⟨?_, rfl⟩
   simp [List.getElem?_eq_none (Nat.le_of_not_lt hk)]
theorem trimD_any (ad : Option Addr) (xs : List Int) (cap : Nat) (w : World) (hl : LimI w ad xs) (hm : xs.length ≤ 1099511627776) (hcap : xs.length ≤ cap) :
 Calls Tryz.prog 123 #[.slice ad xs.length cap] w fun e w' => e = .returned (.slice ad (trimN xs xs.length) cap) ∧ w = w' := by
 go_enter Tryz.func123, Tryz.ntmps123
 go_wp2
 go_loop [3] (fun n => ∃ j : Nat, j ≤ xs.length ∧ n = .int .i64 j ∧ trimN xs j = trimN xs xs.length) (fun n => (intOf n).toNat)
 case atStart => exact ⟨xs.length, Nat.le_refl _, rfl, rfl⟩
 case round =>
  obtain ⟨j, hj, rfl, ht⟩ := hrel
  have HT := Lib.hid ht
  clear ht
  rcases j with _ | m
  · have h0 : trimN xs xs.length = 0 := HT.out.symm
    go_wp2
    go_ret
    exact ⟨rfl, rfl⟩
  · rcases hl with rfl | ⟨b, off, rfl, hc⟩
    · simp at hj
    · have hck := hc m (by omega)
      clear hc
      go_wp2
      · have hz : xs.getD m 0 = 0 := by
         have h : (xs[m]?.getD 0 == 0) = true := by assumption
         simpa using h
        go_round
        case rel => exact ⟨m, by omega, by go_num, by rw [← HT.out]; simp only [trimN]; rw [if_pos hz]⟩
        case measure => simp [intOf]
      · have hz : xs.getD m 0 ≠ 0 := by
         have h : (xs[m]?.getD 0 == 0) = false := by assumption
         simpa using h
        have ht : trimN xs xs.length = m + 1 := by rw [← HT.out]; simp only [trimN]; rw [if_neg hz]
        go_ret
        exact ⟨by rw [ht]; simp, rfl⟩
theorem trimD_num {base : Nat} {v : Value} {xs : List Int} {w : World} (h : NumI base w v xs) (hm : xs.length ≤ 1099511627776) :
 Calls Tryz.prog 123 #[v] w fun e w' => ∃ u, e = .returned u ∧ NumI base w u (trim xs) ∧ w = w' := by
 obtain ⟨ad, cap, rfl, hl, hc, _, _⟩ := h.read
 exact (trimD_any ad xs cap w hl hm hc).mono fun e w' ⟨he, hw⟩ => ⟨_, he, h.cut, hw⟩
theorem push_num {base : Nat} {w wr w1 : World} {v v' : Value} {ds : List Int} {d : Int} {o : Obj} (hb : Below base w wr) (hbase : base ≤ wr.heap.size) (hown : NumI base wr v ds)
 (hown' : w1.ownsRow base 3 1 v' (ds.length + 1) (ds.map (Value.int .i64) ++ [Value.int .i64 d])) (hgrow : (wr.alloc o).grownBy w1 v.ownBlock) : NumI base w1 v' (ds ++ [d]) ∧ Below base w w1 := by
 refine ⟨?_, (hb.alloc hbase o).grown hgrow (by simp; omega) (fun k hk => (hown.lt k hk).1)⟩
 unfold NumI
 rw [List.length_append, List.map_append]
 exact hown'
theorem full_snoc (l : List Int) {x : Int} (h : x ≠ 0) : trimN (l ++ [x]) (l ++ [x]).length = (l ++ [x]).length := by
 rw [List.length_append]
 show trimN (l ++ [x]) (l.length + 1) = l.length + 1
 unfold trimN
 rw [if_neg]
 simpa using h
theorem valD_snoc (l : List Int) (x : Int) : valD (l ++ [x]) = valD l + 10000 ^ l.length * x := by
 rw [val_appendD]
 simp [valD]
theorem WfD.snoc {l : List Int} (h : WfD l) {x : Int} (hx : 0 ≤ x ∧ x < 10000) : WfD (l ++ [x]) := h.append (WfD.cons hx WfD.nil)
def SmallI (len : Nat) (m : Int) : Prop := (len = 0 ∧ m < 1000000000000) ∨ (len = 1 ∧ m < 100000000) ∨ (len = 2 ∧ m < 10000) ∨ (len = 3 ∧ m = 0)
structure ResD (base : Nat) (w : World) (u : Value) (zs : List Int) (n : Int) : Prop where
 num : NumI base w u zs
 wf : WfD zs
 full : trimN zs zs.length = zs.length
 eq : valD zs = n
theorem ResD.later {base : Nat} {w w' : World} {u : Value} {zs : List Int} {n : Int} (h : ResD base w u zs n) (hb : Below w.heap.size w w') : ResD base w' u zs n := ⟨h.num.later hb, h.wf, h.full, h.eq⟩
theorem small_any (N : Int) (w : World) (hN : 0 ≤ N) (hN2 : N < 1000000000000) :
 Calls Tryz.prog 113 #[.int .i64 N] w fun e w' => ∃ u, e = .returned u ∧ ∃ zs, ResD w.heap.size w' u zs N ∧ zs.length ≤ 3 ∧ Below w.heap.size w w' := by
 obtain ⟨i0, hi, hz0, hz1, hz2⟩ := info_parts infoInt
 go_enter Tryz.func113, Tryz.ntmps113
 go_wp2
 go_loopw [0, 3] (fun n s wr => ∃ (m : Int) (ds : List Int) (v : Value), n = .int .i64 m ∧ v = s ∧ 0 ≤ m ∧ SmallI ds.length m ∧ NumI w.heap.size wr v ds ∧ WfD ds ∧ valD ds + 10000 ^ ds.length * m = N ∧ (m = 0 → trimN ds ds.length = ds.length) ∧ Below w.heap.size w wr) (fun n _ _ => (intOf n).toNat)
 case atStart => exact ⟨N, [], _, rfl, rfl, hN, .inl ⟨rfl, hN2⟩, World.ownsRow_nil _ _ _ _, WfD.nil, by simp [valD], fun _ => rfl, Below.refl _ _⟩
 case round =>
  obtain ⟨m, ds, v, rfl, rfl, hm, hs, hown, hwf, hval, hfull, hb⟩ := hrel
  have hsz := hb.size
  have HV := Lib.hid hval
  have HF := Lib.hid hfull
  have HS := Lib.hid hs
  have HO := Lib.hid hown
  have hrow : wr.ownsRow w.heap.size 3 1 v ds.length (ds.map (Value.int .i64)) := hown
  have hlen : ds.length ≤ 3 := by rcases hs with h | h | h | h <;> omega
  have hm2 : m < 1000000000000 := by rcases hs with h | h | h | h <;> omega
  clear hval hfull hs hown
  by_cases hpos : 0 < m
  · go_wp2_with (at_builtin; refine wpList_append_own _ rfl _ _ 56 rfl w.heap.size 3 i0 (.int .i64 0) 1 8 Tryz.underlying56 hi hz0 hz1 hz2 rfl (by decide) _ _ _ rfl (hrow.alloc _) ⟨wr.heap.size, 0, none⟩ 1 1 [.int .i64 (m % 10000)] rfl rfl (cell_one_new _ _ _) (by simp [Value.oneCell']) (by unfold maxLen; omega) (by omega) (by simp; omega) ?_; intro v' w1 hown' hgrow _)
    go_roundw
    case rel =>
     obtain ⟨hn, hbw⟩ := push_num hb hsz HO.out hown' hgrow
     refine ⟨m / 10000, ds ++ [m % 10000], v', rfl, rfl, by omega, ?_, hn, hwf.snoc (by omega), ?_, fun h0 => full_snoc ds (by omega), hbw⟩
     · rw [List.length_append, List.length_singleton]
       rcases HS.out with h | h | h | h
       · exact .inr (.inl ⟨by omega, by omega⟩)
       · exact .inr (.inr (.inl ⟨by omega, by omega⟩))
       · exact .inr (.inr (.inr ⟨by omega, by omega⟩))
       · omega
     · rw [valD_snoc, List.length_append, List.length_singleton, Int.pow_succ]
       have h1 := HV.out
       have h2 : m % 10000 + 10000 * (m / 10000) = m := by omega
       generalize m % 10000 = r at *
       generalize m / 10000 = q at *
       generalize (10000 : Int) ^ ds.length = P at *
       grind
    case measure => simp [intOf]; omega
  · have h0 : m = 0 := by omega
    subst h0
    go_wp2
    go_ret
    exact ⟨_, rfl, ds, ⟨HO.out, hwf, (by have h := HF.out; simpa using h), by have := HV.out; simpa using this⟩, hlen, hb⟩
end
end Go.Proofs.YtengpgodmbfmkaaGreat
