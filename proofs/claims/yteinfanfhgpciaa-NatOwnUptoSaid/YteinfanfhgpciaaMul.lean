/-
  Contracts of package nat: Mul.
-/
import Derived.Test.YteinfanfhgpciaaRow
namespace Go.Proofs.Yteinfanfhgpciaa
open Go.RowKit Go.Shelf
attribute [local go_sem] Oper.semAt_some

theorem trimN_last (xs : List Int) (n : Nat) (h : 0 < trimN xs n) : xs.getD (trimN xs n - 1) 0 ≠ 0 := by
  induction n with
  | zero => simp [trimN] at h
  | succ n ih =>
    unfold trimN at h ⊢
    split
    · rename_i hz; rw [if_pos hz] at h; exact ih h
    · rename_i hz; simpa using hz
theorem trim_full (xs : List Int) : trimN (trim xs) (trim xs).length = (trim xs).length := by
  rw [trim_length]
  have hl := trimN_last xs xs.length
  have hle := trim_le xs
  unfold trim
  generalize trimN xs xs.length = m at *
  cases m with
  | zero => rfl
  | succ j =>
    have h := hl (by omega)
    simp only [Nat.add_sub_cancel] at h
    unfold trimN
    rw [if_neg]
    simpa [List.getD, List.getElem?_take] using h

/-- the product's limbs when some rows are added -/
def mulOf (us vs : List Int) (ks : List Nat) : List Int := ks.foldl (fun z k => rowL z k (us.getD k 0) vs) (List.replicate (us.length + vs.length) 0)
def mulL (us vs : List Int) : List Int := mulOf us vs (List.range us.length)
theorem mulOf_snoc (us vs : List Int) (ks : List Nat) (k : Nat) : mulOf us vs (ks ++ [k]) = rowL (mulOf us vs ks) k (us.getD k 0) vs := by simp [mulOf]
theorem rowL_ok (zs : List Int) (off : Nat) (x : Int) (vs : List Int) (hz : Wf zs) (hx : 0 ≤ x ∧ x < 4294967296) (hv : Wf vs) : (rowL zs off x vs).length = zs.length ∧ Wf (rowL zs off x vs) := by
  obtain ⟨h1, h2, h3, h4⟩ := rowOf_ok zs off x vs hz hx hv (List.range vs.length)
  exact ⟨by simp [rowL, h1], h2.set _ ⟨h3, h4⟩⟩
theorem Wf.zeros (n : Nat) : Wf (List.replicate n 0) := fun x hx => by rw [List.eq_of_mem_replicate hx]; omega
theorem mulOf_ok (us vs : List Int) (hu : Wf us) (hv : Wf vs) (ks : List Nat) : (mulOf us vs ks).length = us.length + vs.length ∧ Wf (mulOf us vs ks) := by
  suffices h : ∀ z : List Int, z.length = us.length + vs.length ∧ Wf z → ((ks.foldl (fun z k => rowL z k (us.getD k 0) vs) z).length = us.length + vs.length ∧ Wf (ks.foldl (fun z k => rowL z k (us.getD k 0) vs) z)) from
    h _ ⟨by simp, Wf.zeros _⟩
  induction ks with
  | nil => exact fun z h => h
  | cons k ks ih =>
    intro z ⟨g1, g2⟩
    have h := rowL_ok z k (us.getD k 0) vs g2 (hu.getD k) hv
    exact ih _ ⟨h.1.trans g1, h.2⟩

set_option maxRecDepth 100000 in
set_option maxHeartbeats 4000000 in
set_option linter.unusedSimpArgs false in
theorem mul_any (a b : Option Addr) (xs ys : List Int) (capa capb : Nat) (w : World) (hla : Lim w a xs) (hlb : Lim w b ys) (hma : xs.length ≤ 35184372088832) (hmb : ys.length ≤ 35184372088832)
    (hca : xs.length ≤ capa) (hcb : ys.length ≤ capb) (hwa : Wf xs) (hwb : Wf ys) :
    Calls Try.prog 31 #[.slice a xs.length capa, .slice b ys.length capb] w fun e w' => ∃ v, e = .returned v ∧ Num w.heap.size w' v (trim (mulL (trim xs) (trim ys))) ∧ Below w.heap.size w w' := by
  have hta := trim_le xs
  have htb := trim_le ys
  obtain ⟨n, hn⟩ : ∃ n : Nat, Hid (3 ≤ n) := ⟨3, Nat.le_refl 3⟩
  refine (callsIn_wide (n := n)).1 ?_
  refine callsIn_of_wp_marks Try.func31 rfl trivial ?_ rfl
  simp only [Try.ntmps31, List.size_toArray, List.length_cons, List.length_nil, Nat.reduceAdd, Nat.reduceSub, Array.replicate_succ, Array.replicate_zero, List.push_toArray, List.append_toArray, List.nil_append, List.cons_append]
  gi_wp2_with fail
  have bB := Boxed.new w 24 (.slice b ys.length capb)
  have hB0 : Below w.heap.size w (w.alloc (.cells #[.slice b ys.length capb] 24)) := (Below.refl _ w).alloc (Nat.le_refl _) _
  have hs0 : (w.alloc (.cells #[.slice b ys.length capb] 24)).heap.size = w.heap.size + 1 := by simp
  generalize w.alloc (.cells #[.slice b ys.length capb] 24) = W at *
  have hcB := bB.cell
  have hfB := bB.frozen
  have hla' : Lim W.drew a xs := hla.later hB0.drew
  have hlb' : Lim W.drew b ys := hlb.later hB0.drew
  refine wpIn_wide.2 ?_
  go_still_tail 5, (by kernel_rfl)
  still_call (cut_still a xs capa _ hla' hma hca)
  repeat still_step
  still_call (cut_still b ys capb _ hlb' hmb hcb)
  repeat still_step
  refine wpStill_nil ?_
  have hlu : Lim w a (trim xs) := hla.take _
  have hlv : Lim w b (trim ys) := hlb.take _
  have hwu := hwa.trim
  have hwv := hwb.trim
  have htu := trim_full xs
  have htv := trim_full ys
  rw [← trim_length xs, ← trim_length ys]
  have hlen1 : (trim xs).length ≤ 35184372088832 := by rw [trim_length]; omega
  have hlen2 : (trim ys).length ≤ 35184372088832 := by rw [trim_length]; omega
  have hcu : (trim xs).length ≤ capa := by rw [trim_length]; omega
  have hcv : (trim ys).length ≤ capb := by rw [trim_length]; omega
  clear hla hlb hla' hlb' hta htb
  obtain ⟨us, hus⟩ : ∃ us, trim xs = us := ⟨_, rfl⟩
  obtain ⟨vs, hvs⟩ : ∃ vs, trim ys = vs := ⟨_, rfl⟩
  rw [hus] at hlu hlen1 hwu hcu htu ⊢
  rw [hvs] at hlv hlen2 hwv hcv htv ⊢
  have HU := Lib.hid hus
  have HV := Lib.hid hvs
  have HTU := Lib.hid htu
  have HTV := Lib.hid htv
  clear hus hvs htu htv
  go_wp2_with fail
  have bB2 : Boxed (W.setCell ⟨w.heap.size, 0, none⟩ (.slice b vs.length capb)).drew w.heap.size 24 (.slice b vs.length capb) := bB.set _
  have hB2 : Below w.heap.size w (W.setCell ⟨w.heap.size, 0, none⟩ (.slice b vs.length capb)).drew := (hB0.setCell (p := ⟨w.heap.size, 0, none⟩) (Nat.le_refl _) _).drew
  have hsz2 : (W.setCell ⟨w.heap.size, 0, none⟩ (.slice b vs.length capb)).drew.heap.size = w.heap.size + 1 := by have := (Only.set W w.heap.size 0 (.slice b vs.length capb)).size; exact this.trans hs0
  have hlu2 := hlu.later hB2
  have hlv2 := hlv.later hB2
  clear bB hB0 hcB hfB hlu hlv hs0
  generalize (W.setCell ⟨w.heap.size, 0, none⟩ (.slice b vs.length capb)).drew = V at *
  have hcB := bB2.cell
  have hsV : w.heap.size + 1 ≤ V.heap.size := by omega
  clear hsz2
  have hmk := make_runN (us.length + vs.length) (us.length + vs.length) (Nat.le_refl _) (by omega)
  rw [Int.natCast_add] at hmk
  gi_wp2_with fail
  refine wideCall ((limbs_any a us.length capa _).mono ?_)
  rintro e w' ⟨rfl, rfl⟩
  gi_wp2_with fail
  have j1 := ((Blk.made V (us.length + vs.length)).alloc (Obj.cells #[Value.slice (some ⟨V.heap.size, 0, none⟩) (us.length + vs.length) (us.length + vs.length)] 24)).alloc (Obj.cells #[Value.slice a us.length capa] 24)
  have j2 := (Boxed.new (V.alloc (Obj.cells (madeCells #[Value.int .u32 0] (us.length + vs.length)) 56)) 24 (Value.slice (some ⟨V.heap.size, 0, none⟩) (us.length + vs.length) (us.length + vs.length))).alloc (Obj.cells #[Value.slice a us.length capa] 24)
  have j5 := Boxed.new ((V.alloc (Obj.cells (madeCells #[Value.int .u32 0] (us.length + vs.length)) 56)).alloc (Obj.cells #[Value.slice (some ⟨V.heap.size, 0, none⟩) (us.length + vs.length) (us.length + vs.length)] 24)) 24 (Value.slice a us.length capa)
  have j6 : Below V.heap.size V (((V.alloc (Obj.cells (madeCells #[Value.int .u32 0] (us.length + vs.length)) 56)).alloc (Obj.cells #[Value.slice (some ⟨V.heap.size, 0, none⟩) (us.length + vs.length) (us.length + vs.length)] 24)).alloc (Obj.cells #[Value.slice a us.length capa] 24)) :=
    (((Below.refl _ V).alloc (Nat.le_refl _) _).alloc (by simp) _).alloc (by simp; omega) _
  have j7 : (((V.alloc (Obj.cells (madeCells #[Value.int .u32 0] (us.length + vs.length)) 56)).alloc (Obj.cells #[Value.slice (some ⟨V.heap.size, 0, none⟩) (us.length + vs.length) (us.length + vs.length)] 24)).alloc (Obj.cells #[Value.slice a us.length capa] 24)).heap.size = V.heap.size + 3 := by simp
  simp only [World.size_alloc] at j2 j5
  generalize (((V.alloc (Obj.cells (madeCells #[Value.int .u32 0] (us.length + vs.length)) 56)).alloc (Obj.cells #[Value.slice (some ⟨V.heap.size, 0, none⟩) (us.length + vs.length) (us.length + vs.length)] 24)).alloc (Obj.cells #[Value.slice a us.length capa] 24)) = W5 at *
  clear hmk
  have h3 : 3 ≤ n := hn
  refine wpIn_rangeFunc_ownF rfl (by omega) (gf := 52) (lb := #[.pointer (some ⟨V.heap.size + 1 + 1, 0, none⟩)]) rfl trivial (enters_of Try.func52 (by kernel_rfl) rfl)
    (limbs_stops (n - 1) (V.heap.size + 1 + 1) V.heap.size a us capa hlen1 hcu hlu2.lt _ (by omega) j5.cell (hlu2.later j6)) belowK_t (belowK_b (by omega)) (Below.refl _ _) (fun _ => rfl)
    (fun (pre : List (Fin (trimN us us.length))) X => (Blk X V.heap.size (mulOf us vs (pre.map Fin.val)) ∧ Boxed X (V.heap.size + 1) 24 (.slice (some ⟨V.heap.size, 0, none⟩) (us.length + vs.length) (us.length + vs.length))) ∧ Below V.heap.size V X)
    (fun _ _ _ => False)
    (OwnFrom.and (Own.from (Own.and2 (blk_own _ _) (boxed_own _ _ _)) _) (ownFrom_below (Nat.le_refl _) (by omega)))
    (fun _ _ _ _ _ hs _ _ => hs)
    ⟨⟨j1, j2⟩, j6⟩
    (fun (x : Fin (trimN us us.length)) => { tmps := #[.slice a us.length capa, .slice b ys.length capb, undef, .pointer (some ⟨w.heap.size, 0, none⟩), .slice none 0 0, .pointer (some ⟨V.heap.size + 1, 0, none⟩), .int .i64 (x.val : Int), .int .u32 (us[x.val]?.getD 0),
      .slice a xs.length capa, .slice a us.length capa, .slice b ys.length capb, .slice b vs.length capb, .slice a us.length capa, .int .i64 us.length, .slice b vs.length capb, .int .i64 vs.length, .int .i64 ((us.length : Int) + (vs.length : Int)),
      .slice (some ⟨V.heap.size, 0, none⟩) (us.length + vs.length) (us.length + vs.length), .slice a us.length capa, .func (.func 52) #[] #[.pointer (some ⟨V.heap.size + 1 + 1, 0, none⟩)], .int .i64 (x.val : Int), .int .u32 (us[x.val]?.getD 0),
      undef, undef, undef, undef, undef, undef, undef, undef], defers := [] }) ?assign ?body ?done ?stop
  case assign =>
    intro l x X K hK
    simp only [limbAt]
    gi_wp2
    exact hK
  case body =>
    rintro l pre ⟨k, hk⟩ X ⟨⟨hblk, q1⟩, hB⟩ hlt
    have hkm : k < us.length := by have := HTU.out; omega
    obtain ⟨ok1, okw⟩ := mulOf_ok us vs hwu hwv (pre.map Fin.val)
    obtain ⟨z, hz⟩ : ∃ z, mulOf us vs (pre.map Fin.val) = z := ⟨_, rfl⟩
    rw [hz] at hblk ok1 okw
    obtain ⟨x, hxk⟩ : ∃ x, us.getD k 0 = x := ⟨_, rfl⟩
    have bx : 0 ≤ x ∧ x < 4294967296 := hxk ▸ hwu.getD k
    have hxk2 : us[k]?.getD 0 = x := hxk
    simp only [hxk2]
    obtain ⟨L, hL⟩ : ∃ L, k + L = us.length + vs.length := ⟨us.length + vs.length - k, by omega⟩
    have hLk : us.length + vs.length - k = L := by omega
    have HX := Lib.hid hxk
    have HZ := Lib.hid hz
    have HL := Lib.hid hL
    have hLv : vs.length < L := by omega
    clear hxk hxk2 hz hL
    have hle2 : (k : Int) ≤ (us.length : Int) + (vs.length : Int) := by omega
    have hne2 : ¬ (us.length + vs.length = k) := by omega
    have c1 := q1.cell
    have bX : Boxed X w.heap.size 24 (.slice b vs.length capb) := (hB.block w.heap.size (by omega)).trans bB2
    have c0 := bX.cell
    have hsX := hB.size
    have hkN : k < us.length + vs.length := by omega
    refine wpIn_block ?_
    refine region_round (fun X' => X'.cell? ⟨V.heap.size + 1, 0, none⟩ = some (.slice (some ⟨V.heap.size, 0, none⟩) (us.length + vs.length) (us.length + vs.length)) ∧ X'.cell? ⟨w.heap.size, 0, none⟩ = some (.slice b vs.length capb))
      (by kernel_rfl) (by kernel_rfl) (by rintro ⟨a', w', h⟩; exact h) ⟨c1, c0⟩ (fun hHeld => ?_)
    refine wpAnyH_take (i := 0) (v := ?va0) rfl (by kernel_rfl) (by kernel_rfl) (by kernel_rfl) (fun _ _ _ h => h) (Or.inl ⟨by rfl, ?ha0⟩) (by assumption) ?ra0
    case ha0 =>
      intro w hSw
      try dsimp only at hSw
      go_simp
      try with_reducible rfl
    try simp only [Act.put, List.setIfInBounds_toArray, List.set_cons_zero, List.set_cons_succ]
    refine wpAnyH_take (i := 1) (v := ?va1) rfl (by kernel_rfl) (by kernel_rfl) (by kernel_rfl) (fun _ _ _ h => h) (Or.inl ⟨by rfl, ?ha1⟩) (by assumption) ?ra1
    case ha1 =>
      intro w hSw
      try dsimp only at hSw
      go_simp
      try with_reducible rfl
    try simp only [Act.put, List.setIfInBounds_toArray, List.set_cons_zero, List.set_cons_succ]
    refine wpAnyH_take (i := 2) (v := ?va2) rfl (by kernel_rfl) (by kernel_rfl) (by kernel_rfl) (fun _ _ _ h => h) (Or.inl ⟨by rfl, ?ha2⟩) (by assumption) ?ra2
    case ha2 =>
      intro w hSw
      try dsimp only at hSw
      go_simp
      try with_reducible rfl
    try simp only [Act.put, List.setIfInBounds_toArray, List.set_cons_zero, List.set_cons_succ]
    refine wpAnyH_take (i := 3) (v := ?va3) rfl (by kernel_rfl) (by kernel_rfl) (by kernel_rfl) (fun _ _ _ h => h) (Or.inl ⟨by rfl, ?ha3⟩) (by assumption) ?ra3
    case ha3 =>
      intro w hSw
      try dsimp only at hSw
      go_simp
      try with_reducible rfl
    try simp only [Act.put, List.setIfInBounds_toArray, List.set_cons_zero, List.set_cons_succ]
    refine wpAnyH_take (i := 4) (v := ?va4) rfl (by kernel_rfl) (by kernel_rfl) (by kernel_rfl) (fun _ _ _ h => h) (Or.inl ⟨by rfl, ?ha4⟩) (by assumption) ?ra4
    case ha4 =>
      intro w hSw
      try dsimp only at hSw
      go_simp
      try with_reducible rfl
    try simp only [Act.put, List.setIfInBounds_toArray, List.set_cons_zero, List.set_cons_succ]
    refine wpAnyH_ready (rs := [5]) (by kernel_rfl) (by simp) ?_
    refine AllReadyH.cons rfl (fun K hK => ?sb5) AllReadyH.nil
    go_simp
    refine (row_any V.heap.size k L L b z vs x capb X.drew hblk (by have := HL.out; omega) hLv ((hlv2.later hB).later (show Below X.heap.size X X.drew from (Below.refl _ _).drew)) hlen2 hcv HTV.out hlv2.lt okw hwv bx).mono ?_
    rintro e w2 ⟨rfl, hblk2, hgr⟩
    go_simp
    refine hK.out _ _ ?kb5 (fun hHeld => ?mb5)
    case kb5 =>
      try dsimp only
      exact ⟨hgr.cell c1 (by simp), hgr.cell c0 (by simp <;> omega)⟩
    clear hK K
    try simp only [Act.put, List.setIfInBounds_toArray, List.set_cons_zero, List.set_cons_succ]
    refine wpAnyH_done (by kernel_rfl) ?_ _
    have es : mulOf us vs ((pre ++ [(⟨k, hk⟩ : Fin (trimN us us.length))]).map Fin.val) = rowL z k x vs := by
      rw [List.map_append, List.map_cons, List.map_nil, mulOf_snoc, HZ.out, HX.out]
    have hbo : Below V.heap.size X w2 := (Below.refl _ X).drew.grown hgr hsX (fun j ej => by cases ej; exact Nat.le_refl _)
    refine ⟨(KeepsOthers.drew X).trans (KeepsOthers.of_grownBy hgr (fun j o ej hj => by cases ej; rw [show X.drew.heap[V.heap.size]? = _ from hblk] at hj; cases hj; rfl)), hbo, ?_, hB.trans hbo⟩
    rw [es]
    exact ⟨hblk2, Boxed.kept (W := X.drew) q1 hgr (by simp)⟩
  case done =>
    rintro D ks X hD hup ⟨⟨hblk, q1⟩, hB⟩ hK
    have ok1 := (mulOf_ok us vs hwu hwv (ks.map Fin.val)).1
    have hnum := Num.ofBlk hblk (Nat.le_refl _) (us.length + vs.length) (by omega) (by rw [ok1]; unfold maxLen; omega)
    rw [ok1, List.take_of_length_le (by omega)] at hnum
    have es : mulL us vs = mulOf us vs (ks.map Fin.val) := by unfold mulL; rw [hup, HTU.out]
    rw [← es] at hnum
    have c1 := q1.cell
    gi_wp2_with fail
    refine wideCall ((cut_num hnum).mono ?_)
    rintro e w' ⟨u, rfl, hu, rfl⟩
    gi_wp2_with fail
    refine ⟨by simp, .inl ⟨_, _, rfl, run_takeDeferred hK, ?_⟩⟩
    refine ⟨_, results_tmp rfl _ _ _, u, rfl, ?_, (hB2.trans (hB.mono (by omega))).trans (belowK_b (w := w) (Nat.le_refl _) X D _ _ (by omega) hK rfl rfl)⟩
    rw [HU.out, HV.out]
    exact ownsRow_putObj (hu.mono (by omega)) (.deferred none) hK rfl
  case stop =>
    rintro D c pre X _ _ h _
    exact h.elim
end Go.Proofs.Yteinfanfhgpciaa
