/-
  Contracts of package nat: Cmp.
-/
import Derived.Test.YteinfanfhgpciaaBack
import Derived.StillTailTactics
import Derived.RangeFuncFrom
namespace Go.Proofs.Yteinfanfhgpciaa
open Go.RowKit Go.Shelf
attribute [local go_sem] Oper.semAt_some

/-- what Cmp comes to, of numbers without zeros at the end -/
def CmpT (us vs : List Int) (r : Int) : Prop :=
  (us.length ≠ vs.length ∧ r = sign us.length vs.length) ∨
  (us.length = vs.length ∧ (∀ i, i < us.length → us[i]?.getD 0 = vs[i]?.getD 0) ∧ r = 0) ∨
  (us.length = vs.length ∧ ∃ i, i < us.length ∧ us[i]?.getD 0 ≠ vs[i]?.getD 0 ∧ (∀ j, i < j → j < us.length → us[j]?.getD 0 = vs[j]?.getD 0) ∧ r = sign (us[i]?.getD 0) (vs[i]?.getD 0))

set_option maxRecDepth 100000 in
set_option maxHeartbeats 2000000 in
theorem cmp_any (a b : Option Addr) (xs ys : List Int) (capa capb : Nat) (w : World) (hla : Lim w a xs) (hlb : Lim w b ys) (hma : xs.length ≤ 35184372088832) (hmb : ys.length ≤ 35184372088832)
    (hca : xs.length ≤ capa) (hcb : ys.length ≤ capb) :
    Calls Try.prog 25 #[.slice a xs.length capa, .slice b ys.length capb] w fun e w' => ∃ r, e = .returned (.int .i64 r) ∧ CmpT (trim xs) (trim ys) r ∧ Below w.heap.size w w' := by
  have hta := trim_le xs
  have htb := trim_le ys
  obtain ⟨n, hn⟩ : ∃ n : Nat, Hid (3 ≤ n) := ⟨3, Nat.le_refl 3⟩
  refine (callsIn_wide (n := n)).1 ?_
  refine callsIn_of_wp_marks Try.func25 rfl trivial ?_ rfl
  simp only [Try.ntmps25, List.size_toArray, List.length_cons, List.length_nil, Nat.reduceAdd, Nat.reduceSub, Array.replicate_succ, Array.replicate_zero, List.push_toArray, List.append_toArray, List.nil_append, List.cons_append]
  gi_wp2_with fail
  have bB := (Boxed.new w 24 (.slice b ys.length capb)).alloc (Obj.cells #[Value.int IntKind.i64 0] 3)
  have bR := Boxed.new (w.alloc (.cells #[.slice b ys.length capb] 24)) 3 (.int .i64 0)
  have hB0 : Below w.heap.size w ((w.alloc (.cells #[.slice b ys.length capb] 24)).alloc (Obj.cells #[Value.int IntKind.i64 0] 3)) := ((Below.refl _ w).alloc (Nat.le_refl _) _).alloc (by simp) _
  rw [World.size_alloc] at bR
  generalize (w.alloc (.cells #[.slice b ys.length capb] 24)).alloc (Obj.cells #[Value.int IntKind.i64 0] 3) = W at *
  have hcB := bB.cell
  have hfB := bB.frozen
  have hla' : Lim W.drew a xs := hla.later hB0.drew
  have hlb' : Lim W.drew b ys := hlb.later hB0.drew
  refine wpIn_wide.2 ?_
  go_still_tail 5, (by kernel_rfl)
  still_call (cut_still a xs capa _ hla' hma hca)
  repeat still_step
  still_call (cut_still b ys capb _ hlb' hmb hcb)
  repeat still_step
  refine wpStill_nil ?_
  have hlu : Lim w a (trim xs) := hla.take _
  have hlv : Lim w b (trim ys) := hlb.take _
  rw [← trim_length xs, ← trim_length ys]
  have hlen1 : (trim xs).length ≤ 35184372088832 := by rw [trim_length]; omega
  have hlen2 : (trim ys).length ≤ 35184372088832 := by rw [trim_length]; omega
  clear hla hlb hla' hlb' hta htb
  obtain ⟨us, hus⟩ : ∃ us, trim xs = us := ⟨_, rfl⟩
  obtain ⟨vs, hvs⟩ : ∃ vs, trim ys = vs := ⟨_, rfl⟩
  rw [hus] at hlu hlen1 ⊢
  rw [hvs] at hlv hlen2 ⊢
  have HU := Lib.hid hus
  have HV := Lib.hid hvs
  clear hus hvs
  go_wp2_with fail
  have bB2 : Boxed (W.setCell ⟨w.heap.size, 0, none⟩ (.slice b vs.length capb)).drew w.heap.size 24 (.slice b vs.length capb) := bB.set _
  have bR1 : Boxed (W.setCell ⟨w.heap.size, 0, none⟩ (.slice b vs.length capb)) (w.heap.size + 1) 3 (.int .i64 0) := bR.kept (grownBy_setCell' W w.heap.size _) (by simp)
  have bR2 : Boxed (W.setCell ⟨w.heap.size, 0, none⟩ (.slice b vs.length capb)).drew (w.heap.size + 1) 3 (.int .i64 0) := bR1
  have hB2 : Below w.heap.size w (W.setCell ⟨w.heap.size, 0, none⟩ (.slice b vs.length capb)).drew := (hB0.setCell (p := ⟨w.heap.size, 0, none⟩) (Nat.le_refl _) _).drew
  have hlu2 := hlu.later hB2
  have hlv2 := hlv.later hB2
  clear bB bR bR1 hB0 hcB hfB hlu hlv
  generalize (W.setCell ⟨w.heap.size, 0, none⟩ (.slice b vs.length capb)).drew = V at *
  have hcB := bB2.cell
  have hcR := bR2.cell
  have hfR := bR2.frozen
  have hsz := hB2.size
  by_cases hne : us.length = vs.length
  · have hne2 : ((us.length : Int) != (vs.length : Int)) = false := by simp; omega
    have HE := Lib.hid hne
    clear hne
    have hbu : us ≠ [] → ∀ x, a = some x → x.block < V.heap.size + 1 := fun h x hx => Nat.lt_succ_of_lt (hlu2.lt h x hx)
    gi_wp2_with fail
    refine wideCall ((back_any _ _ _ _).mono ?_)
    rintro e w' ⟨rfl, rfl⟩
    gi_wp2_with fail
    have h3 : 3 ≤ n := hn
    have bN := Boxed.new V 24 (.slice a us.length capa)
    refine wpIn_rangeFunc_ownF rfl (by omega) (gf := 54) (lb := #[.pointer (some ⟨V.heap.size, 0, none⟩)]) rfl trivial (enters_of Try.func54 (by kernel_rfl) rfl)
      (back_stops (n - 1) V.heap.size (V.heap.size + 1) a us capa hlen1 (Nat.lt_succ_self _) hbu _ (by simp) bN.cell (hlu2.later ((Below.refl _ V).alloc (Nat.le_refl _) _))) belowK_t (belowK_b (by simp)) (Below.refl _ _) (fun _ => rfl)
      (fun (pre : List (Fin us.length)) X => (∀ x ∈ pre, us[x.val]?.getD 0 = vs[x.val]?.getD 0) ∧ Below (V.heap.size + 1) (V.alloc (.cells #[.slice a us.length capa] 24)) X)
      (fun c pre X => (c = .ret ∧ ∃ ini last, pre = ini ++ [last] ∧ (∀ x ∈ ini, us[x.val]?.getD 0 = vs[x.val]?.getD 0) ∧ us[last.val]?.getD 0 ≠ vs[last.val]?.getD 0 ∧ X.cell? ⟨w.heap.size + 1, 0, none⟩ = some (.int .i64 (sign (us[last.val]?.getD 0) (vs[last.val]?.getD 0)))) ∧ Below w.heap.size w X)
      (OwnFrom.and (Own.from (fun s A B row hs hg hr => hs) _) (ownFrom_below (by simp) (by simp)))
      (fun c => OwnFrom.and (Own.from (fun s A B row hs hg hr => by obtain ⟨hc, ini, last, e1, e2, e3, e4⟩ := hs; exact ⟨hc, ini, last, e1, e2, e3, cell_kept e4 hg hr⟩) _) (ownFrom_below (Nat.le_refl _) (by simp; omega)))
      ⟨by simp, Below.refl _ _⟩
      (fun (x : Fin us.length) => { tmps := #[.slice a us.length capa, .slice b ys.length capb, undef, .pointer (some ⟨w.heap.size, 0, none⟩), .pointer (some ⟨w.heap.size + 1, 0, none⟩), .int .i64 (x.val : Int), .int .u32 (us[x.val]?.getD 0),
        .slice a xs.length capa, .slice a us.length capa, .slice b ys.length capb, .slice b vs.length capb, .slice a us.length capa, .int .i64 us.length, .slice b vs.length capb, .int .i64 vs.length, .bool false, undef, undef, undef, undef, undef,
        .slice a us.length capa, .func (.func 54) #[] #[.pointer (some ⟨V.heap.size, 0, none⟩)], .int .i64 (x.val : Int), .int .u32 (us[x.val]?.getD 0), undef, undef, undef, undef, undef, undef, undef, undef, undef, undef, undef, undef], defers := [] }) ?assign ?body ?done ?stop
    case assign =>
      intro l x X K hK
      simp only [limbAt]
      rw [show us[x.val]?.getD 0 = us[x.val] by simp] at hK
      gi_wp2
      exact hK
    case body =>
      rintro l pre ⟨k, hk⟩ X ⟨hpre, hB⟩ hlt
      have hE := HE.out
      rcases hlv2 with rfl | ⟨bb, off, rfl, hcv⟩
      · simp only [List.length_nil] at hE; omega
      have cB := (hB.cell (p := ⟨w.heap.size, 0, none⟩) (show w.heap.size < V.heap.size + 1 by have := bB2.lt; omega)).trans (bB2.alloc (Obj.cells #[.slice a us.length capa] 24)).cell
      have cR : Boxed X (w.heap.size + 1) 3 (.int .i64 0) := (hB.block _ (by have := bR2.lt; omega)).trans (bR2.alloc (Obj.cells #[.slice a us.length capa] 24))
      have hvl : bb < V.heap.size := World.block_lt_of_cell? V _ (hcv k (by omega))
      have cV := (hB.cell (p := ⟨bb, off + k, none⟩) (Nat.lt_succ_of_lt hvl)).trans ((World.cell?_alloc_lt V (Obj.cells #[.slice a us.length capa] 24) ⟨bb, off + k, none⟩ hvl).trans (hcv k (by omega)))
      have hkv : k < vs.length := by omega
      have cR0 := cR.cell
      have cRf := cR.frozen
      have cR2 : ∀ r, (X.setCell ⟨w.heap.size + 1, 0, none⟩ r).cell? ⟨w.heap.size + 1, 0, none⟩ = some r := fun r => (cR.set r).cell
      have hBX : Below w.heap.size w X := ((hB2.alloc hsz _).trans (hB.mono (by omega)))
      obtain ⟨u, hu⟩ : ∃ u, us[k]?.getD 0 = u := ⟨_, rfl⟩
      obtain ⟨v, hv⟩ : ∃ v, vs.getD k 0 = v := ⟨_, rfl⟩
      rw [hv] at cV
      simp only [hu]
      have HU2 := Lib.hid hu
      have HV2 := Lib.hid hv
      clear hu hv hE hcv cR bB2 bR2 hB2 hlu2 hcB hcR hfR bN
      by_cases e : u = v
      · subst e
        have hne3 : (u != u) = false := by simp
        gi_wp2_with fail
        refine ⟨KeepsOthers.refl _, Below.refl _ _, ?_, hB⟩
        intro y hy
        rcases List.mem_append.1 hy with hy | hy
        · exact hpre y hy
        · simp only [List.mem_singleton] at hy
          subst hy
          exact HU2.out.trans HV2.out.symm
      · have hne3 : (u != v) = true := by simp [e]
        gi_wp2_with fail
        refine roundCall ((cmpLimb_any _ _ _).mono ?_)
        rintro e w' ⟨rfl, rfl⟩
        gi_wp2_with fail
        have e1 : us[k]?.getD 0 = u := HU2.out
        have e2 : vs[k]?.getD 0 = v := HV2.out
        refine ⟨KeepsOthers.setCell _ _ _, ⟨rfl, pre, ⟨k, hk⟩, rfl, hpre, by rw [e1, e2]; exact e, ?_⟩, hBX.setCell (p := ⟨w.heap.size + 1, 0, none⟩) (Nat.le_succ _) _⟩
        rw [e1, e2]
        exact cR2 _
    case done =>
      rintro D ys' X hD hdn ⟨hall, hB⟩ hK
      rw [World.size_alloc] at hD
      have cR : Boxed X (w.heap.size + 1) 3 (.int .i64 0) := (hB.block _ (by have := bR2.lt; omega)).trans (bR2.alloc (Obj.cells #[.slice a us.length capa] 24))
      have cR0 := cR.cell
      have cRf := cR.frozen
      have hBX : Below w.heap.size w X := ((hB2.alloc hsz _).trans (hB.mono (by omega)))
      have hE := HE.out
      clear hcB hcR hfR bN hbu
      gi_wp2
      have hK' := (KeepsOthers.setCell X ⟨w.heap.size + 1, 0, none⟩ (.int .i64 0)).same D _ hK rfl
      refine ⟨by simp, .inl ⟨_, _, rfl, run_takeDeferred hK', ?_⟩⟩
      have hc5 := cell_kept ((cR.set (.int .i64 0)).cell) (grownBy_putObj' _ D (.deferred none)) (fun r e => by cases e; exact ⟨_, hK', rfl⟩)
      refine ⟨.int .i64 0, by simp [results, Try.f25, go_sem, hc5], 0, rfl, ?_, (hBX.setCell (p := ⟨w.heap.size + 1, 0, none⟩) (Nat.le_succ _) _).trans (belowK_b (w := w) (Nat.le_refl _) _ D _ _ (by omega) hK' rfl rfl)⟩
      rw [HU.out, HV.out]
      refine .inr (.inl ⟨hE, fun i hi => ?_, rfl⟩)
      obtain ⟨h1, h2⟩ := hdn
      have h3 := h2 (us.length - 1 - i) (by omega)
      have h4 := hall _ (List.getElem_mem (show us.length - 1 - i < ys'.length by omega))
      rw [show (ys'[us.length - 1 - i]'(by omega)).val = i from by omega] at h4
      exact h4
    case stop =>
      rintro D c pre X hD ⟨k, hk, hdn⟩ ⟨⟨rfl, ini, last, e1, e2, e3, hcr⟩, hB⟩ hK
      rw [World.size_alloc] at hD
      have hE := HE.out
      clear hcB hcR hfR bN hbu
      gi_wp2
      refine ⟨by simp, .inl ⟨_, _, rfl, run_takeDeferred hK, ?_⟩⟩
      have hc5 := cell_kept hcr (grownBy_putObj' _ D (.deferred none)) (fun r e => by cases e; exact ⟨_, hK, rfl⟩)
      refine ⟨.int .i64 (sign (us[last.val]?.getD 0) (vs[last.val]?.getD 0)), by simp [results, Try.f25, go_sem, hc5], _, rfl, ?_, hB.trans (belowK_b (w := w) (Nat.le_refl _) _ D _ _ (by omega) hK rfl rfl)⟩
      rw [HU.out, HV.out]
      refine .inr (.inr ⟨hE, last.val, last.isLt, e3, fun j hj1 hj2 => ?_, rfl⟩)
      obtain ⟨h1, h2⟩ := hdn
      subst e1
      have hl : (ini ++ [last]).length = ini.length + 1 := by simp
      have h3 := h2 ini.length (by omega)
      rw [List.getElem_append_right (by omega)] at h3
      simp only [Nat.sub_self, List.getElem_cons_zero] at h3
      have hj3 : us.length - 1 - j < ini.length := by omega
      have h4 := h2 (us.length - 1 - j) (by omega)
      rw [List.getElem_append_left hj3] at h4
      have h5 := e2 _ (List.getElem_mem hj3)
      rw [show (ini[us.length - 1 - j]).val = j from by omega] at h5
      exact h5
  · have hne2 : ((us.length : Int) != (vs.length : Int)) = true := by simp; omega
    gi_wp2_with fail
    refine wideCall ((cmpInt_any _ _ _).mono ?_)
    rintro e w' ⟨rfl, rfl⟩
    have hcr2 := (bR2.set (.int .i64 (sign us.length vs.length))).cell
    gi_wp2_with fail
    refine ⟨.int .i64 (sign us.length vs.length), by simp [results, Try.f25, go_sem, hcr2], _, rfl, ?_, hB2.setCell (p := ⟨w.heap.size + 1, 0, none⟩) (Nat.le_succ _) _⟩
    rw [HU.out, HV.out]
    exact .inl ⟨hne, rfl⟩
end Go.Proofs.Yteinfanfhgpciaa
