/-
  Layer 9's law MoveParts: for every tensors and every dimension the law holds (tensors that hold together at most 1048576 values). (Made by wip/gen/gen_mpart.py.)
-/
import Derived.Test.YtooglnhlhgmhdaaGreatMPartA
import Derived.Test.YtooglnhlhgmhdaaGreatZ28
namespace Go.Proofs.YtooglnhlhgmhdaaGreat
open Go.RowKit
set_option linter.unusedVariables false
set_option linter.unusedSimpArgs false

theorem ResT.shapeP {base m : Nat} {w : World} {x0 x3 : Option Addr} {x1 x2 x4 x5 : Nat} {s : List Int} {Lx : List Rat} (h : ResT base w (.agg #[.slice x0 x1 x2, .slice x3 x4 x5]) s Lx m) : x1 = s.length ∧ ArgS w (.slice x0 x1 x2) s x0 x2 := by
  obtain ⟨a, b, ca, cb, hv, RS, _⟩ := h
  simp only [Value.agg.injEq, Array.mk.injEq, List.cons.injEq, and_true, Value.slice.injEq] at hv
  obtain ⟨⟨rfl, rfl, rfl⟩, rfl, rfl, rfl⟩ := hv
  obtain ⟨_, A, _⟩ := RS.at_
  exact ⟨rfl, A⟩
theorem cell_two9P (w : World) (a b : Value) (t : TypeId) : ∀ j u, [a, b][j]? = some u → (w.alloc (.cells #[a, b] t)).cell? ((⟨w.heap.size, 0, none⟩ : Addr).add j) = some u := by
  intro j u hj
  match j, hj with
  | 0, hj => simp at hj; subst hj; simp [Addr.add]
  | 1, hj => simp at hj; subst hj; simp [Addr.add]
  | j + 2, hj => simp at hj
set_option maxRecDepth 100000 in
set_option maxHeartbeats 40000000 in
theorem moveParts_walk {v : Value} {xs : List X2} {ad : Option Addr} {cap : Nat} (axis : Int) (W : World) (R : RowT W v xs ad cap) (lx : sizeXs xs ≤ 1048576) (hax : -9223372036854775808 ≤ axis ∧ axis ≤ 9223372036854775807) :
    Calls Tryz.prog 10 #[.int .i64 axis, v] W fun e W' => e = .returned (.bool true) ∧ Below W.heap.size W W' := by
  have hn : xs.length ≤ 1048576 := Nat.le_trans (sizeXs_len xs) lx
  have hl := sizeXs_lens lx
  obtain rfl := R.is
  have HR := Lib.hid R
  have HL := Lib.hid hl
  obtain ⟨i0, hiS, hzA, hzB, hzC⟩ := info_parts infoS
  have hco := concat_any (n := 1048576) axis R hn hl (by omega) hax.1 hax.2
  obtain ⟨c, hc⟩ : ∃ c, mjC axis xs = c := ⟨_, rfl⟩
  rw [hc] at hco
  have HC := Lib.hid hc
  obtain ⟨N, hN⟩ : ∃ N, xs.length = N := ⟨_, rfl⟩
  have HN := Lib.hid hN
  rw [hN] at hn hco ⊢
  obtain ⟨hax0, hax1⟩ := hax
  clear R hl hc hN lx
  go_enter Tryz.func10, Tryz.ntmps10
  go_wp2_with fail
  refine hco.mono ?_
  rintro e z1 ⟨hO, hz1⟩
  obtain ⟨x0, x1, x2, x3, x4, x5, rfl, hA⟩ := hO.ans9
  obtain ⟨q1, hq1⟩ : ∃ Y, z1.alloc (.cells #[.slice x0 x1 x2, .slice x3 x4 x5] 26) = Y := ⟨_, rfl⟩
  have R1 : Row q1 z1.heap.size 26 #[.slice x0 x1 x2, .slice x3 x4 x5] := by rw [← hq1]; exact Row.new _ _ _
  have b1 : Below z1.heap.size z1 q1 := by rw [← hq1]; exact (Below.refl _ _).alloc (Nat.le_refl _) _
  have B1 : Below W.heap.size W q1 := hz1.trans (b1.mono hz1.size)
  have HA := Lib.hid hA
  clear hO hA hco
  by_cases hc0 : c = 0
  · subst hc0
    have hce : ((0 : Int) != 0) = false := by decide
    obtain ⟨hap, J⟩ := mjC_zero HC.out
    obtain ⟨a, rfl⟩ : ∃ a : Nat, axis = (a : Int) := ⟨axis.toNat, by omega⟩
    have hat : ((a : Int)).toNat = a := by omega
    rw [hat] at J
    have hT := (HA.out.resolve_right (fun h => h.1 rfl)).2.later b1
    rw [hat] at hT
    have HJ := Lib.hid J
    have HT := Lib.hid hT
    have HOKJ : Hid (Ok9 (joS a xs) (conV a xs).length) := Lib.hid ⟨J.ok, by unfold conV; rw [fillV_len]; have := prodS_pos J.ok.pos; omega⟩
    have HOX := Lib.hid J.okx
    have hxr := J.ok.rank
    clear J hT hat hap
    go_wp2_with fail
    (try rw [hq1])
    clear hq1
    go_loopw [7, 8, 9, 10, 11, 12] (fun f i _ _ _ _ wr => ∃ (k : Nat), i = .int .i64 (k : Int) ∧ f = .int .i64 (sumD a (xs.take k)) ∧ k ≤ N ∧ Below q1.heap.size q1 wr) (fun _ i _ _ _ _ _ => N - (intOf i).toNat)
    case atStart => exact ⟨0, rfl, rfl, Nat.zero_le _, Below.refl _ _⟩
    case round =>
      rename World => wr
      obtain ⟨k, rfl, rfl, hk, hb⟩ := hrel
      have hsz := hb.size
      have hbW : Below W.heap.size W wr := B1.trans (hb.mono B1.size)
      obtain ⟨f0, hf0⟩ : ∃ f, sumD a (xs.take k) = f := ⟨_, rfl⟩
      have hbd := sumD_bound (a := a) (l := xs.take k) fun y hy => HOX.out y (List.mem_of_mem_take hy)
      rw [List.length_take, HN.out, show min k N = k by omega] at hbd
      rw [hf0] at hbd ⊢
      have HF0 := Lib.hid hf0
      clear hf0
      by_cases hlt : k < N
      · have hltI : (k : Int) < (N : Int) := by omega
        obtain ⟨x, hx⟩ : ∃ x, xs[k]? = some x := ⟨_, List.getElem?_eq_getElem (by rw [HN.out]; omega)⟩
        have hxm := List.mem_of_getElem? hx
        have hox := HOX.out x hxm
        obtain ⟨b, o, rfl, _, ax, ex, cx, dx, c0, c1, TX⟩ := (HR.out.later hbW).at hx
        have hrk := hox.1.rank
        obtain ⟨S, hS⟩ : ∃ S, x.s.length = S := ⟨_, rfl⟩
        obtain ⟨K, hK⟩ : ∃ S, x.q.length = S := ⟨_, rfl⟩
        have HS := Lib.hid hS
        have HK := Lib.hid hK
        have hd1 : decide ((a : Int) < 0) = false := decide_eq_false (by omega)
        have hd2 : decide ((a : Int) ≥ (S : Int)) = false := decide_eq_false (by have := hox.2; omega)
        have haS : a < S := by have := hox.2; omega
        rw [hS] at hrk c0
        rw [hK] at c1
        have hpart := part_of HJ.out hx
        rw [HF0.out, hS] at hpart
        have HPART := Lib.hid hpart
        have HX := Lib.hid hx
        have hdim : ∀ i, 0 ≤ x.s.getD i 0 ∧ x.s.getD i 0 ≤ 1024 := fun i => by
          by_cases h : i < x.s.length
          · have h1 := hox.1.pos.getD h
            have h2 := getD_le_prod hox.1.pos h
            have h3 := hox.1.few
            omega
          · rw [List.getD_eq_getElem?_getD, List.getElem?_eq_none (by omega)]
            simp
        have HDIM := Lib.hid hdim
        have cX : ∀ X, Below wr.heap.size wr X → X.cell? ⟨b, o + k * 2, none⟩ = some (.slice ax S cx) ∧ X.cell? ⟨b, o + k * 2 + 1, none⟩ = some (.slice ex K dx) := fun X h => ⟨(h.cell (World.block_lt_of_cell? _ _ c0)).trans c0, (h.cell (World.block_lt_of_cell? _ _ c1)).trans c1⟩
        have HCX := Lib.hid cX
        have HTX := Lib.hid TX
        clear hpart hx cX TX hS hK hdim
        go_wp2_with fail
        clear c0 c1
        go_loopw [9, 10] (fun u i wi => ∃ (m : Nat), i = .int .i64 (m : Int) ∧ m ≤ S ∧ NumS wr.heap.size wi u (ctL a f0 x.s m) ∧ Below wr.heap.size wr wi) (fun _ i _ => S - (intOf i).toNat)
        case atStart => exact ⟨0, rfl, Nat.zero_le _, World.ownsRow_nil _ _ _ _, Below.refl _ _⟩
        case round =>
          rename World => wi
          obtain ⟨m, rfl, hm, hown, hbi⟩ := hrel
          have hszi := hbi.size
          obtain ⟨c0, c1⟩ := HCX.out _ hbi
          by_cases hltm : m < S
          · have hltmI : (m : Int) < (S : Int) := by omega
            obtain ⟨bx, ox, rfl, c2⟩ := (HTX.out.sh.later hbi).at (i := m) (by rw [HS.out]; exact hltm)
            obtain ⟨d, hd⟩ : ∃ d, x.s.getD m 0 = d := ⟨_, rfl⟩
            have hdd := HDIM.out m
            rw [hd] at c2 hdd
            have hnx := ctL_next a f0 x.s m
            rw [hd] at hnx
            have hkl := ctL_len a f0 x.s m
            obtain ⟨zs, hzs⟩ : ∃ zs, ctL a f0 x.s m = zs := ⟨_, rfl⟩
            rw [hzs] at hown hnx hkl
            have HNX := Lib.hid hnx
            have HZS : Hid (zs = zs) := Lib.hid rfl
            have hz16 : zs.length ≤ 16 := by omega
            have wy : IntKind.i64.wrap (f0 + d) = f0 + d := wrap_i64 (by omega) (by omega)
            obtain ⟨av, cv, rfl⟩ := ownT_slice hown
            clear hd hnx hkl hzs
            by_cases he : m = a
            · have hee : ((m : Int) == (a : Int)) = true := by simp [he]
              have HE := Lib.hid he
              clear he
              go_wp2_with (at_builtin; (refine wpList_append_own _ rfl _ _ 22 rfl wr.heap.size 3 i0 (.int .i64 0) 1 8 Tryz.underlying22 hiS hzA hzB hzC rfl (by decide) _ zs.length (zs.map (Value.int .i64)) rfl (hown.later ((Below.refl _ _).alloc (Nat.le_refl _) _)) ⟨wi.heap.size, 0, none⟩ 2 2 [.int .i64 f0, .int .i64 (f0 + d)] rfl rfl (cell_two9P _ _ _ _) (by simp [Value.oneCell']) (by unfold maxLen; omega) (by omega) (by simp; omega) ?_; intro v' w6 hown' hgrow _))
              have hb6 : Below wr.heap.size wr w6 := (hbi.alloc hszi _).grown hgrow (by simp; omega) (fun q hq => (World.ownsRow.lt hown q hq).1)
              have hN6 : NumS wr.heap.size w6 v' (ctL a f0 x.s (m + 1)) := by
                rw [HNX.out, if_pos HE.out]
                unfold NumS
                rw [List.length_append, List.map_append]
                exact hown'
              have HN6 := Lib.hid hN6
              clear hN6 hown' hgrow
              (try go_wp2_with fail)
              go_roundw
              case rel => exact ⟨m + 1, by go_num, by omega, HN6.out, hb6⟩
              case measure => simp [intOf]; omega
            · have hee : ((m : Int) == (a : Int)) = false := by rw [beq_eq_false_iff_ne]; omega
              have HE := Lib.hid he
              clear he
              go_wp2_with (at_builtin; (refine wpList_append_own _ rfl _ _ 22 rfl wr.heap.size 3 i0 (.int .i64 0) 1 8 Tryz.underlying22 hiS hzA hzB hzC rfl (by decide) _ zs.length (zs.map (Value.int .i64)) rfl (hown.later ((Below.refl _ _).alloc (Nat.le_refl _) _)) ⟨wi.heap.size, 0, none⟩ 2 2 [.int .i64 0, .int .i64 d] rfl rfl (cell_two9P _ _ _ _) (by simp [Value.oneCell']) (by unfold maxLen; omega) (by omega) (by simp; omega) ?_; intro v' w6 hown' hgrow _))
              have hb6 : Below wr.heap.size wr w6 := (hbi.alloc hszi _).grown hgrow (by simp; omega) (fun q hq => (World.ownsRow.lt hown q hq).1)
              have hN6 : NumS wr.heap.size w6 v' (ctL a f0 x.s (m + 1)) := by
                rw [HNX.out, if_neg HE.out]
                unfold NumS
                rw [List.length_append, List.map_append]
                exact hown'
              have HN6 := Lib.hid hN6
              clear hN6 hown' hgrow
              (try go_wp2_with fail)
              go_roundw
              case rel => exact ⟨m + 1, by go_num, by omega, HN6.out, hb6⟩
              case measure => simp [intOf]; omega
          · obtain rfl : m = S := by omega
            have hltmI : ¬ (m : Int) < (m : Int) := by omega
            have hbw := hbW.trans (hbi.mono hbW.size)
            have hbq : Below q1.heap.size q1 wi := hb.trans (hbi.mono hsz)
            obtain ⟨ac, cc, AC, nc⟩ := (show ResS wr.heap.size wi _ (ctL a f0 x.s m) from ⟨hown, ctL_wid (by omega) HDIM.out _⟩).arg2
            obtain rfl := AC.is
            have hsl := sliceK (n := 1048578) (HT.out.later hbq) AC nc (by rw [ctL_len]; omega) HOKJ.out (by omega) HPART.out.1
            rw [HPART.out.2.1, HPART.out.2.2] at hsl
            obtain ⟨lc, hlc⟩ : ∃ l, (ctL a f0 x.s m).length = l := ⟨_, rfl⟩
            rw [hlc] at hsl
            rw [hlc]
            obtain ⟨t0, t1, _, _⟩ := (R1.later hbq).two
            clear AC nc hlc hown
            go_wp2_with fail
            refine hsl.mono ?_
            rintro e z2 ⟨⟨ra, rb, rca, rcb, rfl, TT⟩, hz2⟩
            rw [HS.out]
            obtain ⟨lr, hlr⟩ : ∃ l, (x.q.map Q3.rat).length = l := ⟨_, rfl⟩
            have TT2 := TT
            rw [HS.out, hlr] at TT2
            rw [hlr]
            obtain ⟨q2, hq2⟩ : ∃ Y, z2.alloc (.cells #[.slice ra m rca, .slice rb lr rcb] 26) = Y := ⟨_, rfl⟩
            have R2 : Row q2 z2.heap.size 26 #[.slice ra m rca, .slice rb lr rcb] := by rw [← hq2]; exact Row.new _ _ _
            have b2 : Below z2.heap.size z2 q2 := by rw [← hq2]; exact (Below.refl _ _).alloc (Nat.le_refl _) _
            have D2 : Below wi.heap.size wi q2 := hz2.trans (b2.mono hz2.size)
            have D2r : Below wr.heap.size wr q2 := hbi.trans (D2.mono hszi)
            have HTT := Lib.hid (TT2.later b2)
            have HTXQ : Hid (∀ X, Below q2.heap.size q2 X → TensQ X (.agg #[.slice ax m cx, .slice ex K dx]) x.s x.q ax cx ex dx) := Lib.hid (fun X h => by
              have h9 := HTX.out.later (D2r.trans (h.mono D2r.size))
              rw [HS.out, HK.out] at h9
              exact h9)
            have hkk := (ok9_of (HJ.out.may x (List.mem_of_getElem? HX.out))).le
            have hsame := fun X (h : Below q2.heap.size q2 X) => sameX9 (m := 1048576) (HTT.out.later h) (HTXQ.out X h) rfl (HL.out x (List.mem_of_getElem? HX.out)).2.2 (by omega) (by rw [List.length_map]; omega) (by omega) (by omega)
            have mk2 : ∀ X, Below q2.heap.size q2 X → (X.cell? ⟨z2.heap.size, 0, none⟩ = some (.slice ra m rca) ∧ X.cell? ⟨z2.heap.size, 1, none⟩ = some (.slice rb lr rcb)) ∧ X.cell? ⟨b, o + k * 2, none⟩ = some (.slice ax m cx) ∧ X.cell? ⟨b, o + k * 2 + 1, none⟩ = some (.slice ex K dx) := fun X h => by
              obtain ⟨e0, e1, _⟩ := (R2.later h).two
              exact ⟨⟨e0, e1⟩, HCX.out _ (D2r.trans (h.mono D2r.size))⟩
            clear TT TT2 hsl t0 t1 c0 c1 hlr
            go_wp2_with fail
            (try rw [hq2])
            clear hq2
            refine wp_region_held_drew (S := fun X => (X.cell? ⟨z2.heap.size, 0, none⟩ = some (.slice ra m rca) ∧ X.cell? ⟨z2.heap.size, 1, none⟩ = some (.slice rb lr rcb)) ∧ X.cell? ⟨b, o + k * 2, none⟩ = some (.slice ax m cx) ∧ X.cell? ⟨b, o + k * 2 + 1, none⟩ = some (.slice ex K dx)) (by kernel_rfl) (mk2 _ ((Below.refl q2.heap.size q2).drew)) (fun hHeld => ?_)
            refine wpAnyH_take (i := 0) (v := ?vS0) rfl (by kernel_rfl) (by kernel_rfl) (by kernel_rfl) (fun _ _ _ h => h) (Or.inl ⟨by rfl, ?hS0⟩) (by assumption) ?rS0
            case hS0 =>
              intro w hSw
              try dsimp only at hSw
              go_simp
              try with_reducible rfl
            try simp only [Act.put, List.getElem_toArray, List.getElem_cons_succ, List.getElem_cons_zero, List.setIfInBounds_toArray, List.set_cons_zero, List.set_cons_succ]
            refine wpAnyH_take (i := 1) (v := ?vS1) rfl (by kernel_rfl) (by kernel_rfl) (by kernel_rfl) (fun _ _ _ h => h) (Or.inl ⟨by rfl, ?hS1⟩) (by assumption) ?rS1
            case hS1 =>
              intro w hSw
              try dsimp only at hSw
              go_simp
              try with_reducible rfl
            try simp only [Act.put, List.getElem_toArray, List.getElem_cons_succ, List.getElem_cons_zero, List.setIfInBounds_toArray, List.set_cons_zero, List.set_cons_succ]
            refine wpAnyH_take (i := 2) (v := ?vS2) rfl (by kernel_rfl) (by kernel_rfl) (by kernel_rfl) (fun _ _ _ h => h) (Or.inl ⟨by rfl, ?hS2⟩) (by assumption) ?rS2
            case hS2 =>
              intro w hSw
              try dsimp only at hSw
              go_simp
              try with_reducible rfl
            try simp only [Act.put, List.getElem_toArray, List.getElem_cons_succ, List.getElem_cons_zero, List.setIfInBounds_toArray, List.set_cons_zero, List.set_cons_succ]
            refine wpAnyH_take (i := 3) (v := ?vS3) rfl (by kernel_rfl) (by kernel_rfl) (by kernel_rfl) (fun _ _ _ h => h) (Or.inl ⟨by rfl, ?hS3⟩) (by assumption) ?rS3
            case hS3 =>
              intro w hSw
              try dsimp only at hSw
              go_simp
              try with_reducible rfl
            try simp only [Act.put, List.getElem_toArray, List.getElem_cons_succ, List.getElem_cons_zero, List.setIfInBounds_toArray, List.set_cons_zero, List.set_cons_succ]
            refine wpAnyH_take (i := 4) (v := ?vS4) rfl (by kernel_rfl) (by kernel_rfl) (by kernel_rfl) (fun _ _ _ h => h) (Or.inl ⟨by rfl, ?hS4⟩) (by assumption) ?rS4
            case hS4 =>
              intro w hSw
              try dsimp only at hSw
              go_simp
              try with_reducible rfl
            try simp only [Act.put, List.getElem_toArray, List.getElem_cons_succ, List.getElem_cons_zero, List.setIfInBounds_toArray, List.set_cons_zero, List.set_cons_succ]
            refine wpAnyH_take (i := 5) (v := ?vS5) rfl (by kernel_rfl) (by kernel_rfl) (by kernel_rfl) (fun _ _ _ h => h) (Or.inl ⟨by rfl, ?hS5⟩) (by assumption) ?rS5
            case hS5 =>
              intro w hSw
              try dsimp only at hSw
              go_simp
              try with_reducible rfl
            try simp only [Act.put, List.getElem_toArray, List.getElem_cons_succ, List.getElem_cons_zero, List.setIfInBounds_toArray, List.set_cons_zero, List.set_cons_succ]
            refine wpAnyH_take (i := 6) (v := ?vS6) rfl (by kernel_rfl) (by kernel_rfl) (by kernel_rfl) (fun _ _ _ h => h) (Or.inl ⟨by rfl, ?hS6⟩) (by assumption) ?rS6
            case hS6 =>
              intro w hSw
              try dsimp only at hSw
              go_simp
              try with_reducible rfl
            try simp only [Act.put, List.getElem_toArray, List.getElem_cons_succ, List.getElem_cons_zero, List.setIfInBounds_toArray, List.set_cons_zero, List.set_cons_succ]
            refine wpAnyH_take (i := 7) (v := ?vS7) rfl (by kernel_rfl) (by kernel_rfl) (by kernel_rfl) (fun _ _ _ h => h) (Or.inl ⟨by rfl, ?hS7⟩) (by assumption) ?rS7
            case hS7 =>
              intro w hSw
              try dsimp only at hSw
              go_simp
              try with_reducible rfl
            try simp only [Act.put, List.getElem_toArray, List.getElem_cons_succ, List.getElem_cons_zero, List.setIfInBounds_toArray, List.set_cons_zero, List.set_cons_succ]
            refine wpAnyH_ready (rs := [8]) (by kernel_rfl) (by simp) ?_
            refine AllReadyH.cons rfl (fun K hK => ?sS8) AllReadyH.nil
            go_simp
            have hbd1 : Below q2.heap.size q2 q2.drew := (Below.refl _ _).drew
            refine (hsame _ hbd1).mono ?_
            rintro e w5 ⟨rfl, hy5⟩
            have hb5 : Below q2.heap.size q2 w5 := hbd1.trans hy5
            clear hy5 hbd1 hsame
            go_simp
            refine hK.out _ _ ?kS8 (fun hHeld => ?mS8)
            case kS8 =>
              try dsimp only
              exact mk2 _ hb5
            clear hK K
            try simp only [Act.put, List.getElem_toArray, List.getElem_cons_succ, List.getElem_cons_zero, List.setIfInBounds_toArray, List.set_cons_zero, List.set_cons_succ]
            refine wpAnyH_take (i := 9) (v := ?vS9) rfl (by kernel_rfl) (by kernel_rfl) (by kernel_rfl) (fun _ _ _ h => h) (Or.inl ⟨by rfl, ?hS9⟩) (by assumption) ?rS9
            case hS9 =>
              intro w hSw
              try dsimp only at hSw
              go_simp
              try with_reducible rfl
            try simp only [Act.put, List.getElem_toArray, List.getElem_cons_succ, List.getElem_cons_zero, List.setIfInBounds_toArray, List.set_cons_zero, List.set_cons_succ]
            refine wpAnyH_take (i := 10) (v := ?vS10) rfl (by kernel_rfl) (by kernel_rfl) (by kernel_rfl) (fun _ _ _ h => h) (Or.inl ⟨by rfl, ?hS10⟩) (by assumption) ?rS10
            case hS10 =>
              intro w hSw
              try dsimp only at hSw
              go_simp
              try with_reducible rfl
            try simp only [Act.put, List.getElem_toArray, List.getElem_cons_succ, List.getElem_cons_zero, List.setIfInBounds_toArray, List.set_cons_zero, List.set_cons_succ]
            refine wpAnyH_done (by kernel_rfl) ?_ _
            have hbr5 : Below wr.heap.size wr w5 := D2r.trans (hb5.mono D2r.size)
            obtain ⟨c0, c1⟩ := HCX.out _ hbr5
            obtain ⟨bx, ox, rfl, c2⟩ := (HTX.out.sh.later hbr5).at (i := a) hox.2
            obtain ⟨d, hd⟩ : ∃ d, x.s.getD a 0 = d := ⟨_, rfl⟩
            have hdd := HDIM.out a
            rw [hd] at c2 hdd
            have wy : IntKind.i64.wrap (f0 + d) = f0 + d := wrap_i64 (by omega) (by omega)
            have hnx : sumD a (xs.take (k + 1)) = f0 + d := by rw [take_nextL HX.out, sumD_snoc, HF0.out, hd]
            have HNX := Lib.hid hnx
            have haI : (a : Int) < (m : Int) := by omega
            clear hd hnx mk2
            go_wp2_with fail
            go_roundw
            case rel => exact ⟨k + 1, by go_num, by rw [HNX.out], by omega, hb.trans (hbr5.mono hsz)⟩
            case measure => simp [intOf]; omega
      · obtain rfl : k = N := by omega
        have hltI : ¬ (k : Int) < (k : Int) := by omega
        obtain ⟨t0, t1, _, _⟩ := (R1.later hb).two
        obtain ⟨h1, AS⟩ := (HT.out.later hb).shapeP
        rw [joS_len] at h1
        have hja := HJ.out.ax
        obtain ⟨bt, ot, rfl, c2⟩ := AS.at (i := a) (by rw [joS_len]; exact hja)
        have hsum : (joS a xs).getD a 0 = f0 := by
          rw [HJ.out.sum, ← HF0.out, List.take_of_length_le (by rw [HN.out]; exact Nat.le_refl _)]
        rw [hsum] at c2
        have hd1 : decide ((x1 : Int) > (a : Int)) = true := decide_eq_true (by omega)
        have haI : (a : Int) < (x1 : Int) := by omega
        have hee : ((f0 : Int) == f0) = true := by simp
        clear h1 AS hsum
        go_wp2_with fail
        refine (known9_any wr).mono ?_
        rintro e y9 ⟨rfl, hy9⟩
        go_wp2_with fail
        go_ret
        exact ⟨rfl, hbW.trans (hy9.mono hbW.size)⟩
  · have hce : (c != 0) = true := by simp [hc0]
    clear hc0
    go_wp2_with fail
    (try rw [hq1])
    refine (known9_any q1).mono ?_
    rintro e y9 ⟨rfl, hy9⟩
    go_wp2_with fail
    go_ret
    exact ⟨rfl, B1.trans (hy9.mono B1.size)⟩
  end Go.Proofs.YtooglnhlhgmhdaaGreat
