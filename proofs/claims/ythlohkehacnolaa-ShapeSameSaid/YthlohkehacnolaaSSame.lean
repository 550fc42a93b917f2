/-
  ShapeSame. (Made by wip/gen/gen_slaws.py.)
-/
import Derived.Test.YthlohkehacnolaaSOpen
import Derived.Test.YthlohkehacnolaaSCellz
namespace Go.Proofs.Ythlohkehacnolaa
open Go.RowKit
set_option linter.unusedVariables false
set_option linter.unusedSimpArgs false

set_option maxRecDepth 100000 in
set_option maxHeartbeats 8000000 in
theorem shapeSame_walk (xs0 : List Int) (a0 : Option Addr) (ca0 : Nat) (xs1 : List Int) (a1 : Option Addr) (ca1 : Nat) (w : World) (A0 : ArgS w (.slice a0 xs0.length ca0) xs0 a0 ca0) (l0 : xs0.length ≤ 17592186043904) (n0 : a0 = none → ca0 = 0) (A1 : ArgS w (.slice a1 xs1.length ca1) xs1 a1 ca1) (l1 : xs1.length ≤ 17592186043904) (n1 : a1 = none → ca1 = 0) :
    Calls Try.prog 13 #[.slice a0 xs0.length ca0, .slice a1 xs1.length ca1] w fun e w' => e = .returned (.bool true) ∧ Below w.heap.size w w' := by
  have q1 := sameS_any A0 A1 n0 n1 (by omega) (by omega)
  have q2 := fun W (hb : Below w.heap.size w W) => sameL_any (A0.later hb) (A1.later hb) (by omega)
  obtain ⟨d, hd⟩ : ∃ d, decide (xs0 = xs1) = d := ⟨_, rfl⟩
  rw [hd] at q1
  simp only [hd] at q2
  obtain ⟨L, hL⟩ : ∃ L, xs0.length = L := ⟨_, rfl⟩
  obtain ⟨M, hM⟩ : ∃ M, xs1.length = M := ⟨_, rfl⟩
  have HL := Lib.hid hL
  have hl0 : L ≤ 17592186043904 := by omega
  have HA := Lib.hid A0
  rw [hL, hM] at q1
  simp only [hL, hM] at q2
  rw [hL] at A0
  rw [hL, hM]
  have A00 := A0
  have hdd : (d != d) = false := by simp
  clear hd A1 l0 l1 n1 hL hM
  go_enter Try.func13, Try.ntmps13
  have B0 : Below w.heap.size w w := Below.refl _ _
  have S0 := B0.size
  go_wp2_with fail
  refine (q1).mono ?_
  rintro e w1 ⟨rfl, hb⟩
  have B1 := B0.trans (hb.mono S0)
  have S1 := B1.size
  clear hb
  go_wp2_with fail
  refine (q2 _ B1).mono ?_
  rintro e w2 ⟨rfl, hb⟩
  have B2 := B1.trans (hb.mono S1)
  have S2 := B2.size
  clear hb
  have AW := A00.later B2
  go_wp2_with (at_builtin; refine step_copyS rfl _ 23 Try.underlying23 rfl rfl AW n0 (by rw [HL.out]; omega) ?_; intro ro w3 R3 hb3)
  have B3 := B2.trans (hb3.mono S2)
  have S3 := B3.size
  obtain ⟨bo, co, rfl, Q3, AO, no⟩ := R3.slice
  rw [HL.out] at AO
  have AO3 := AO
  have d1 := dropC_any AO (nil_argS w3) no (fun _ => rfl) (by rw [HL.out]; omega) (by simp)
  rw [HL.out]
  clear R3 Q3 hb3 B2 S2
  go_wp2_with fail
  refine d1.mono ?_
  rintro e w4 ⟨r4, rfl, R4, hb4⟩
  have C4 := NumS.cellz R4.num (Nat.le_refl w3.heap.size)
  have hb34 := hb4
  have hs34 := hb4.size
  have AO := AO.later hb4
  obtain ⟨b4, c4, rfl, _, _, _⟩ := R4.slice
  have d2 := onesC_any AO (nil_argS w4) no (fun _ => rfl) (by rw [HL.out]; omega) (by simp)
  clear R4 d1 hb4
  go_wp2_with fail
  refine d2.mono ?_
  rintro e w5 ⟨r5, rfl, R5, hb5⟩
  have C5 := NumS.cellz R5.num hs34
  have C4 := C4.next hb5
  have hb35 := hb34.trans (hb5.mono hs34)
  have hs35 := hb35.size
  have AO := AO.later hb5
  obtain ⟨b5, c5, rfl, _, _, _⟩ := R5.slice
  have d3 := stridesS_any AO no (by rw [HL.out]; omega)
  clear R5 d2 hb5 hb34 hs34
  go_wp2_with fail
  refine d3.mono ?_
  rintro e w6 ⟨r6, rfl, R6, hb6⟩
  have C6 := NumS.cellz R6.num hs35
  have C5 := C5.next hb6
  have C4 := C4.next hb6
  have hb36 := hb35.trans (hb6.mono hs35)
  have hs36 := hb36.size
  obtain ⟨b6, c6, rfl, _, _, _⟩ := R6.slice
  clear R6 d3 hb6 hb35 hs35 AO
  obtain ⟨lo, hlo⟩ : ∃ lo, w3.heap.size = lo := ⟨_, rfl⟩
  rw [hlo] at hs36 C4 C5 C6
  have hLB : Below lo w3 w6 := by rw [← hlo]; exact hb36
  obtain ⟨n4, hn4⟩ : ∃ n, (dropS xs0 []).length = n := ⟨_, rfl⟩
  obtain ⟨n5, hn5⟩ : ∃ n, (onesS xs0 []).length = n := ⟨_, rfl⟩
  obtain ⟨n6, hn6⟩ : ∃ n, (strideS xs0).length = n := ⟨_, rfl⟩
  rw [hn4] at C4
  rw [hn5] at C5
  rw [hn6] at C6
  rw [hn4, hn5, hn6]
  have hall : ∀ v ∈ (#[Value.slice b4 n4 c4, Value.slice b5 n5 c5, Value.slice b6 n6 c6] : Array Value), CellzS lo w6.heap.size (w6.alloc (Obj.cells #[Value.slice b4 n4 c4, Value.slice b5 n5 c5, Value.slice b6 n6 c6] 23)) v := by
    intro v hv
    simp only [List.mem_toArray, List.mem_cons, List.not_mem_nil, or_false] at hv
    have hbA : Below w6.heap.size w6 (w6.alloc (Obj.cells #[Value.slice b4 n4 c4, Value.slice b5 n5 c5, Value.slice b6 n6 c6] 23)) := (Below.refl _ w6).alloc (Nat.le_refl _) _
    rcases hv with rfl | rfl | rfl
    · exact C4.later hbA
    · exact C5.later hbA
    · exact C6.later hbA
  have hnew : (w6.alloc (Obj.cells #[Value.slice b4 n4 c4, Value.slice b5 n5 c5, Value.slice b6 n6 c6] 23)).heap[w6.heap.size]? = some (.cells #[Value.slice b4 n4 c4, Value.slice b5 n5 c5, Value.slice b6 n6 c6] 23 (0, 0)) := heap_alloc_new w6 _
  have hLB2 : Below lo w3 (w6.alloc (Obj.cells #[Value.slice b4 n4 c4, Value.slice b5 n5 c5, Value.slice b6 n6 c6] 23)) := hLB.alloc hs36 _
  have hsz : (#[Value.slice b4 n4 c4, Value.slice b5 n5 c5, Value.slice b6 n6 c6] : Array Value).size = 3 := rfl
  have HAO := Lib.hid AO3
  have HW := Lib.hid (A00.later B3)
  have HLO := Lib.hid hlo
  clear C4 C5 C6 hLB hb36 hn4 hn5 hn6 AO3 A00
  go_wp2
  have hgz : (w6.alloc (Obj.cells #[Value.slice b4 n4 c4, Value.slice b5 n5 c5, Value.slice b6 n6 c6] 23)).heap.size = w6.heap.size + 1 := by simp
  generalize w6.alloc (Obj.cells #[Value.slice b4 n4 c4, Value.slice b5 n5 c5, Value.slice b6 n6 c6] 23) = WX at *
  generalize (#[Value.slice b4 n4 c4, Value.slice b5 n5 c5, Value.slice b6 n6 c6] : Array Value) = V at *
  have hlog : lo ≤ w6.heap.size := hs36
  generalize w6.heap.size = g at *
  clear hgz hs36 hlo
  go_loopw [7, 8] (fun i _ wr => ∃ k : Nat, k ≤ 3 ∧ i = .int .i64 k ∧ wr.heap[g]? = some (.cells V 23 (0, 0)) ∧ (∀ v ∈ V, CellzS lo g wr v) ∧ Below lo w3 wr) (fun i _ _ => 3 - (intOf i).toNat)
  case atStart => exact ⟨0, by omega, rfl, hnew, hall, hLB2⟩
  case round =>
    obtain ⟨k, hk, rfl, hg, hC, hb⟩ := hrel
    by_cases hlt3 : k < 3
    · have hk2 : (k : Int) < 3 := by omega
      obtain ⟨v, hv⟩ : ∃ v, V[k]? = some v := ⟨V[k]'(by omega), Array.getElem?_eq_getElem (by omega)⟩
      have hmem : v ∈ V := Array.mem_of_getElem? hv
      obtain ⟨ad, n, cp, rfl, hn, _⟩ := hC v hmem
      unfold maxLen at hn
      clear hnew hall hLB2
      go_wp2
      go_loopw [8] (fun j wr' => ∃ i : Nat, i ≤ n ∧ j = .int .i64 i ∧ wr'.heap[g]? = some (.cells V 23 (0, 0)) ∧ (∀ v ∈ V, CellzS lo g wr' v) ∧ Below lo w3 wr') (fun j _ => n - (intOf j).toNat)
      case atStart => exact ⟨0, Nat.zero_le _, rfl, hg, hC, hb⟩
      case round =>
        clear hb hg hC
        obtain ⟨i, hi, rfl, hg, hC, hb⟩ := hrel
        obtain ⟨ad', n', cp', hsl, _, hx⟩ := hC _ hmem
        cases hsl
        have hce : wr.cell? ⟨g, k, none⟩ = some (.slice ad n cp) := (cell_of_row wr g k V _ _ hg).trans hv
        by_cases hin : i < n
        · have hin2 : (i : Int) < (n : Int) := by omega
          rcases hx with h0 | ⟨b, cur, rfl, h1, h2, h3, h4⟩
          · exact absurd hin (by omega)
          obtain ⟨z, hz⟩ := h4 i hin
          have hcb : wr.cell? ⟨b, i, none⟩ = some (.int .i64 z) := (cell_of_row wr b i cur _ _ h3).trans hz
          have hfb : wr.frozen? ⟨b, i, none⟩ = false := frozen_of_row wr b i cur _ h3
          have hC2 : ∀ z', ∀ v ∈ V, CellzS lo g (wr.drew.setCell ⟨b, i, none⟩ (.int .i64 z')) v := fun z' v hv' => CellzS.set (w := wr.drew) (hC v hv') b i z'
          have hg2 : ∀ z', (wr.drew.setCell ⟨b, i, none⟩ (.int .i64 z')).heap[g]? = some (.cells V 23 (0, 0)) := fun z' => (Below.heap_setCell _ _ _ _ (by simp; omega)).trans hg
          have hb2 : ∀ z', Below lo w3 (wr.drew.setCell ⟨b, i, none⟩ (.int .i64 z')) := fun z' => hb.drew.setCell (p := ⟨b, i, none⟩) h1 _
          have HC2 := Lib.hid hC2
          have HG2 := Lib.hid hg2
          have HB2 := Lib.hid hb2
          clear h4 hC2 hg2 hb2 hz hC
          go_wp2
          go_still_tail 14, (by kernel_rfl)
          repeat still_step
          have hcb2 : wr.drew.cell? ⟨b, i, none⟩ = some (.int .i64 z) := hcb
          have hfb2 : wr.drew.frozen? ⟨b, i, none⟩ = false := hfb
          go_wp2
          go_roundw
          case rel => exact ⟨i + 1, by omega, by go_num, HG2.out _, HC2.out _, HB2.out _⟩
          case measure => simp [intOf]; omega
        · have hin2 : ¬ (i : Int) < (n : Int) := by omega
          clear hx
          go_wp2
          go_roundw
          case rel => exact ⟨k + 1, by omega, by go_num, hg, hC, hb⟩
          case measure => simp [intOf]; omega
    · obtain rfl : k = 3 := by omega
      have hb3 : Below w3.heap.size w3 wr := by rw [HLO.out]; exact hb
      have hs := sameL_any (HAO.out.later hb3) (HW.out.later hb3) (by rw [HL.out]; omega)
      rw [decide_eq_true rfl] at hs
      have B7 := B3.trans (hb3.mono S3)
      have S7 := B7.size
      clear hC hg hnew hall hLB2
      go_wp2_with fail
      refine hs.mono ?_
      rintro e w8 ⟨rfl, hb8⟩
      have B8 := B7.trans (hb8.mono S7)
      have S8 := B8.size
      go_wp2_with fail
      refine (known6_any _).mono ?_
      rintro e w9 ⟨rfl, hb9⟩
      go_wp2_with fail
      go_ret
      exact ⟨rfl, B8.trans (hb9.mono S8)⟩

namespace shapeSame
open Go.ChangeShapes Go.WideShapes Go.ChangeAt
theorem contract (H : Type) (enc : TypeId × Value → H) (W : World) (base : Nat) (args : Array Value) (ds gs : List (DataW H)) (before : List MemPlace)
    (hval : ∀ (j : Nat) t v, Try.f13.params[j]? = some t → args[j]? = some v → Value.okWide Try.prog W .any base t v)
    (hW : DataW.Whole enc Try.prog Try.f13.params.toList Rows.shapeSameSpec.vars false W args.toList ds gs before) (hsz0 : (DataW.weightsEach Try.prog (Try.f13.params.toList ++ Rows.shapeSameSpec.plain.varTypes Try.prog) (ds ++ gs)).all (· ≤ reachBytes) = true) :
    Calls Try.prog 13 args W fun e W' => ∃ v, e = .returned v ∧ Rows.shapeSameSpec.post enc Try.prog Try.f13 false true false false W args v W' := by
  have hW' := hW
  have hlt := fun p hp => hW'.lt p hp
  have hsz : (DataW.weightsEach Try.prog (Try.f13.params.toList ++ []) (ds ++ gs)).all (· ≤ reachBytes) = true := hsz0
  obtain ⟨p, q, hA0, hV, rfl, hfz, hnd⟩ := hW
  have hA : DataW.TrodAll enc Try.prog W 0 (fun _ => true) true Try.f13.params.toList args.toList ds p := hA0
  rw [Try.params13] at hA hval hsz
  obtain ⟨v0, vs0, d0, ds0, p0, q0, ha0, rfl, rfl, h0, r0⟩ := trodAll_cons hA
  obtain ⟨v1, vs1, d1, ds1, p1, q1, ha1, rfl, rfl, h1, r1⟩ := trodAll_cons r0
  obtain ⟨rfl, rfl, rfl⟩ := trodAll_nil r1
  subst ha1
  obtain rfl : args = #[v0, v1] := by cases args; simp_all
  obtain ⟨rfl, rfl⟩ := trodVars_none hV
  clear hA hA0 hV
  simp only [List.append_nil] at hW' hlt hsz
  (try simp only [List.nil_append] at hW' hlt hsz)
  obtain ⟨a0, xs0, ca0, A0, l0, n0⟩ := open_shape (okWide_slice Try.underlying23 (hval 0 23 v0 rfl rfl)) h0 (reach_shape hsz (j := 0) rfl rfl)
  have e0 := A0.is
  subst e0
  obtain ⟨a1, xs1, ca1, A1, l1, n1⟩ := open_shape (okWide_slice Try.underlying23 (hval 1 23 v1 rfl rfl)) h1 (reach_shape hsz (j := 1) rfl rfl)
  have e1 := A1.is
  subst e1
  refine (shapeSame_walk xs0 a0 ca0 xs1 a1 ca1 W A0 l0 n0 A1 l1 n1).mono fun e W' ⟨he, hb⟩ => ?_
  subst he
  have t0 := Below.trod laid (by kernel_rfl) (of_decide_eq_true (by kernel_rfl)) h0 hb (fun x hx => hlt x (by simp [hx]))
  have t1 := Below.trod laid (by kernel_rfl) (of_decide_eq_true (by kernel_rfl)) h1 hb (fun x hx => hlt x (by simp [hx]))
  exact ⟨_, rfl, [d0, d1], [], (p0 ++ p1), [], (p0 ++ (p1 ++ [])), [], hW', trodAll_cons_mk (shut_bool Try.underlying4 _) trodAll_mk0,
    (trodAll_cons_mk t0 (trodAll_cons_mk t1 trodAll_mk0)), rfl, hb.frame _, fun h => by cases h⟩

set_option maxRecDepth 100000 in
theorem lifted (os : Os) (started : os.Started) (H : Type) (enc : TypeId × Value → H) :
    ReturnsInHanded {} Try.checked os 13 .any (Rows.shapeSameSpec.pre6 enc Try.prog Try.f13 Rows.shapeSameRow.domain false) (Rows.shapeSameSpec.post enc Try.prog Try.f13 false true false false) := by
  refine returnsInHanded_of_change_sized (C := Try.checked) own started (by kernel_rfl) Try.func13
    (ChangeSpec.witness6 (enc := enc) (C := Try.checked) false ⟨#[], #[.slice none 0 0, .slice none 0 0], []⟩ 8 (by kernel_rfl) (by kernel_rfl) (by kernel_rfl) (by kernel_rfl)) ?_
  intro W base args ds gs before hval hW _ hsz0 _
  exact contract H enc W base args ds gs before hval hW hsz0

theorem proved : Rows.ShapeSameSaid :=
  OpenClaim.holds_of_wide 13 Try.f13 rfl rfl rfl rfl rfl rfl rfl ⟨rfl, rfl, rfl, rfl, rfl⟩ rfl rfl rfl rfl rfl (by kernel_rfl) Try.func13 (by kernel_rfl)
    (of_decide_eq_true (by kernel_rfl)) (by unfold Func.isWrapper; first | (rw [if_pos (by decide +kernel)]; kernel_rfl) | (rw [if_neg (by decide +kernel)]; exact ⟨rfl, rfl⟩))
    (fun os started H enc _ => lifted os started H enc)
end shapeSame
end Go.Proofs.Ythlohkehacnolaa
