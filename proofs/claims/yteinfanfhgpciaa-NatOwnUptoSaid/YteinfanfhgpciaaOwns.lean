/-
  NatOwn, for arguments that hold together at most 1048576 values: the law answers true (nothing that is answered leads into what was handed in, nor is that changed), and each argument reads behind the call as it read before. No other condition.
-/
import Derived.Test.YteinfanfhgpciaaRefD
import Derived.Test.YteinfanfhgpciaaCellz
import Derived.Test.YteinfanfhgpciaaOpen2
namespace Go.Proofs.Yteinfanfhgpciaa
open Go.RowKit Go.ChangeShapes Go.WideShapes Go.ChangeAt

set_option maxRecDepth 100000 in
set_option maxHeartbeats 4000000 in
theorem natOwn_walk (u0 : Value) (xs0 : List Int) (ad0 : Option Addr) (cap0 : Nat) (u1 : Value) (xs1 : List Int) (ad1 : Option Addr) (cap1 : Nat) (w : World) (A0 : Arg w u0 xs0 ad0 cap0) (hx0 : xs0.length ≤ 1048576) (hn0 : ad0 = none → cap0 = 0) (A1 : Arg w u1 xs1 ad1 cap1) (hx1 : xs1.length ≤ 1048576) (hn1 : ad1 = none → cap1 = 0) :
    Calls Try.prog 11 #[u0, u1] w fun e w' => e = .returned (.bool true) ∧ Below w.heap.size w w' := by
  have H0 := Lib.hid hn0
  clear hn0
  have H1 := Lib.hid hn1
  clear hn1
  have hW : Below w.heap.size w w := Below.refl _ _
  have hS : w.heap.size ≤ w.heap.size := Nat.le_refl _
  by_cases hlt : val xs0 < val xs1
  · go_enter Try.func11, Try.ntmps11
    go_wp2_with fail
    refine (own_any A0 (by omega) H0.out).mono ?_
    rintro e W2 ⟨r2, rfl, _, ad2, cap2, A2, hn2, hb⟩
    replace A0 := A0.later hb
    replace A1 := A1.later hb
    replace hW := hW.trans (hb.mono hS)
    replace hS := Nat.le_trans hS hb.size
    clear hb
    go_wp2_with fail
    refine (own_any A1 (by omega) H1.out).mono ?_
    rintro e W3 ⟨r3, rfl, _, ad3, cap3, A3, hn3, hb⟩
    replace A0 := A0.later hb
    replace A1 := A1.later hb
    replace A2 := A2.later hb
    replace hW := hW.trans (hb.mono hS)
    replace hS := Nat.le_trans hS hb.size
    clear hb
    obtain ⟨lo, hlo⟩ : ∃ lo, Hid (W3.heap.size = lo) := ⟨_, rfl⟩
    have hLB : Below lo W3 W3 := Below.refl _ _
    have hL : lo ≤ W3.heap.size := by rw [show W3.heap.size = lo from hlo]; exact Nat.le_refl _
    have A2S := A2
    have A3S := A3
    have A0S := A0
    have A1S := A1
    have hWS := hW
    have hSS := hS
    go_wp2_with fail
    refine (sub_err A2 A3 (by omega) (by omega) hlt).mono ?_
    rintro e W4 ⟨rfl, hb⟩
    replace hLB := hLB.trans (hb.mono hL)
    replace hL := Nat.le_trans hL hb.size
    replace A0 := A0.later hb
    replace A1 := A1.later hb
    replace A2 := A2.later hb
    replace A3 := A3.later hb
    replace hW := hW.trans (hb.mono hS)
    replace hS := Nat.le_trans hS hb.size
    clear hb
    have C4 := Cellz.nil lo W4.heap.size W4
    go_wp2_with fail
    refine (trim_res A2 (by omega)).mono ?_
    rintro e W5 ⟨r5, l5, rfl, q5, n5, hb⟩
    have C5 := q5.num.cellz hL
    replace hLB := hLB.trans (hb.mono hL)
    replace hL := Nat.le_trans hL hb.size
    replace C4 := C4.next hb
    replace A0 := A0.later hb
    replace A1 := A1.later hb
    replace A2 := A2.later hb
    replace A3 := A3.later hb
    replace hW := hW.trans (hb.mono hS)
    replace hS := Nat.le_trans hS hb.size
    clear hb
    clear q5 n5
    have D5 := C5
    obtain ⟨z5, m5, c5, e5, _⟩ := D5
    subst e5
    go_wp2_with fail
    refine (add_res A2 A3 (by omega) (by omega)).mono ?_
    rintro e W6 ⟨r6, l6, rfl, q6, n6, hb⟩
    have C6 := q6.num.cellz hL
    replace hLB := hLB.trans (hb.mono hL)
    replace hL := Nat.le_trans hL hb.size
    replace C4 := C4.next hb
    replace C5 := C5.next hb
    replace A0 := A0.later hb
    replace A1 := A1.later hb
    replace A2 := A2.later hb
    replace A3 := A3.later hb
    replace hW := hW.trans (hb.mono hS)
    replace hS := Nat.le_trans hS hb.size
    clear hb
    clear q6 n6
    have D6 := C6
    obtain ⟨z6, m6, c6, e6, _⟩ := D6
    subst e6
    go_wp2_with fail
    refine (mul_res A2 A3 (by omega) (by omega)).mono ?_
    rintro e W7 ⟨r7, l7, rfl, q7, n7, hb⟩
    have C7 := q7.num.cellz hL
    replace hLB := hLB.trans (hb.mono hL)
    replace hL := Nat.le_trans hL hb.size
    replace C4 := C4.next hb
    replace C5 := C5.next hb
    replace C6 := C6.next hb
    replace A0 := A0.later hb
    replace A1 := A1.later hb
    replace A2 := A2.later hb
    replace A3 := A3.later hb
    replace hW := hW.trans (hb.mono hS)
    replace hS := Nat.le_trans hS hb.size
    clear hb
    clear q7 n7
    have D7 := C7
    obtain ⟨z7, m7, c7, e7, _⟩ := D7
    subst e7
    go_wp2_with fail
    refine (shl_any 0 A2 (by omega) (by omega) (by omega)).mono ?_
    rintro e W8 ⟨r8, l8, rfl, q8, n8, hb⟩
    have C8 := q8.num.cellz hL
    replace hLB := hLB.trans (hb.mono hL)
    replace hL := Nat.le_trans hL hb.size
    replace C4 := C4.next hb
    replace C5 := C5.next hb
    replace C6 := C6.next hb
    replace C7 := C7.next hb
    replace A0 := A0.later hb
    replace A1 := A1.later hb
    replace A2 := A2.later hb
    replace A3 := A3.later hb
    replace hW := hW.trans (hb.mono hS)
    replace hS := Nat.le_trans hS hb.size
    clear hb
    clear q8 n8
    have D8 := C8
    obtain ⟨z8, m8, c8, e8, _⟩ := D8
    subst e8
    go_wp2_with fail
    refine (shr_any 0 A2 (by omega) (by omega) (by omega)).mono ?_
    rintro e W9 ⟨r9, l9, rfl, q9, n9, hb⟩
    have C9 := q9.num.cellz hL
    replace hLB := hLB.trans (hb.mono hL)
    replace hL := Nat.le_trans hL hb.size
    replace C4 := C4.next hb
    replace C5 := C5.next hb
    replace C6 := C6.next hb
    replace C7 := C7.next hb
    replace C8 := C8.next hb
    replace A0 := A0.later hb
    replace A1 := A1.later hb
    replace A2 := A2.later hb
    replace A3 := A3.later hb
    replace hW := hW.trans (hb.mono hS)
    replace hS := Nat.le_trans hS hb.size
    clear hb
    clear q9 n9
    have D9 := C9
    obtain ⟨z9, m9, c9, e9, _⟩ := D9
    subst e9
    have hall : ∀ v ∈ [Value.slice z5 m5 c5, Value.slice z6 m6 c6, Value.slice z7 m7 c7, Value.slice z8 m8 c8, Value.slice z9 m9 c9, Value.slice none 0 0], Cellz lo W9.heap.size W9 v := by
      intro v hv
      simp only [List.mem_cons, List.not_mem_nil, or_false] at hv
      rcases hv with rfl | rfl | rfl | rfl | rfl | rfl
      · exact C5
      · exact C6
      · exact C7
      · exact C8
      · exact C9
      · exact C4
    have hnew : (W9.alloc (Obj.cells #[Value.slice z5 m5 c5, Value.slice z6 m6 c6, Value.slice z7 m7 c7, Value.slice z8 m8 c8, Value.slice z9 m9 c9, Value.slice none 0 0] 24)).heap[W9.heap.size]? = some (.cells #[Value.slice z5 m5 c5, Value.slice z6 m6 c6, Value.slice z7 m7 c7, Value.slice z8 m8 c8, Value.slice z9 m9 c9, Value.slice none 0 0] 24 (0, 0)) := heap_alloc_new W9 _
    have hbA : Below W9.heap.size W9 (W9.alloc (Obj.cells #[Value.slice z5 m5 c5, Value.slice z6 m6 c6, Value.slice z7 m7 c7, Value.slice z8 m8 c8, Value.slice z9 m9 c9, Value.slice none 0 0] 24)) := (Below.refl _ W9).alloc (Nat.le_refl _) _
    have hall2 : ∀ v ∈ (#[Value.slice z5 m5 c5, Value.slice z6 m6 c6, Value.slice z7 m7 c7, Value.slice z8 m8 c8, Value.slice z9 m9 c9, Value.slice none 0 0] : Array Value), Cellz lo W9.heap.size (W9.alloc (Obj.cells #[Value.slice z5 m5 c5, Value.slice z6 m6 c6, Value.slice z7 m7 c7, Value.slice z8 m8 c8, Value.slice z9 m9 c9, Value.slice none 0 0] 24)) v := fun v hv => (hall v (by simpa using hv)).later hbA
    have hLB2 : Below lo W3 (W9.alloc (Obj.cells #[Value.slice z5 m5 c5, Value.slice z6 m6 c6, Value.slice z7 m7 c7, Value.slice z8 m8 c8, Value.slice z9 m9 c9, Value.slice none 0 0] 24)) := hLB.trans (hbA.mono hL)
    have hsz : (#[Value.slice z5 m5 c5, Value.slice z6 m6 c6, Value.slice z7 m7 c7, Value.slice z8 m8 c8, Value.slice z9 m9 c9, Value.slice none 0 0] : Array Value).size = 6 := rfl
    clear C4 C5 C6 C7 C8 C9 hall hLB A0 A1 A2 A3 hW hS hbA
    go_wp2
    generalize W9.alloc (Obj.cells #[Value.slice z5 m5 c5, Value.slice z6 m6 c6, Value.slice z7 m7 c7, Value.slice z8 m8 c8, Value.slice z9 m9 c9, Value.slice none 0 0] 24) = WX at *
    generalize (#[Value.slice z5 m5 c5, Value.slice z6 m6 c6, Value.slice z7 m7 c7, Value.slice z8 m8 c8, Value.slice z9 m9 c9, Value.slice none 0 0] : Array Value) = L at *
    generalize W9.heap.size = g at *
    go_loopw [10, 11] (fun i _ wr => ∃ k : Nat, k ≤ 6 ∧ i = .int .i64 k ∧ wr.heap[g]? = some (.cells L 24 (0, 0)) ∧ (∀ v ∈ L, Cellz lo g wr v) ∧ Below lo W3 wr) (fun i _ _ => 6 - (intOf i).toNat)
    case atStart => exact ⟨0, by omega, rfl, hnew, hall2, hLB2⟩
    case round =>
      obtain ⟨k, hk, rfl, hg, hC, hb⟩ := hrel
      by_cases hlt6 : k < 6
      · have hk2 : (k : Int) < 6 := by omega
        obtain ⟨v, hv⟩ : ∃ v, L[k]? = some v := ⟨L[k]'(by omega), Array.getElem?_eq_getElem (by omega)⟩
        have hmem : v ∈ L := Array.mem_of_getElem? hv
        obtain ⟨ad, n, cp, rfl, hn, _⟩ := hC v hmem
        unfold maxLen at hn
        clear hnew hall2 hLB2
        go_wp2
        go_loopw [11] (fun j wr' => ∃ i : Nat, i ≤ n ∧ j = .int .i64 i ∧ wr'.heap[g]? = some (.cells L 24 (0, 0)) ∧ (∀ v ∈ L, Cellz lo g wr' v) ∧ Below lo W3 wr') (fun j _ => n - (intOf j).toNat)
        case atStart => exact ⟨0, Nat.zero_le _, rfl, hg, hC, hb⟩
        case round =>
          clear hb hg hC
          obtain ⟨i, hi, rfl, hg, hC, hb⟩ := hrel
          obtain ⟨ad', n', cp', hsl, _, hx⟩ := hC _ hmem
          cases hsl
          have hce : wr.cell? ⟨g, k, none⟩ = some (.slice ad n cp) := (cell_of_row wr g k L _ _ hg).trans hv
          by_cases hin : i < n
          · have hin2 : (i : Int) < (n : Int) := by omega
            rcases hx with h0 | ⟨b, cur, rfl, h1, h2, h3, h4⟩
            · exact absurd hin (by omega)
            obtain ⟨z, hz⟩ := h4 i hin
            have hcb : wr.cell? ⟨b, i, none⟩ = some (.int .u32 z) := (cell_of_row wr b i cur _ _ h3).trans hz
            have hfb : wr.frozen? ⟨b, i, none⟩ = false := frozen_of_row wr b i cur _ h3
            have hC2 : ∀ z', ∀ v ∈ L, Cellz lo g (wr.drew.setCell ⟨b, i, none⟩ (.int .u32 z')) v := fun z' v hv' => Cellz.set (w := wr.drew) (hC v hv') b i z'
            have hg2 : ∀ z', (wr.drew.setCell ⟨b, i, none⟩ (.int .u32 z')).heap[g]? = some (.cells L 24 (0, 0)) := fun z' => (Below.heap_setCell _ _ _ _ (by simp; omega)).trans hg
            have hb2 : ∀ z', Below lo W3 (wr.drew.setCell ⟨b, i, none⟩ (.int .u32 z')) := fun z' => hb.drew.setCell (p := ⟨b, i, none⟩) h1 _
            have HC2 := Lib.hid hC2
            have HG2 := Lib.hid hg2
            have HB2 := Lib.hid hb2
            clear h4 hC2 hg2 hb2 hz hC
            go_wp2
            go_still_tail 14, (by kernel_rfl)
            repeat still_step
            have hcb2 : wr.drew.cell? ⟨b, i, none⟩ = some (.int .u32 z) := hcb
            have hfb2 : wr.drew.frozen? ⟨b, i, none⟩ = false := hfb
            go_wp2
            go_roundw
            case rel => exact ⟨i + 1, by omega, by go_num, HG2.out _, HC2.out _, HB2.out _⟩
            case measure => simp [intOf]; omega
          · have hin2 : ¬ (i : Int) < (n : Int) := by omega
            clear hx
            go_wp2
            go_roundw
            case rel => exact ⟨k + 1, by omega, by go_num, hg, hC, hb⟩
            case measure => simp [intOf]; omega
      · obtain rfl : k = 6 := by omega
        have hb3 : Below W3.heap.size W3 wr := by rw [show W3.heap.size = lo from hlo]; exact hb
        have A2 := A2S.later hb3
        have A0 := A0S.later hb3
        have A3 := A3S.later hb3
        have A1 := A1S.later hb3
        have hW := hWS.trans (hb3.mono hSS)
        have hS := Nat.le_trans hSS hb3.size
        clear hC hg hnew hall2 hLB2
        go_wp2_with fail
        refine (same_res A2 A0 (by omega) rfl).mono ?_
        rintro e w' ⟨rfl, rfl⟩
        go_wp2_with fail
        refine (same_res A3 A1 (by omega) rfl).mono ?_
        rintro e w' ⟨rfl, rfl⟩
        go_wp2_with fail
        refine (known_any _).mono ?_
        rintro e WK ⟨rfl, hbk⟩
        go_wp2_with fail
        go_ret
        exact ⟨rfl, hW.trans (hbk.mono hS)⟩
  · go_enter Try.func11, Try.ntmps11
    go_wp2_with fail
    refine (own_any A0 (by omega) H0.out).mono ?_
    rintro e W2 ⟨r2, rfl, _, ad2, cap2, A2, hn2, hb⟩
    replace A0 := A0.later hb
    replace A1 := A1.later hb
    replace hW := hW.trans (hb.mono hS)
    replace hS := Nat.le_trans hS hb.size
    clear hb
    go_wp2_with fail
    refine (own_any A1 (by omega) H1.out).mono ?_
    rintro e W3 ⟨r3, rfl, _, ad3, cap3, A3, hn3, hb⟩
    replace A0 := A0.later hb
    replace A1 := A1.later hb
    replace A2 := A2.later hb
    replace hW := hW.trans (hb.mono hS)
    replace hS := Nat.le_trans hS hb.size
    clear hb
    obtain ⟨lo, hlo⟩ : ∃ lo, Hid (W3.heap.size = lo) := ⟨_, rfl⟩
    have hLB : Below lo W3 W3 := Below.refl _ _
    have hL : lo ≤ W3.heap.size := by rw [show W3.heap.size = lo from hlo]; exact Nat.le_refl _
    have A2S := A2
    have A3S := A3
    have A0S := A0
    have A1S := A1
    have hWS := hW
    have hSS := hS
    go_wp2_with fail
    refine (sub_res A2 A3 (by omega) (by omega) (by omega)).mono ?_
    rintro e W4 ⟨r4, l4, rfl, q4, n4, hb⟩
    have C4 := q4.num.cellz hL
    replace hLB := hLB.trans (hb.mono hL)
    replace hL := Nat.le_trans hL hb.size
    replace A0 := A0.later hb
    replace A1 := A1.later hb
    replace A2 := A2.later hb
    replace A3 := A3.later hb
    replace hW := hW.trans (hb.mono hS)
    replace hS := Nat.le_trans hS hb.size
    clear hb
    clear q4 n4
    have D4 := C4
    obtain ⟨z4, m4, c4, e4, _⟩ := D4
    subst e4
    go_wp2_with fail
    refine (trim_res A2 (by omega)).mono ?_
    rintro e W5 ⟨r5, l5, rfl, q5, n5, hb⟩
    have C5 := q5.num.cellz hL
    replace hLB := hLB.trans (hb.mono hL)
    replace hL := Nat.le_trans hL hb.size
    replace C4 := C4.next hb
    replace A0 := A0.later hb
    replace A1 := A1.later hb
    replace A2 := A2.later hb
    replace A3 := A3.later hb
    replace hW := hW.trans (hb.mono hS)
    replace hS := Nat.le_trans hS hb.size
    clear hb
    clear q5 n5
    have D5 := C5
    obtain ⟨z5, m5, c5, e5, _⟩ := D5
    subst e5
    go_wp2_with fail
    refine (add_res A2 A3 (by omega) (by omega)).mono ?_
    rintro e W6 ⟨r6, l6, rfl, q6, n6, hb⟩
    have C6 := q6.num.cellz hL
    replace hLB := hLB.trans (hb.mono hL)
    replace hL := Nat.le_trans hL hb.size
    replace C4 := C4.next hb
    replace C5 := C5.next hb
    replace A0 := A0.later hb
    replace A1 := A1.later hb
    replace A2 := A2.later hb
    replace A3 := A3.later hb
    replace hW := hW.trans (hb.mono hS)
    replace hS := Nat.le_trans hS hb.size
    clear hb
    clear q6 n6
    have D6 := C6
    obtain ⟨z6, m6, c6, e6, _⟩ := D6
    subst e6
    go_wp2_with fail
    refine (mul_res A2 A3 (by omega) (by omega)).mono ?_
    rintro e W7 ⟨r7, l7, rfl, q7, n7, hb⟩
    have C7 := q7.num.cellz hL
    replace hLB := hLB.trans (hb.mono hL)
    replace hL := Nat.le_trans hL hb.size
    replace C4 := C4.next hb
    replace C5 := C5.next hb
    replace C6 := C6.next hb
    replace A0 := A0.later hb
    replace A1 := A1.later hb
    replace A2 := A2.later hb
    replace A3 := A3.later hb
    replace hW := hW.trans (hb.mono hS)
    replace hS := Nat.le_trans hS hb.size
    clear hb
    clear q7 n7
    have D7 := C7
    obtain ⟨z7, m7, c7, e7, _⟩ := D7
    subst e7
    go_wp2_with fail
    refine (shl_any 0 A2 (by omega) (by omega) (by omega)).mono ?_
    rintro e W8 ⟨r8, l8, rfl, q8, n8, hb⟩
    have C8 := q8.num.cellz hL
    replace hLB := hLB.trans (hb.mono hL)
    replace hL := Nat.le_trans hL hb.size
    replace C4 := C4.next hb
    replace C5 := C5.next hb
    replace C6 := C6.next hb
    replace C7 := C7.next hb
    replace A0 := A0.later hb
    replace A1 := A1.later hb
    replace A2 := A2.later hb
    replace A3 := A3.later hb
    replace hW := hW.trans (hb.mono hS)
    replace hS := Nat.le_trans hS hb.size
    clear hb
    clear q8 n8
    have D8 := C8
    obtain ⟨z8, m8, c8, e8, _⟩ := D8
    subst e8
    go_wp2_with fail
    refine (shr_any 0 A2 (by omega) (by omega) (by omega)).mono ?_
    rintro e W9 ⟨r9, l9, rfl, q9, n9, hb⟩
    have C9 := q9.num.cellz hL
    replace hLB := hLB.trans (hb.mono hL)
    replace hL := Nat.le_trans hL hb.size
    replace C4 := C4.next hb
    replace C5 := C5.next hb
    replace C6 := C6.next hb
    replace C7 := C7.next hb
    replace C8 := C8.next hb
    replace A0 := A0.later hb
    replace A1 := A1.later hb
    replace A2 := A2.later hb
    replace A3 := A3.later hb
    replace hW := hW.trans (hb.mono hS)
    replace hS := Nat.le_trans hS hb.size
    clear hb
    clear q9 n9
    have D9 := C9
    obtain ⟨z9, m9, c9, e9, _⟩ := D9
    subst e9
    have hall : ∀ v ∈ [Value.slice z5 m5 c5, Value.slice z6 m6 c6, Value.slice z7 m7 c7, Value.slice z8 m8 c8, Value.slice z9 m9 c9, Value.slice z4 m4 c4], Cellz lo W9.heap.size W9 v := by
      intro v hv
      simp only [List.mem_cons, List.not_mem_nil, or_false] at hv
      rcases hv with rfl | rfl | rfl | rfl | rfl | rfl
      · exact C5
      · exact C6
      · exact C7
      · exact C8
      · exact C9
      · exact C4
    have hnew : (W9.alloc (Obj.cells #[Value.slice z5 m5 c5, Value.slice z6 m6 c6, Value.slice z7 m7 c7, Value.slice z8 m8 c8, Value.slice z9 m9 c9, Value.slice z4 m4 c4] 24)).heap[W9.heap.size]? = some (.cells #[Value.slice z5 m5 c5, Value.slice z6 m6 c6, Value.slice z7 m7 c7, Value.slice z8 m8 c8, Value.slice z9 m9 c9, Value.slice z4 m4 c4] 24 (0, 0)) := heap_alloc_new W9 _
    have hbA : Below W9.heap.size W9 (W9.alloc (Obj.cells #[Value.slice z5 m5 c5, Value.slice z6 m6 c6, Value.slice z7 m7 c7, Value.slice z8 m8 c8, Value.slice z9 m9 c9, Value.slice z4 m4 c4] 24)) := (Below.refl _ W9).alloc (Nat.le_refl _) _
    have hall2 : ∀ v ∈ (#[Value.slice z5 m5 c5, Value.slice z6 m6 c6, Value.slice z7 m7 c7, Value.slice z8 m8 c8, Value.slice z9 m9 c9, Value.slice z4 m4 c4] : Array Value), Cellz lo W9.heap.size (W9.alloc (Obj.cells #[Value.slice z5 m5 c5, Value.slice z6 m6 c6, Value.slice z7 m7 c7, Value.slice z8 m8 c8, Value.slice z9 m9 c9, Value.slice z4 m4 c4] 24)) v := fun v hv => (hall v (by simpa using hv)).later hbA
    have hLB2 : Below lo W3 (W9.alloc (Obj.cells #[Value.slice z5 m5 c5, Value.slice z6 m6 c6, Value.slice z7 m7 c7, Value.slice z8 m8 c8, Value.slice z9 m9 c9, Value.slice z4 m4 c4] 24)) := hLB.trans (hbA.mono hL)
    have hsz : (#[Value.slice z5 m5 c5, Value.slice z6 m6 c6, Value.slice z7 m7 c7, Value.slice z8 m8 c8, Value.slice z9 m9 c9, Value.slice z4 m4 c4] : Array Value).size = 6 := rfl
    clear C4 C5 C6 C7 C8 C9 hall hLB A0 A1 A2 A3 hW hS hbA
    go_wp2
    generalize W9.alloc (Obj.cells #[Value.slice z5 m5 c5, Value.slice z6 m6 c6, Value.slice z7 m7 c7, Value.slice z8 m8 c8, Value.slice z9 m9 c9, Value.slice z4 m4 c4] 24) = WX at *
    generalize (#[Value.slice z5 m5 c5, Value.slice z6 m6 c6, Value.slice z7 m7 c7, Value.slice z8 m8 c8, Value.slice z9 m9 c9, Value.slice z4 m4 c4] : Array Value) = L at *
    generalize W9.heap.size = g at *
    go_loopw [10, 11] (fun i _ wr => ∃ k : Nat, k ≤ 6 ∧ i = .int .i64 k ∧ wr.heap[g]? = some (.cells L 24 (0, 0)) ∧ (∀ v ∈ L, Cellz lo g wr v) ∧ Below lo W3 wr) (fun i _ _ => 6 - (intOf i).toNat)
    case atStart => exact ⟨0, by omega, rfl, hnew, hall2, hLB2⟩
    case round =>
      obtain ⟨k, hk, rfl, hg, hC, hb⟩ := hrel
      by_cases hlt6 : k < 6
      · have hk2 : (k : Int) < 6 := by omega
        obtain ⟨v, hv⟩ : ∃ v, L[k]? = some v := ⟨L[k]'(by omega), Array.getElem?_eq_getElem (by omega)⟩
        have hmem : v ∈ L := Array.mem_of_getElem? hv
        obtain ⟨ad, n, cp, rfl, hn, _⟩ := hC v hmem
        unfold maxLen at hn
        clear hnew hall2 hLB2
        go_wp2
        go_loopw [11] (fun j wr' => ∃ i : Nat, i ≤ n ∧ j = .int .i64 i ∧ wr'.heap[g]? = some (.cells L 24 (0, 0)) ∧ (∀ v ∈ L, Cellz lo g wr' v) ∧ Below lo W3 wr') (fun j _ => n - (intOf j).toNat)
        case atStart => exact ⟨0, Nat.zero_le _, rfl, hg, hC, hb⟩
        case round =>
          clear hb hg hC
          obtain ⟨i, hi, rfl, hg, hC, hb⟩ := hrel
          obtain ⟨ad', n', cp', hsl, _, hx⟩ := hC _ hmem
          cases hsl
          have hce : wr.cell? ⟨g, k, none⟩ = some (.slice ad n cp) := (cell_of_row wr g k L _ _ hg).trans hv
          by_cases hin : i < n
          · have hin2 : (i : Int) < (n : Int) := by omega
            rcases hx with h0 | ⟨b, cur, rfl, h1, h2, h3, h4⟩
            · exact absurd hin (by omega)
            obtain ⟨z, hz⟩ := h4 i hin
            have hcb : wr.cell? ⟨b, i, none⟩ = some (.int .u32 z) := (cell_of_row wr b i cur _ _ h3).trans hz
            have hfb : wr.frozen? ⟨b, i, none⟩ = false := frozen_of_row wr b i cur _ h3
            have hC2 : ∀ z', ∀ v ∈ L, Cellz lo g (wr.drew.setCell ⟨b, i, none⟩ (.int .u32 z')) v := fun z' v hv' => Cellz.set (w := wr.drew) (hC v hv') b i z'
            have hg2 : ∀ z', (wr.drew.setCell ⟨b, i, none⟩ (.int .u32 z')).heap[g]? = some (.cells L 24 (0, 0)) := fun z' => (Below.heap_setCell _ _ _ _ (by simp; omega)).trans hg
            have hb2 : ∀ z', Below lo W3 (wr.drew.setCell ⟨b, i, none⟩ (.int .u32 z')) := fun z' => hb.drew.setCell (p := ⟨b, i, none⟩) h1 _
            have HC2 := Lib.hid hC2
            have HG2 := Lib.hid hg2
            have HB2 := Lib.hid hb2
            clear h4 hC2 hg2 hb2 hz hC
            go_wp2
            go_still_tail 14, (by kernel_rfl)
            repeat still_step
            have hcb2 : wr.drew.cell? ⟨b, i, none⟩ = some (.int .u32 z) := hcb
            have hfb2 : wr.drew.frozen? ⟨b, i, none⟩ = false := hfb
            go_wp2
            go_roundw
            case rel => exact ⟨i + 1, by omega, by go_num, HG2.out _, HC2.out _, HB2.out _⟩
            case measure => simp [intOf]; omega
          · have hin2 : ¬ (i : Int) < (n : Int) := by omega
            clear hx
            go_wp2
            go_roundw
            case rel => exact ⟨k + 1, by omega, by go_num, hg, hC, hb⟩
            case measure => simp [intOf]; omega
      · obtain rfl : k = 6 := by omega
        have hb3 : Below W3.heap.size W3 wr := by rw [show W3.heap.size = lo from hlo]; exact hb
        have A2 := A2S.later hb3
        have A0 := A0S.later hb3
        have A3 := A3S.later hb3
        have A1 := A1S.later hb3
        have hW := hWS.trans (hb3.mono hSS)
        have hS := Nat.le_trans hSS hb3.size
        clear hC hg hnew hall2 hLB2
        go_wp2_with fail
        refine (same_res A2 A0 (by omega) rfl).mono ?_
        rintro e w' ⟨rfl, rfl⟩
        go_wp2_with fail
        refine (same_res A3 A1 (by omega) rfl).mono ?_
        rintro e w' ⟨rfl, rfl⟩
        go_wp2_with fail
        refine (known_any _).mono ?_
        rintro e WK ⟨rfl, hbk⟩
        go_wp2_with fail
        go_ret
        exact ⟨rfl, hW.trans (hbk.mono hS)⟩

namespace natOwn
theorem contract (H : Type) (enc : TypeId × Value → H) (W : World) (base : Nat) (args : Array Value) (ds gs : List (DataW H)) (before : List MemPlace)
    (hval : ∀ (j : Nat) t v, Try.f11.params[j]? = some t → args[j]? = some v → Value.okWide Try.prog W .any base t v)
    (hW : DataW.Whole enc Try.prog Try.f11.params.toList Rows.natOwnSpec.vars false W args.toList ds gs before) (hk : Rows.uptoSmall H (ds ++ gs) = true) :
    Calls Try.prog 11 args W fun e W' => ∃ v, e = .returned v ∧ Rows.natOwnSpec.post enc Try.prog Try.f11 false true false false W args v W' := by
  have hW' := hW
  have hlt := fun p hp => hW'.lt p hp
  obtain ⟨p, q, hA0, hV, rfl, hfz, hnd⟩ := hW
  have hA : DataW.TrodAll enc Try.prog W 0 (fun _ => true) true Try.f11.params.toList args.toList ds p := hA0
  rw [Try.params11] at hA hval
  obtain ⟨v0, vs0, d0, ds0, p0, q0, ha0, rfl, rfl, h0, r0⟩ := trodAll_cons hA
  obtain ⟨v1, vs1, d1, ds1, p1, q1, ha1, rfl, rfl, h1, r1⟩ := trodAll_cons r0
  obtain ⟨rfl, rfl, rfl⟩ := trodAll_nil r1
  subst ha1
  obtain rfl : args = #[v0, v1] := by cases args; simp_all
  obtain ⟨rfl, rfl⟩ := trodVars_none hV
  clear hA hA0 hV
  simp only [List.append_nil] at hW' hk hlt
  obtain ⟨k0, k1⟩ := small2 hk
  obtain ⟨ad0, xs0, cap0, A0, l0, n0⟩ := open_nat2 (okWide_slice Try.underlying24 (hval 0 24 v0 rfl rfl)) h0 k0
  obtain ⟨ad1, xs1, cap1, A1, l1, n1⟩ := open_nat2 (okWide_slice Try.underlying24 (hval 1 24 v1 rfl rfl)) h1 k1
  refine (natOwn_walk v0 xs0 ad0 cap0 v1 xs1 ad1 cap1 W A0 l0 n0 A1 l1 n1).mono fun e W' ⟨he, hb⟩ => ?_
  subst he
  have t0 := Below.trod laid (by kernel_rfl) (of_decide_eq_true (by kernel_rfl)) h0 hb (fun x hx => hlt x (by simp [hx]))
  have t1 := Below.trod laid (by kernel_rfl) (of_decide_eq_true (by kernel_rfl)) h1 hb (fun x hx => hlt x (by simp [hx]))
  exact ⟨_, rfl, [d0, d1], [], p0 ++ p1, [], (p0 ++ (p1 ++ [])), [], hW', trodAll_cons_mk (shut_bool Try.underlying4 _) trodAll_mk0,
    (trodAll_cons_mk t0 (trodAll_cons_mk t1 trodAll_mk0)), rfl, hb.frame _, fun h => by cases h⟩

set_option maxRecDepth 100000 in
theorem lifted (os : Os) (started : os.Started) (H : Type) (enc : TypeId × Value → H) (F : Stop.Interp) :
    ReturnsInHanded {} Try.checked os 11 .any ((Rows.OpenSpec.upto Rows.natOwnSpec).pre6 enc Try.prog Try.f11 Rows.natOwnUptoRow.domain false) (((Rows.OpenSpec.upto Rows.natOwnSpec).at F).post enc Try.prog Try.f11 false true false false) := by
  refine returnsInHanded_of_cond (C := Try.checked) (s := Rows.OpenSpec.upto Rows.natOwnSpec) (k := Rows.uptoSmall) rfl own started (by kernel_rfl) Try.func11
    (OpenSpec.witness (enc := enc) (C := Try.checked) (s := Rows.OpenSpec.upto Rows.natOwnSpec) (k := Rows.uptoSmall) rfl false ⟨#[], #[.slice none 0 0, .slice none 0 0], []⟩ 8 (by kernel_rfl) (by kernel_rfl) (by kernel_rfl)
      (x := ([.nil, .nil], [], [])) (by kernel_rfl) rfl (by kernel_rfl)) ?_
  intro W base args ds gs before hval hW _ hk _
  exact contract H enc W base args ds gs before hval hW hk

theorem proved : Rows.NatOwnUptoSaid :=
  OpenClaim.holds_of_cond 11 Try.f11 rfl rfl rfl rfl rfl rfl rfl ⟨rfl, rfl, rfl, rfl, rfl⟩ rfl rfl rfl rfl rfl (by kernel_rfl) Try.func11 (by kernel_rfl)
    (of_decide_eq_true (by kernel_rfl)) (by unfold Func.isWrapper; first | (rw [if_pos (by decide +kernel)]; kernel_rfl) | (rw [if_neg (by decide +kernel)]; exact ⟨rfl, rfl⟩))
    (fun os started H enc _ F => lifted os started H enc F)
end natOwn
end Go.Proofs.Yteinfanfhgpciaa
