/-
  QuoOwn: the law answers true (neither a quotient, nor a rest, a divisor, a power, leads into what was handed in, and that stays as it is), and each argument reads behind the call as it read before, whatever the arguments are. No condition.
-/
import Derived.Test.YtdcdaielfkikhaaQOwn0
namespace Go.Proofs.Ytdcdaielfkikhaa
open Go.RowKit Go.ChangeShapes Go.WideShapes Go.ChangeAt
set_option linter.unusedVariables false
set_option linter.unusedSimpArgs false

set_option maxRecDepth 100000 in
set_option maxHeartbeats 8000000 in
theorem quoOwn_walk (u0 : Value) (xs0 : List Int) (ad0 : Option Addr) (cap0 : Nat) (u1 : Value) (xs1 : List Int) (ad1 : Option Addr) (cap1 : Nat) (w : World) (A0 : Arg w u0 xs0 ad0 cap0) (hn0 : ad0 = none → cap0 = 0) (A1 : Arg w u1 xs1 ad1 cap1) (hn1 : ad1 = none → cap1 = 0) :
    Calls Try.prog 13 #[u0, u1] w fun e w' => e = .returned (.bool true) ∧ Below w.heap.size w w' := by
  have hW : Below w.heap.size w w := Below.refl _ _
  have hS : w.heap.size ≤ w.heap.size := Nat.le_refl _
  have h17 : ((17 : Int) == 17) = true := by decide
  have h00 : ((0 : Int) == 0) = true := by decide
  have hne : ((17 : Int) != 0) = true := by decide
  have hnn : ((0 : Int) != 0) = false := by decide
  have H0 := Lib.hid hn0
  have e0 := A0.is
  subst e0
  clear hn0
  have H1 := Lib.hid hn1
  have e1 := A1.is
  subst e1
  clear hn1
  by_cases g0 : xs0.length ≤ 20
  case neg =>
    have d0 : decide ((20 : Int) < (xs0.length : Int)) = true := decide_eq_true (by omega)
    go_enter Try.func13, Try.ntmps13
    go_wp2_with fail
    refine (known2_any _).mono ?_
    rintro e V1 ⟨rfl, hb⟩
    replace A0 := A0.later hb
    replace A1 := A1.later hb
    replace hW := hW.trans (hb.mono hS)
    replace hS := Nat.le_trans hS hb.size
    clear hb
    go_wp2_with fail
    go_ret
    exact ⟨rfl, hW⟩
  by_cases g1 : xs1.length ≤ 20
  case neg =>
    have d0 : decide ((20 : Int) < (xs0.length : Int)) = false := decide_eq_false (by omega)
    have d1 : decide ((20 : Int) < (xs1.length : Int)) = true := decide_eq_true (by omega)
    go_enter Try.func13, Try.ntmps13
    go_wp2_with fail
    refine (known2_any _).mono ?_
    rintro e V1 ⟨rfl, hb⟩
    replace A0 := A0.later hb
    replace A1 := A1.later hb
    replace hW := hW.trans (hb.mono hS)
    replace hS := Nat.le_trans hS hb.size
    clear hb
    go_wp2_with fail
    go_ret
    exact ⟨rfl, hW⟩
  have d0 : decide ((20 : Int) < (xs0.length : Int)) = false := decide_eq_false (by omega)
  have d1 : decide ((20 : Int) < (xs1.length : Int)) = false := decide_eq_false (by omega)
  have hv := val_nonneg A1.wf
  by_cases h0 : val xs1 = 0
  case pos =>
    go_enter Try.func13, Try.ntmps13
    go_wp2_with (first | (at_builtin; refine step_copy rfl _ rfl rfl A0 H0.out (by omega) ?_; intro r2 W2 N2 hb2; have A1L := A1.later hb2) | (at_builtin; refine step_copy rfl _ rfl rfl A1L H1.out (by omega) ?_; intro r3 W3 N3 hb3))
    obtain ⟨ad2, cap2, e2, l2, c2, _, _⟩ := N2.read
    subst e2
    have A2' : Arg W2 (.slice ad2 xs0.length cap2) xs0 ad2 cap2 := ⟨rfl, l2, c2, A0.wf⟩
    have A2 := A2'.later hb3
    obtain ⟨ad3, cap3, e3, l3, c3, _, _⟩ := N3.read
    subst e3
    have A3 : Arg W3 (.slice ad3 xs1.length cap3) xs1 ad3 cap3 := ⟨rfl, l3, c3, A1.wf⟩
    replace A0 := (A0.later hb2).later hb3
    replace A1 := A1L.later hb3
    have hs2 := hb2.size
    replace hW := hb2.trans (hb3.mono hs2)
    replace hS := Nat.le_trans hs2 hb3.size
    clear A2' A1L N2 N3 l2 l3 c2 c3 hb2 hb3 hs2
    obtain ⟨lo, hlo⟩ : ∃ lo, Hid (W3.heap.size = lo) := ⟨_, rfl⟩
    have hLB : Below lo W3 W3 := Below.refl _ _
    have hL : lo ≤ W3.heap.size := by rw [show W3.heap.size = lo from hlo]; exact Nat.le_refl _
    have A2S := A2
    have A3S := A3
    have A0S := A0
    have A1S := A1
    have hWS := hW
    have hSS := hS
    go_wp2_with fail
    refine (div_zero A2 A3 (by omega) h0).mono ?_
    rintro e V1 ⟨rfl, hb⟩
    replace hLB := hLB.trans (hb.mono hL)
    replace hL := Nat.le_trans hL hb.size
    replace A0 := A0.later hb
    replace A1 := A1.later hb
    replace A2 := A2.later hb
    replace A3 := A3.later hb
    replace hW := hW.trans (hb.mono hS)
    replace hS := Nat.le_trans hS hb.size
    clear hb
    have C4 := Cellz.nil lo V1.heap.size V1
    go_wp2_with fail
    refine (gcd_any A2 A3 (by omega) (by omega)).mono ?_
    rintro e V2 ⟨r6, l6, rfl, q6, n6, hb⟩
    have C6 := q6.num.cellz hL
    replace hLB := hLB.trans (hb.mono hL)
    replace hL := Nat.le_trans hL hb.size
    replace C4 := C4.next hb
    replace A0 := A0.later hb
    replace A1 := A1.later hb
    replace A2 := A2.later hb
    replace A3 := A3.later hb
    replace hW := hW.trans (hb.mono hS)
    replace hS := Nat.le_trans hS hb.size
    clear hb
    clear q6 n6
    have D6 := C6
    obtain ⟨z6, m6, c6, e6, _⟩ := D6
    subst e6
    go_wp2_with fail
    refine (pow_any 1 A2 (by omega) (by omega)).mono ?_
    rintro e V3 ⟨r7, l7, rfl, q7, n7, hb⟩
    have C7 := q7.num.cellz hL
    replace hLB := hLB.trans (hb.mono hL)
    replace hL := Nat.le_trans hL hb.size
    replace C4 := C4.next hb
    replace C6 := C6.next hb
    replace A0 := A0.later hb
    replace A1 := A1.later hb
    replace A2 := A2.later hb
    replace A3 := A3.later hb
    replace hW := hW.trans (hb.mono hS)
    replace hS := Nat.le_trans hS hb.size
    clear hb
    clear q7 n7
    have D7 := C7
    obtain ⟨z7, m7, c7, e7, _⟩ := D7
    subst e7
    go_wp2_with fail
    refine (short1_any 1 A2 (by omega) (by omega)).mono ?_
    rintro e V4 ⟨r8, rfl, l8, q8, n8, hb⟩
    have C8 := q8.num.cellz hL
    replace hLB := hLB.trans (hb.mono hL)
    replace hL := Nat.le_trans hL hb.size
    replace C4 := C4.next hb
    replace C6 := C6.next hb
    replace C7 := C7.next hb
    replace A0 := A0.later hb
    replace A1 := A1.later hb
    replace A2 := A2.later hb
    replace A3 := A3.later hb
    replace hW := hW.trans (hb.mono hS)
    replace hS := Nat.le_trans hS hb.size
    clear hb
    clear q8 n8
    have D8 := C8
    obtain ⟨z8, m8, c8, e8, _⟩ := D8
    subst e8
    have hall : ∀ v ∈ [Value.slice none 0 0, Value.slice none 0 0, Value.slice z6 m6 c6, Value.slice z7 m7 c7, Value.slice z8 m8 c8], Cellz lo V4.heap.size V4 v := by
      intro v hv
      simp only [List.mem_cons, List.not_mem_nil, or_false] at hv
      rcases hv with rfl | rfl | rfl | rfl | rfl
      · exact C4
      · exact C4
      · exact C6
      · exact C7
      · exact C8
    have hnew : (V4.alloc (Obj.cells #[Value.slice none 0 0, Value.slice none 0 0, Value.slice z6 m6 c6, Value.slice z7 m7 c7, Value.slice z8 m8 c8] 23)).heap[V4.heap.size]? = some (.cells #[Value.slice none 0 0, Value.slice none 0 0, Value.slice z6 m6 c6, Value.slice z7 m7 c7, Value.slice z8 m8 c8] 23 (0, 0)) := heap_alloc_new V4 _
    have hbA : Below V4.heap.size V4 (V4.alloc (Obj.cells #[Value.slice none 0 0, Value.slice none 0 0, Value.slice z6 m6 c6, Value.slice z7 m7 c7, Value.slice z8 m8 c8] 23)) := (Below.refl _ V4).alloc (Nat.le_refl _) _
    have hall2 : ∀ v ∈ (#[Value.slice none 0 0, Value.slice none 0 0, Value.slice z6 m6 c6, Value.slice z7 m7 c7, Value.slice z8 m8 c8] : Array Value), Cellz lo V4.heap.size (V4.alloc (Obj.cells #[Value.slice none 0 0, Value.slice none 0 0, Value.slice z6 m6 c6, Value.slice z7 m7 c7, Value.slice z8 m8 c8] 23)) v := fun v hv => (hall v (by simpa using hv)).later hbA
    have hLB2 : Below lo W3 (V4.alloc (Obj.cells #[Value.slice none 0 0, Value.slice none 0 0, Value.slice z6 m6 c6, Value.slice z7 m7 c7, Value.slice z8 m8 c8] 23)) := hLB.trans (hbA.mono hL)
    have hsz : (#[Value.slice none 0 0, Value.slice none 0 0, Value.slice z6 m6 c6, Value.slice z7 m7 c7, Value.slice z8 m8 c8] : Array Value).size = 5 := rfl
    clear C4 C6 C7 C8 hall hLB A0 A1 A2 A3 hW hS hbA
    go_wp2
    generalize (V4.alloc (Obj.cells #[Value.slice none 0 0, Value.slice none 0 0, Value.slice z6 m6 c6, Value.slice z7 m7 c7, Value.slice z8 m8 c8] 23)) = WX at *
    generalize (#[Value.slice none 0 0, Value.slice none 0 0, Value.slice z6 m6 c6, Value.slice z7 m7 c7, Value.slice z8 m8 c8] : Array Value) = L at *
    generalize V4.heap.size = g at *
    go_loopw [16, 17] (fun i _ wr => ∃ k : Nat, k ≤ 5 ∧ i = .int .i64 k ∧ wr.heap[g]? = some (.cells L 23 (0, 0)) ∧ (∀ v ∈ L, Cellz lo g wr v) ∧ Below lo W3 wr) (fun i _ _ => 5 - (intOf i).toNat)
    case atStart => exact ⟨0, by omega, rfl, hnew, hall2, hLB2⟩
    case round =>
      obtain ⟨k, hk, rfl, hg, hC, hb⟩ := hrel
      by_cases hlt6 : k < 5
      · have hk2 : (k : Int) < 5 := by omega
        obtain ⟨v, hv⟩ : ∃ v, L[k]? = some v := ⟨L[k]'(by omega), Array.getElem?_eq_getElem (by omega)⟩
        have hmem : v ∈ L := Array.mem_of_getElem? hv
        obtain ⟨ad, n, cp, rfl, hn, _⟩ := hC v hmem
        unfold maxLen at hn
        clear hnew hall2 hLB2
        go_wp2
        go_loopw [17] (fun j wr' => ∃ i : Nat, i ≤ n ∧ j = .int .i64 i ∧ wr'.heap[g]? = some (.cells L 23 (0, 0)) ∧ (∀ v ∈ L, Cellz lo g wr' v) ∧ Below lo W3 wr') (fun j _ => n - (intOf j).toNat)
        case atStart => exact ⟨0, Nat.zero_le _, rfl, hg, hC, hb⟩
        case round =>
          clear hb hg hC
          obtain ⟨i, hi, rfl, hg, hC, hb⟩ := hrel
          obtain ⟨ad', n', cp', hsl, _, hx⟩ := hC _ hmem
          cases hsl
          have hce : wr.cell? ⟨g, k, none⟩ = some (.slice ad n cp) := (cell_of_row wr g k L _ _ hg).trans hv
          by_cases hin : i < n
          · have hin2 : (i : Int) < (n : Int) := by omega
            rcases hx with h0 | ⟨b, cur, rfl, h1, h2, h3, h4⟩
            · exact absurd hin (by omega)
            obtain ⟨z, hz⟩ := h4 i hin
            have hcb : wr.cell? ⟨b, i, none⟩ = some (.int .u32 z) := (cell_of_row wr b i cur _ _ h3).trans hz
            have hfb : wr.frozen? ⟨b, i, none⟩ = false := frozen_of_row wr b i cur _ h3
            have hC2 : ∀ z', ∀ v ∈ L, Cellz lo g (wr.drew.setCell ⟨b, i, none⟩ (.int .u32 z')) v := fun z' v hv' => Cellz.set (w := wr.drew) (hC v hv') b i z'
            have hg2 : ∀ z', (wr.drew.setCell ⟨b, i, none⟩ (.int .u32 z')).heap[g]? = some (.cells L 23 (0, 0)) := fun z' => (Below.heap_setCell _ _ _ _ (by simp; omega)).trans hg
            have hb2 : ∀ z', Below lo W3 (wr.drew.setCell ⟨b, i, none⟩ (.int .u32 z')) := fun z' => hb.drew.setCell (p := ⟨b, i, none⟩) h1 _
            have HC2 := Lib.hid hC2
            have HG2 := Lib.hid hg2
            have HB2 := Lib.hid hb2
            clear h4 hC2 hg2 hb2 hz hC
            go_wp2
            go_still_tail 14, (by kernel_rfl)
            repeat still_step
            have hcb2 : wr.drew.cell? ⟨b, i, none⟩ = some (.int .u32 z) := hcb
            have hfb2 : wr.drew.frozen? ⟨b, i, none⟩ = false := hfb
            go_wp2
            go_roundw
            case rel => exact ⟨i + 1, by omega, by go_num, HG2.out _, HC2.out _, HB2.out _⟩
            case measure => simp [intOf]; omega
          · have hin2 : ¬ (i : Int) < (n : Int) := by omega
            clear hx
            go_wp2
            go_roundw
            case rel => exact ⟨k + 1, by omega, by go_num, hg, hC, hb⟩
            case measure => simp [intOf]; omega
      · obtain rfl : k = 5 := by omega
        have hb0 := hb
        clear hb hnew hall2 hLB2 hC
        go_wp2
        go_loopw [18] (fun i wr => ∃ k : Nat, k ≤ xs0.length ∧ i = .int .i64 k ∧ Below lo W3 wr) (fun i _ => xs0.length - (intOf i).toNat)
        case atStart => exact ⟨0, Nat.zero_le _, rfl, hb0⟩
        case round =>
          clear hb0 hg
          obtain ⟨k, hk, rfl, hb⟩ := hrel
          have hb3 : Below W3.heap.size W3 wr := by rw [show W3.heap.size = lo from hlo]; exact hb
          by_cases hlt : k < xs0.length
          · have A2 := A2S.later hb3
            have A0 := A0S.later hb3
            rcases A2.lim with e | ⟨b2, o2, rfl, hc2⟩
            · rw [e] at hlt; simp at hlt
            rcases A0.lim with e | ⟨b0, o0, rfl, hc0⟩
            · rw [e] at hlt; simp at hlt
            have k2 := hc2 k hlt
            have k0 := hc0 k hlt
            obtain ⟨z, hz⟩ : ∃ z, xs0.getD k 0 = z := ⟨_, rfl⟩
            rw [hz] at k2 k0
            have hkl : (k : Int) < (xs0.length : Int) := by omega
            have hzz : (z != z) = false := by simp
            clear hc2 hc0 hz A2 A0
            go_wp2
            go_quiet (fail)
            go_wp2
            go_roundw
            case rel => exact ⟨k + 1, by omega, by go_num, ⟨hb.os, hb.tape, hb.output, hb.size, hb.block⟩⟩
            case measure => simp [intOf]; omega
          · obtain rfl : k = xs0.length := by omega
            have hb0 := hb
            clear hb hb3
            go_wp2
            go_loopw [19] (fun i wr => ∃ k : Nat, k ≤ xs1.length ∧ i = .int .i64 k ∧ Below lo W3 wr) (fun i _ => xs1.length - (intOf i).toNat)
            case atStart => exact ⟨0, Nat.zero_le _, rfl, hb0⟩
            case round =>
              clear hb0
              obtain ⟨k, hk, rfl, hb⟩ := hrel
              have hb3 : Below W3.heap.size W3 wr := by rw [show W3.heap.size = lo from hlo]; exact hb
              by_cases hlt : k < xs1.length
              · have A3 := A3S.later hb3
                have A1 := A1S.later hb3
                rcases A3.lim with e | ⟨b2, o2, rfl, hc2⟩
                · rw [e] at hlt; simp at hlt
                rcases A1.lim with e | ⟨b0, o0, rfl, hc0⟩
                · rw [e] at hlt; simp at hlt
                have k2 := hc2 k hlt
                have k0 := hc0 k hlt
                obtain ⟨z, hz⟩ : ∃ z, xs1.getD k 0 = z := ⟨_, rfl⟩
                rw [hz] at k2 k0
                have hkl : (k : Int) < (xs1.length : Int) := by omega
                have hzz : (z != z) = false := by simp
                clear hc2 hc0 hz A3 A1
                go_wp2
                go_quiet (fail)
                go_wp2
                go_roundw
                case rel => exact ⟨k + 1, by omega, by go_num, ⟨hb.os, hb.tape, hb.output, hb.size, hb.block⟩⟩
                case measure => simp [intOf]; omega
              · obtain rfl : k = xs1.length := by omega
                have hW := hWS.trans (hb3.mono hSS)
                have hS := Nat.le_trans hSS hb3.size
                go_wp2_with fail
                refine (known2_any _).mono ?_
                rintro e WK ⟨rfl, hbk⟩
                go_wp2_with fail
                go_ret
                exact ⟨rfl, hW.trans (hbk.mono hS)⟩
  replace h0 : 0 < val xs1 := by omega
  go_enter Try.func13, Try.ntmps13
  go_wp2_with (first | (at_builtin; refine step_copy rfl _ rfl rfl A0 H0.out (by omega) ?_; intro r2 W2 N2 hb2; have A1L := A1.later hb2) | (at_builtin; refine step_copy rfl _ rfl rfl A1L H1.out (by omega) ?_; intro r3 W3 N3 hb3))
  obtain ⟨ad2, cap2, e2, l2, c2, _, _⟩ := N2.read
  subst e2
  have A2' : Arg W2 (.slice ad2 xs0.length cap2) xs0 ad2 cap2 := ⟨rfl, l2, c2, A0.wf⟩
  have A2 := A2'.later hb3
  obtain ⟨ad3, cap3, e3, l3, c3, _, _⟩ := N3.read
  subst e3
  have A3 : Arg W3 (.slice ad3 xs1.length cap3) xs1 ad3 cap3 := ⟨rfl, l3, c3, A1.wf⟩
  replace A0 := (A0.later hb2).later hb3
  replace A1 := A1L.later hb3
  have hs2 := hb2.size
  replace hW := hb2.trans (hb3.mono hs2)
  replace hS := Nat.le_trans hs2 hb3.size
  clear A2' A1L N2 N3 l2 l3 c2 c3 hb2 hb3 hs2
  obtain ⟨lo, hlo⟩ : ∃ lo, Hid (W3.heap.size = lo) := ⟨_, rfl⟩
  have hLB : Below lo W3 W3 := Below.refl _ _
  have hL : lo ≤ W3.heap.size := by rw [show W3.heap.size = lo from hlo]; exact Nat.le_refl _
  have A2S := A2
  have A3S := A3
  have A0S := A0
  have A1S := A1
  have hWS := hW
  have hSS := hS
  go_wp2_with fail
  refine (div_any A2 A3 (by omega) (by omega) h0).mono ?_
  rintro e V1 ⟨r4, r5, rfl, hb, ⟨l4, q4, n4⟩, ⟨l5, q5, n5, _⟩⟩
  have C4 := q4.num.cellz hL
  have C5 := q5.num.cellz hL
  replace hLB := hLB.trans (hb.mono hL)
  replace hL := Nat.le_trans hL hb.size
  replace A0 := A0.later hb
  replace A1 := A1.later hb
  replace A2 := A2.later hb
  replace A3 := A3.later hb
  replace hW := hW.trans (hb.mono hS)
  replace hS := Nat.le_trans hS hb.size
  clear hb
  clear q4 n4 q5 n5
  have D4 := C4
  obtain ⟨z4, m4, c4, e4, _⟩ := D4
  subst e4
  have D5 := C5
  obtain ⟨z5, m5, c5, e5, _⟩ := D5
  subst e5
  go_wp2_with fail
  refine (gcd_any A2 A3 (by omega) (by omega)).mono ?_
  rintro e V2 ⟨r6, l6, rfl, q6, n6, hb⟩
  have C6 := q6.num.cellz hL
  replace hLB := hLB.trans (hb.mono hL)
  replace hL := Nat.le_trans hL hb.size
  replace C4 := C4.next hb
  replace C5 := C5.next hb
  replace A0 := A0.later hb
  replace A1 := A1.later hb
  replace A2 := A2.later hb
  replace A3 := A3.later hb
  replace hW := hW.trans (hb.mono hS)
  replace hS := Nat.le_trans hS hb.size
  clear hb
  clear q6 n6
  have D6 := C6
  obtain ⟨z6, m6, c6, e6, _⟩ := D6
  subst e6
  go_wp2_with fail
  refine (pow_any 1 A2 (by omega) (by omega)).mono ?_
  rintro e V3 ⟨r7, l7, rfl, q7, n7, hb⟩
  have C7 := q7.num.cellz hL
  replace hLB := hLB.trans (hb.mono hL)
  replace hL := Nat.le_trans hL hb.size
  replace C4 := C4.next hb
  replace C5 := C5.next hb
  replace C6 := C6.next hb
  replace A0 := A0.later hb
  replace A1 := A1.later hb
  replace A2 := A2.later hb
  replace A3 := A3.later hb
  replace hW := hW.trans (hb.mono hS)
  replace hS := Nat.le_trans hS hb.size
  clear hb
  clear q7 n7
  have D7 := C7
  obtain ⟨z7, m7, c7, e7, _⟩ := D7
  subst e7
  go_wp2_with fail
  refine (short1_any 1 A2 (by omega) (by omega)).mono ?_
  rintro e V4 ⟨r8, rfl, l8, q8, n8, hb⟩
  have C8 := q8.num.cellz hL
  replace hLB := hLB.trans (hb.mono hL)
  replace hL := Nat.le_trans hL hb.size
  replace C4 := C4.next hb
  replace C5 := C5.next hb
  replace C6 := C6.next hb
  replace C7 := C7.next hb
  replace A0 := A0.later hb
  replace A1 := A1.later hb
  replace A2 := A2.later hb
  replace A3 := A3.later hb
  replace hW := hW.trans (hb.mono hS)
  replace hS := Nat.le_trans hS hb.size
  clear hb
  clear q8 n8
  have D8 := C8
  obtain ⟨z8, m8, c8, e8, _⟩ := D8
  subst e8
  have hall : ∀ v ∈ [Value.slice z4 m4 c4, Value.slice z5 m5 c5, Value.slice z6 m6 c6, Value.slice z7 m7 c7, Value.slice z8 m8 c8], Cellz lo V4.heap.size V4 v := by
    intro v hv
    simp only [List.mem_cons, List.not_mem_nil, or_false] at hv
    rcases hv with rfl | rfl | rfl | rfl | rfl
    · exact C4
    · exact C5
    · exact C6
    · exact C7
    · exact C8
  have hnew : (V4.alloc (Obj.cells #[Value.slice z4 m4 c4, Value.slice z5 m5 c5, Value.slice z6 m6 c6, Value.slice z7 m7 c7, Value.slice z8 m8 c8] 23)).heap[V4.heap.size]? = some (.cells #[Value.slice z4 m4 c4, Value.slice z5 m5 c5, Value.slice z6 m6 c6, Value.slice z7 m7 c7, Value.slice z8 m8 c8] 23 (0, 0)) := heap_alloc_new V4 _
  have hbA : Below V4.heap.size V4 (V4.alloc (Obj.cells #[Value.slice z4 m4 c4, Value.slice z5 m5 c5, Value.slice z6 m6 c6, Value.slice z7 m7 c7, Value.slice z8 m8 c8] 23)) := (Below.refl _ V4).alloc (Nat.le_refl _) _
  have hall2 : ∀ v ∈ (#[Value.slice z4 m4 c4, Value.slice z5 m5 c5, Value.slice z6 m6 c6, Value.slice z7 m7 c7, Value.slice z8 m8 c8] : Array Value), Cellz lo V4.heap.size (V4.alloc (Obj.cells #[Value.slice z4 m4 c4, Value.slice z5 m5 c5, Value.slice z6 m6 c6, Value.slice z7 m7 c7, Value.slice z8 m8 c8] 23)) v := fun v hv => (hall v (by simpa using hv)).later hbA
  have hLB2 : Below lo W3 (V4.alloc (Obj.cells #[Value.slice z4 m4 c4, Value.slice z5 m5 c5, Value.slice z6 m6 c6, Value.slice z7 m7 c7, Value.slice z8 m8 c8] 23)) := hLB.trans (hbA.mono hL)
  have hsz : (#[Value.slice z4 m4 c4, Value.slice z5 m5 c5, Value.slice z6 m6 c6, Value.slice z7 m7 c7, Value.slice z8 m8 c8] : Array Value).size = 5 := rfl
  clear C4 C5 C6 C7 C8 hall hLB A0 A1 A2 A3 hW hS hbA
  go_wp2
  generalize (V4.alloc (Obj.cells #[Value.slice z4 m4 c4, Value.slice z5 m5 c5, Value.slice z6 m6 c6, Value.slice z7 m7 c7, Value.slice z8 m8 c8] 23)) = WX at *
  generalize (#[Value.slice z4 m4 c4, Value.slice z5 m5 c5, Value.slice z6 m6 c6, Value.slice z7 m7 c7, Value.slice z8 m8 c8] : Array Value) = L at *
  generalize V4.heap.size = g at *
  go_loopw [16, 17] (fun i _ wr => ∃ k : Nat, k ≤ 5 ∧ i = .int .i64 k ∧ wr.heap[g]? = some (.cells L 23 (0, 0)) ∧ (∀ v ∈ L, Cellz lo g wr v) ∧ Below lo W3 wr) (fun i _ _ => 5 - (intOf i).toNat)
  case atStart => exact ⟨0, by omega, rfl, hnew, hall2, hLB2⟩
  case round =>
    obtain ⟨k, hk, rfl, hg, hC, hb⟩ := hrel
    by_cases hlt6 : k < 5
    · have hk2 : (k : Int) < 5 := by omega
      obtain ⟨v, hv⟩ : ∃ v, L[k]? = some v := ⟨L[k]'(by omega), Array.getElem?_eq_getElem (by omega)⟩
      have hmem : v ∈ L := Array.mem_of_getElem? hv
      obtain ⟨ad, n, cp, rfl, hn, _⟩ := hC v hmem
      unfold maxLen at hn
      clear hnew hall2 hLB2
      go_wp2
      go_loopw [17] (fun j wr' => ∃ i : Nat, i ≤ n ∧ j = .int .i64 i ∧ wr'.heap[g]? = some (.cells L 23 (0, 0)) ∧ (∀ v ∈ L, Cellz lo g wr' v) ∧ Below lo W3 wr') (fun j _ => n - (intOf j).toNat)
      case atStart => exact ⟨0, Nat.zero_le _, rfl, hg, hC, hb⟩
      case round =>
        clear hb hg hC
        obtain ⟨i, hi, rfl, hg, hC, hb⟩ := hrel
        obtain ⟨ad', n', cp', hsl, _, hx⟩ := hC _ hmem
        cases hsl
        have hce : wr.cell? ⟨g, k, none⟩ = some (.slice ad n cp) := (cell_of_row wr g k L _ _ hg).trans hv
        by_cases hin : i < n
        · have hin2 : (i : Int) < (n : Int) := by omega
          rcases hx with h0 | ⟨b, cur, rfl, h1, h2, h3, h4⟩
          · exact absurd hin (by omega)
          obtain ⟨z, hz⟩ := h4 i hin
          have hcb : wr.cell? ⟨b, i, none⟩ = some (.int .u32 z) := (cell_of_row wr b i cur _ _ h3).trans hz
          have hfb : wr.frozen? ⟨b, i, none⟩ = false := frozen_of_row wr b i cur _ h3
          have hC2 : ∀ z', ∀ v ∈ L, Cellz lo g (wr.drew.setCell ⟨b, i, none⟩ (.int .u32 z')) v := fun z' v hv' => Cellz.set (w := wr.drew) (hC v hv') b i z'
          have hg2 : ∀ z', (wr.drew.setCell ⟨b, i, none⟩ (.int .u32 z')).heap[g]? = some (.cells L 23 (0, 0)) := fun z' => (Below.heap_setCell _ _ _ _ (by simp; omega)).trans hg
          have hb2 : ∀ z', Below lo W3 (wr.drew.setCell ⟨b, i, none⟩ (.int .u32 z')) := fun z' => hb.drew.setCell (p := ⟨b, i, none⟩) h1 _
          have HC2 := Lib.hid hC2
          have HG2 := Lib.hid hg2
          have HB2 := Lib.hid hb2
          clear h4 hC2 hg2 hb2 hz hC
          go_wp2
          go_still_tail 14, (by kernel_rfl)
          repeat still_step
          have hcb2 : wr.drew.cell? ⟨b, i, none⟩ = some (.int .u32 z) := hcb
          have hfb2 : wr.drew.frozen? ⟨b, i, none⟩ = false := hfb
          go_wp2
          go_roundw
          case rel => exact ⟨i + 1, by omega, by go_num, HG2.out _, HC2.out _, HB2.out _⟩
          case measure => simp [intOf]; omega
        · have hin2 : ¬ (i : Int) < (n : Int) := by omega
          clear hx
          go_wp2
          go_roundw
          case rel => exact ⟨k + 1, by omega, by go_num, hg, hC, hb⟩
          case measure => simp [intOf]; omega
    · obtain rfl : k = 5 := by omega
      have hb0 := hb
      clear hb hnew hall2 hLB2 hC
      go_wp2
      go_loopw [18] (fun i wr => ∃ k : Nat, k ≤ xs0.length ∧ i = .int .i64 k ∧ Below lo W3 wr) (fun i _ => xs0.length - (intOf i).toNat)
      case atStart => exact ⟨0, Nat.zero_le _, rfl, hb0⟩
      case round =>
        clear hb0 hg
        obtain ⟨k, hk, rfl, hb⟩ := hrel
        have hb3 : Below W3.heap.size W3 wr := by rw [show W3.heap.size = lo from hlo]; exact hb
        by_cases hlt : k < xs0.length
        · have A2 := A2S.later hb3
          have A0 := A0S.later hb3
          rcases A2.lim with e | ⟨b2, o2, rfl, hc2⟩
          · rw [e] at hlt; simp at hlt
          rcases A0.lim with e | ⟨b0, o0, rfl, hc0⟩
          · rw [e] at hlt; simp at hlt
          have k2 := hc2 k hlt
          have k0 := hc0 k hlt
          obtain ⟨z, hz⟩ : ∃ z, xs0.getD k 0 = z := ⟨_, rfl⟩
          rw [hz] at k2 k0
          have hkl : (k : Int) < (xs0.length : Int) := by omega
          have hzz : (z != z) = false := by simp
          clear hc2 hc0 hz A2 A0
          go_wp2
          go_quiet (fail)
          go_wp2
          go_roundw
          case rel => exact ⟨k + 1, by omega, by go_num, ⟨hb.os, hb.tape, hb.output, hb.size, hb.block⟩⟩
          case measure => simp [intOf]; omega
        · obtain rfl : k = xs0.length := by omega
          have hb0 := hb
          clear hb hb3
          go_wp2
          go_loopw [19] (fun i wr => ∃ k : Nat, k ≤ xs1.length ∧ i = .int .i64 k ∧ Below lo W3 wr) (fun i _ => xs1.length - (intOf i).toNat)
          case atStart => exact ⟨0, Nat.zero_le _, rfl, hb0⟩
          case round =>
            clear hb0
            obtain ⟨k, hk, rfl, hb⟩ := hrel
            have hb3 : Below W3.heap.size W3 wr := by rw [show W3.heap.size = lo from hlo]; exact hb
            by_cases hlt : k < xs1.length
            · have A3 := A3S.later hb3
              have A1 := A1S.later hb3
              rcases A3.lim with e | ⟨b2, o2, rfl, hc2⟩
              · rw [e] at hlt; simp at hlt
              rcases A1.lim with e | ⟨b0, o0, rfl, hc0⟩
              · rw [e] at hlt; simp at hlt
              have k2 := hc2 k hlt
              have k0 := hc0 k hlt
              obtain ⟨z, hz⟩ : ∃ z, xs1.getD k 0 = z := ⟨_, rfl⟩
              rw [hz] at k2 k0
              have hkl : (k : Int) < (xs1.length : Int) := by omega
              have hzz : (z != z) = false := by simp
              clear hc2 hc0 hz A3 A1
              go_wp2
              go_quiet (fail)
              go_wp2
              go_roundw
              case rel => exact ⟨k + 1, by omega, by go_num, ⟨hb.os, hb.tape, hb.output, hb.size, hb.block⟩⟩
              case measure => simp [intOf]; omega
            · obtain rfl : k = xs1.length := by omega
              have hW := hWS.trans (hb3.mono hSS)
              have hS := Nat.le_trans hSS hb3.size
              go_wp2_with fail
              refine (known2_any _).mono ?_
              rintro e WK ⟨rfl, hbk⟩
              go_wp2_with fail
              go_ret
              exact ⟨rfl, hW.trans (hbk.mono hS)⟩

namespace quoOwn
theorem contract (H : Type) (enc : TypeId × Value → H) (W : World) (base : Nat) (args : Array Value) (ds gs : List (DataW H)) (before : List MemPlace)
    (hval : ∀ (j : Nat) t v, Try.f13.params[j]? = some t → args[j]? = some v → Value.okWide Try.prog W .any base t v)
    (hW : DataW.Whole enc Try.prog Try.f13.params.toList Rows.quoOwnSpec.vars false W args.toList ds gs before) :
    Calls Try.prog 13 args W fun e W' => ∃ v, e = .returned v ∧ Rows.quoOwnSpec.post enc Try.prog Try.f13 false true false false W args v W' := by
  have hW' := hW
  have hlt := fun p hp => hW'.lt p hp
  obtain ⟨p, q, hA0, hV, rfl, hfz, hnd⟩ := hW
  have hA : DataW.TrodAll enc Try.prog W 0 (fun _ => true) true Try.f13.params.toList args.toList ds p := hA0
  rw [Try.params13] at hA hval
  obtain ⟨v0, vs0, d0, ds0, p0, q0, ha0, rfl, rfl, h0, r0⟩ := trodAll_cons hA
  obtain ⟨v1, vs1, d1, ds1, p1, q1, ha1, rfl, rfl, h1, r1⟩ := trodAll_cons r0
  obtain ⟨rfl, rfl, rfl⟩ := trodAll_nil r1
  subst ha1
  obtain rfl : args = #[v0, v1] := by cases args; simp_all
  obtain ⟨rfl, rfl⟩ := trodVars_none hV
  clear hA hA0 hV
  simp only [List.append_nil] at hW' hlt
  obtain ⟨ad0, xs0, cap0, A0, n0⟩ := open_nat3 (okWide_slice Try.underlying23 (hval 0 23 v0 rfl rfl)) h0
  obtain ⟨ad1, xs1, cap1, A1, n1⟩ := open_nat3 (okWide_slice Try.underlying23 (hval 1 23 v1 rfl rfl)) h1
  refine (quoOwn_walk v0 xs0 ad0 cap0 v1 xs1 ad1 cap1 W A0 n0 A1 n1).mono fun e W' ⟨he, hb⟩ => ?_
  subst he
  have t0 := Below.trod laid (by kernel_rfl) (of_decide_eq_true (by kernel_rfl)) h0 hb (fun x hx => hlt x (by simp [hx]))
  have t1 := Below.trod laid (by kernel_rfl) (of_decide_eq_true (by kernel_rfl)) h1 hb (fun x hx => hlt x (by simp [hx]))
  exact ⟨_, rfl, [d0, d1], [], (p0 ++ p1), [], (p0 ++ (p1 ++ [])), [], hW', trodAll_cons_mk (shut_bool Try.underlying4 _) trodAll_mk0,
    (trodAll_cons_mk t0 (trodAll_cons_mk t1 trodAll_mk0)), rfl, hb.frame _, fun h => by cases h⟩

set_option maxRecDepth 100000 in
theorem lifted (os : Os) (started : os.Started) (H : Type) (enc : TypeId × Value → H) :
    ReturnsInHanded {} Try.checked os 13 .any (Rows.quoOwnSpec.pre6 enc Try.prog Try.f13 Rows.quoOwnRow.domain false) (Rows.quoOwnSpec.post enc Try.prog Try.f13 false true false false) := by
  refine returnsInHanded_of_change (C := Try.checked) own started (by kernel_rfl) Try.func13
    (ChangeSpec.witness6 (enc := enc) (C := Try.checked) false ⟨#[], #[.slice none 0 0, .slice none 0 0], []⟩ 8 (by kernel_rfl) (by kernel_rfl) (by kernel_rfl) (by kernel_rfl)) ?_
  intro W base args ds gs before hval hW _ _
  exact contract H enc W base args ds gs before hval hW

theorem proved : Rows.QuoOwnSaid :=
  OpenClaim.holds_of_wide 13 Try.f13 rfl rfl rfl rfl rfl rfl rfl ⟨rfl, rfl, rfl, rfl, rfl⟩ rfl rfl rfl rfl rfl (by kernel_rfl) Try.func13 (by kernel_rfl)
    (of_decide_eq_true (by kernel_rfl)) (by unfold Func.isWrapper; first | (rw [if_pos (by decide +kernel)]; kernel_rfl) | (rw [if_neg (by decide +kernel)]; exact ⟨rfl, rfl⟩))
    (fun os started H enc _ => lifted os started H enc)
end quoOwn
end Go.Proofs.Ytdcdaielfkikhaa
