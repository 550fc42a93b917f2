/-
  WireOwn.
-/
import Derived.Test.YtgjoiacgdgbcjaaWOpen
import Derived.Laws.CopyOwn
namespace Go.Proofs.Ytgjoiacgdgbcjaa
open Go.RowKit
set_option linter.unusedVariables false
set_option linter.unusedSimpArgs false

theorem sizeByte : (Try.prog.info? 5).map (·.size) = some 1 := by kernel_rfl
theorem make_runB (n c : Nat) (hnc : n ≤ c) (hc : c ≤ 140737488355328) (w : World) :
    (Instr.makeSlice 22 (.int .i64 (n : Int)) (.int .i64 (c : Int))).run Try.prog w = .ok (.slice (some ⟨w.heap.size, 0, none⟩) n c) (w.alloc (.cells (madeCells #[.int .u8 0] c) 5)) := by
  obtain ⟨i0, hi, hz0, hz1, hz2⟩ := info_parts infoByte
  have h := run_make (P := Try.prog) w 22 5 i0 (.int .u8 0) Try.underlying22 hi hz0 .i64 .i64 n c (by omega) (by omega) (by rw [hz2]; omega) (by omega)
  simpa [hz1, Value.cells] using h
theorem ResB.older {b0 base g : Nat} {w0 w w' : World} {u : Value} {xs : List Int} (h0 : ResB b0 w0 u xs) (h : ResB base w u xs) (k : KeptC g w w') (hg : w0.heap.size ≤ g) : ResB base w' u xs := by
  refine ⟨?_, h.wf⟩
  have hlt := h0.num.lt
  obtain ⟨h1, h2⟩ := h.num
  refine ⟨h1, ?_⟩
  rcases h2 with h2 | ⟨r, cap, cur, rfl, hr, hh, hc, hm, hs, ht⟩
  · exact .inl h2
  · have := (hlt r rfl).2
    exact .inr ⟨r, cap, cur, rfl, hr, (k.block r (lt_of_block hh) (by omega)).trans hh, hc, hm, hs, ht⟩
theorem ResB.cut {base : Nat} {w : World} {ad : Option Addr} {n cap m : Nat} {xs : List Int} (h : ResB base w (.slice ad n cap) xs) (hm : m ≤ xs.length) : ArgB w (.slice ad m cap) (xs.take m) ad cap ∧ m ≤ cap := by
  obtain ⟨ad', cap', e, h2, h3, _, _⟩ := h.num.read
  simp only [Value.slice.injEq] at e
  obtain ⟨rfl, rfl, rfl⟩ := e
  have hl : (xs.take m).length = m := by rw [List.length_take]; omega
  exact ⟨⟨by rw [hl], h2.take m, by rw [hl]; omega, h.wf.take m⟩, by omega⟩

set_option maxRecDepth 100000 in
set_option maxHeartbeats 8000000 in
theorem wireOwn_walk (xs0 : List Int) (a0 : Option Addr) (ca0 : Nat) (w : World) (A0 : ArgB w (.slice a0 xs0.length ca0) xs0 a0 ca0) (l0 : xs0.length ≤ 140737488351232) (n0 : a0 = none → ca0 = 0) :
    Calls Try.prog 8 #[.slice a0 xs0.length ca0] w fun e w' => e = .returned (.bool true) ∧ Below w.heap.size w w' := by
  obtain ⟨L, hL⟩ : ∃ L, xs0.length = L := ⟨_, rfl⟩
  rw [hL] at A0 l0 ⊢
  have HL := Lib.hid hL
  clear hL
  obtain ⟨M, hM⟩ : ∃ M : Nat, L + 16 = M := ⟨_, rfl⟩
  have hMI : (L : Int) + 16 = (M : Int) := by omega
  have hwM : IntKind.i64.wrap (M : Int) = (M : Int) := IntWalk.i64_in _ (by omega)
  have hmk := make_runB L M (by omega) (by omega)
  have HM := Lib.hid hM
  clear hM
  have hcur : ∀ W0 : World, (W0.alloc (.cells (madeCells #[.int .u8 0] M) 5)).heap[W0.heap.size]? = some (.cells (List.replicate M (Value.int .u8 0)).toArray 5 (0, 0)) := by
    intro W0
    have h := BlkB.made W0 M
    unfold BlkB at h
    rw [h]
    simp
  go_enter Try.func8, Try.ntmps8
  have AA := A0.later ((Below.refl w.heap.size w).alloc (Nat.le_refl _) (.cells (madeCells #[.int .u8 0] M) 5))
  have hbb : Below w.heap.size w (w.alloc (.cells (madeCells #[.int .u8 0] M) 5)) := (Below.refl w.heap.size w).alloc (Nat.le_refl _) _
  have hcp : ∀ (ops : Array Oper) (rest : List Oper) (o : Oper) (a : Act) (Q : Exit → Act → World → Prop), o.guard = none → o.op = Op.call { callee := Callee.builtin Builtin.copy, args := #[.tmp 19, .tmp 20], argTypes := #[22, 22] } →
      a.eval (.tmp 19) = .slice (some ⟨w.heap.size, 0, none⟩) L M → a.eval (.tmp 20) = .slice a0 L ca0 →
      (∀ w', Hid (w'.heap[w.heap.size]? = some (.cells (splice (List.replicate M (Value.int .u8 0)) 0 (xs0.map (Value.int .u8))).toArray 5 (0, 0))) → Below w.heap.size w w' → wpList Try.prog ops Q rest (a.put o.dst (goInt (xs0.map (Value.int .u8)).length)) w') →
      wpList Try.prog ops Q (o :: rest) a (w.alloc (.cells (madeCells #[.int .u8 0] M) 5)) := by
    intro ops rest o a Q hg ho hd hs h
    refine wpList_copy_splice hg (.tmp 19) (.tmp 20) 22 22 ho 5 Try.underlying22 sizeByte _ _ L M L ca0 hd hs w.heap.size 0 (List.replicate M (Value.int .u8 0)) 5 (hcur w) (xs0.map (Value.int .u8)) (by rw [List.length_map, HL.out]; simp) (fun hp => ⟨rfl, ?_⟩) (by rw [List.length_map, HL.out, List.length_replicate]; have := HM.out; omega) (ints_oneCell _ _) w.heap.size w hbb (Nat.le_refl _) h
    rcases AA.lim with e | ⟨b, off, e, hc⟩
    · rw [e] at hp; simp at hp
    · subst e
      exact ⟨_, rfl, cells_argB (cap := ca0) AA.lim⟩
  go_wp2_with (refine hcp _ _ _ _ _ rfl rfl rfl rfl ?_; intro w1 hg1 hb1)
  obtain ⟨zt, htl, hzt, hzm⟩ : ∃ zt : List Int, zt.length = 16 ∧ (∀ i, zt.getD i 0 = 0) ∧ (∀ r, List.replicate r (Value.int .u8 0) = List.replicate r (Value.int .u8 0)) ∧ zt = List.replicate 16 0 :=
    ⟨List.replicate 16 0, List.length_replicate, fun i => by simp only [List.getD_eq_getElem?_getD, List.getElem?_replicate]; split <;> rfl, fun _ => rfl, rfl⟩
  have P0 : PartB w1 w.heap.size M (xs0 ++ zt) := by
    have e := HM.out
    have e2 := HL.out
    have e3 : (splice (List.replicate M (Value.int .u8 0)) 0 (xs0.map (Value.int .u8))) = (xs0 ++ zt).map (Value.int .u8) := by
      unfold splice
      rw [List.take_zero, List.nil_append, Nat.zero_add, List.length_map, List.map_append, List.drop_replicate, hzm.2, List.map_replicate, show M - xs0.length = 16 by omega]
    refine ⟨_, hg1.out, ?_, by rw [List.length_append]; omega, ?_⟩
    · rw [e3]; simp only [List.size_toArray, List.length_map, List.length_append]; omega
    · rw [e3, List.take_of_length_le (by simp only [List.length_map]; exact Nat.le_refl _)]
  have X1 : ArgB w1 (.slice (some ⟨w.heap.size, 0, none⟩) L M) xs0 (some ⟨w.heap.size, 0, none⟩) M := by
    refine ⟨by rw [HL.out], .inr ⟨w.heap.size, 0, rfl, fun i hi => ?_⟩, by have := HM.out; have := HL.out; omega, A0.wf⟩
    rw [Nat.zero_add, P0.cell i (by rw [List.length_append]; omega), List.getD_eq_getElem?_getD, List.getElem?_append_left hi, List.getD_eq_getElem?_getD]
  clear hzm
  have hs1 := P0.lt
  have e7 : encN (7 : Int).toNat = [7] := by rw [show (7 : Int).toNat = 7 from rfl, encN_small (by omega)]; rfl
  have e14 : encN (zig 7).toNat = [14] := by rw [show (zig 7).toNat = 14 from rfl, encN_small (by omega)]; rfl
  have U1 := putU_any 7 X1 (fun h => by cases h) (by have := HL.out; omega) (by omega) (by omega)
  rw [e7] at U1
  have E14 := Lib.hid e14
  clear e7 e14 hg1 hcp hcur hmk
  go_wp2_with fail
  refine U1.mono ?_
  rintro e w2 ⟨r2, rfl, q2, hb2⟩
  have hs2 := hb2.size
  have X2 := X1.later hb2
  have P2 := P0.later hb2
  have U2 := putZ_any 7 X2 (fun h => by cases h) (by have := HL.out; omega) (by omega) (by omega)
  rw [E14.out] at U2
  clear U1 P0 X1
  go_wp2_with fail
  refine U2.mono ?_
  rintro e w3 ⟨r3, rfl, q3, hb3⟩
  have hs3 := hb3.size
  have X3 := X2.later hb3
  have P3 := P2.later hb3
  have q23 := q2.later hb3
  clear U2 P2 X2 q2
  go_wp2_with fail
  have X4 := X3.later ((Below.refl w3.heap.size w3).alloc (Nat.le_refl _) (.cells #[.int .u8 7] 5))
  have P4 := P3.later ((Below.refl w3.heap.size w3).alloc (Nat.le_refl _) (.cells #[.int .u8 7] 5))
  have q24 := q23.later ((Below.refl w3.heap.size w3).alloc (Nat.le_refl _) (.cells #[.int .u8 7] 5))
  have q34 := q3.later ((Below.refl w3.heap.size w3).alloc (Nat.le_refl _) (.cells #[.int .u8 7] 5))
  have hs4 : w3.heap.size ≤ (w3.alloc (.cells #[.int .u8 7] 5)).heap.size := by simp
  have hB4 : Below w.heap.size w (w3.alloc (.cells #[.int .u8 7] 5)) := (hb1.trans ((hb2.trans (hb3.mono hs2)).mono (by omega))).alloc (by omega) _
  have Y4 := ArgB.lit w3 [7] (by intro x hx; simp at hx; omega)
  simp only [List.map_cons, List.map_nil, List.length_cons, List.length_nil, Nat.reduceAdd] at Y4
  generalize w3.alloc (.cells #[.int .u8 7] 5) = W4 at *
  have U3 := putB_any X4 (fun h => by cases h) Y4 (fun h => by cases h) (by have := HL.out; simp only [List.length_cons, List.length_nil]; omega)
  have e1 : encN ([7] : List Int).length = [1] := by rw [show ([7] : List Int).length = 1 from rfl, encN_small (by omega)]; rfl
  rw [e1] at U3
  clear e1 Y4 X3 P3 q23 q3
  refine U3.mono ?_
  rintro e w5 ⟨r5, rfl, q5, hb5⟩
  have hs5 := hb5.size
  have X5 := X4.later hb5
  have P5 := P4.later hb5
  have q25 := q24.later hb5
  have q35 := q34.later hb5
  have hB5 : Below w.heap.size w w5 := hB4.trans (hb5.mono hB4.size)
  clear U3 X4 P4 q24 q34
  go_wp2_with fail
  refine (newC_any X5 (fun h => by cases h) (by have := HL.out; omega)).mono ?_
  rintro e w6 ⟨g, rfl, C6, hb6⟩
  have hs6 := hb6.size
  have hB6 : Below w.heap.size w w6 := hB5.trans (hb6.mono hB5.size)
  have P6 := P5.later hb6
  have q26 := q25.later hb6
  have q36 := q35.later hb6
  have q56 := q5.later hb6
  have l2 : (xs0 ++ [7]).length = L + 1 := by rw [List.length_append, HL.out]; rfl
  have l3 : (xs0 ++ [14]).length = L + 1 := by rw [List.length_append, HL.out]; rfl
  have l5 : (xs0 ++ ([1] ++ [7])).length = L + 2 := by rw [List.length_append, HL.out]; rfl
  obtain ⟨y2, hy2⟩ : ∃ l, xs0 ++ [7] = l := ⟨_, rfl⟩
  obtain ⟨y3, hy3⟩ : ∃ l, xs0 ++ [14] = l := ⟨_, rfl⟩
  obtain ⟨y5, hy5⟩ : ∃ l, xs0 ++ ([1] ++ [7]) = l := ⟨_, rfl⟩
  have t2 : y2.take L = xs0 := by rw [← hy2, ← HL.out, List.take_left' rfl]
  have t3 : y3.take L = xs0 := by rw [← hy3, ← HL.out, List.take_left' rfl]
  have t5 : y5.take L = xs0 := by rw [← hy5, ← HL.out, List.take_left' rfl]
  rw [hy2] at q26 l2
  rw [hy3] at q36 l3
  rw [hy5] at q56 l5
  have T2 := Lib.hid t2
  have T3 := Lib.hid t3
  have T5 := Lib.hid t5
  have L2 := Lib.hid l2
  have L3 := Lib.hid l3
  have L5 := Lib.hid l5
  rw [hy2] at q25
  rw [hy3] at q35
  rw [hy5] at q5
  clear hy2 hy3 hy5 t2 t3 t5 X5 P5 l2 l3 l5
  obtain ⟨b2, c2, rfl, q2', B2, _⟩ := q26.slice
  obtain ⟨b3, c3, rfl, q3', B3, _⟩ := q36.slice
  obtain ⟨b5, c5, rfl, q5', B5, _⟩ := q56.slice
  rw [L2.out] at q2' B2 q25 ⊢
  rw [L3.out] at q3' B3 q35 ⊢
  rw [L5.out] at q5' B5 q5 ⊢
  have hp1 : ((L : Int) + 1 != (L : Int) + 1) = false := by simp
  have hp2 : ((L : Int) + 2 != (L : Int) + 2) = false := by simp
  have hw1 : IntKind.i64.wrap ((L : Int) + 1) = (L : Int) + 1 := IntWalk.i64_in _ (by omega)
  have hw2 : IntKind.i64.wrap ((L : Int) + 2) = (L : Int) + 2 := IntWalk.i64_in _ (by omega)
  clear q26 q36 q56 B2 B3 B5
  go_wp2_with fail
  have hGs : w.heap.size < w1.heap.size := hs1
  have hG6 : w.heap.size < w6.heap.size := P6.lt
  go_loopw [8] (fun iv wr => ∃ (i : Nat) (zs : List Int), i ≤ L ∧ iv = .int .i64 (i : Int) ∧ zs.length = M ∧ Byt zs ∧ (∀ j, L ≤ j → zs.getD j 0 = 0) ∧ PartB wr w.heap.size M zs ∧ KeptC w.heap.size w6 wr) (fun iv _ => L - (intOf iv).toNat)
  case atStart =>
    refine ⟨0, xs0 ++ zt, Nat.zero_le _, rfl, by rw [List.length_append, HL.out, htl, HM.out], A0.wf.append (fun x hx => ?_), fun j hj => ?_, P6, KeptC.refl _ _⟩
    · obtain ⟨j, hj, rfl⟩ := List.getElem_of_mem hx
      have := hzt j
      rw [List.getD_eq_getElem?_getD, List.getElem?_eq_getElem hj] at this
      simp only [Option.getD_some] at this
      omega
    · rw [List.getD_eq_getElem?_getD, List.getElem?_append_right (by rw [HL.out]; exact hj), ← List.getD_eq_getElem?_getD]
      exact hzt _
  case round =>
    obtain ⟨i, zs, hi, rfl, hzl, hzb, hz0, hp, hk⟩ := hrel
    have HZL := Lib.hid hzl
    have HZ0 := Lib.hid hz0
    have hML : (L : Int) ≤ (M : Int) := by omega
    by_cases hlt : i < L
    · have hiI : (i : Int) < (L : Int) := by omega
      have hc := hp.cell i (by rw [hzl]; omega)
      have hf := hp.free i
      obtain ⟨y0, y1⟩ := hzb.getD i
      obtain ⟨z, hz⟩ : ∃ z, zs.getD i 0 = z := ⟨_, rfl⟩
      rw [hz] at hc y0 y1
      obtain ⟨z1, hz1⟩ : ∃ z1, (z + 1) % 256 = z1 := ⟨_, rfl⟩
      have hwz : IntKind.u8.wrap (z + 1) = z1 := by rw [← hz1]; simp only [IntKind.wrap, IntKind.signed, IntKind.bits]; simp
      have hwi : IntKind.i64.wrap ((i : Int) + 1) = (i : Int) + 1 := IntWalk.i64_in _ (by omega)
      have hb1' : 0 ≤ z1 ∧ z1 < 256 := by omega
      have hps := hp.set i (by rw [hzl]; omega) z1
      clear hzl hz0 hz hz1
      go_wp2_with fail
      go_roundw
      case rel =>
        refine ⟨i + 1, zs.set i z1, by omega, by go_num, by rw [List.length_set, HZL.out], fun x hx => ?_, fun j hj => ?_, hps, hk.trans (KeptC.setCell _ _ _ _)⟩
        · rcases List.mem_or_eq_of_mem_set hx with hx | rfl
          · exact hzb x hx
          · exact hb1'
        · rw [List.getD_eq_getElem?_getD, List.getElem?_set_ne (by omega), ← List.getD_eq_getElem?_getD]
          exact HZ0.out j hj
      case measure => simp [intOf]; omega
    · obtain rfl : i = L := by omega
      have hMi : (i : Int) < (M : Int) := by omega
      have hMne : ¬ M = i := by have := HM.out; omega
      have hML16 : M - i = 16 := by have := HM.out; omega
      clear hzl hz0
      go_wp2_with fail
      go_loopw [78] (fun iv wx => ∃ j : Nat, j ≤ 16 ∧ iv = .int .i64 (j : Int) ∧ PartB wx w.heap.size M zs ∧ KeptC w.heap.size w6 wx) (fun iv _ => 16 - (intOf iv).toNat)
      case atStart => exact ⟨0, Nat.zero_le _, rfl, hp, hk⟩
      case round =>
        clear hp hk
        obtain ⟨j, hj, rfl, hp, hk⟩ := hrel
        by_cases hlt2 : j < 16
        · have hjI : (j : Int) < 16 := by omega
          have hc := hp.cell (i + j) (by rw [HZL.out]; omega)
          rw [HZ0.out (i + j) (by omega)] at hc
          have h00 : ((0 : Int) != 0) = false := by decide
          go_wp2_with fail
          go_roundw
          case rel => exact ⟨j + 1, by omega, by go_num, hp, hk⟩
          case measure => simp [intOf]; omega
        · obtain rfl : j = 16 := by omega
          have hBr : Below w.heap.size w wr := hB6.trans (hk.below (by omega) (Nat.le_refl _))
          have hsr := hBr.size
          have C7 := C6.kept hk (by omega)
          obtain ⟨hg1, hg2, _, _⟩ := C6.facts
          have q27 := q2'.keptC hk (by omega)
          have q37 := q3'.keptC hk (by omega)
          have q57 := q5'.keptC hk (by omega)
          obtain ⟨t1, t2⟩ := take_read xs0
          have T := takeC_any (i : Int) C7 (by omega) (by omega)
          rw [HL.out] at t1 t2
          rw [List.drop_zero, t1, t2] at T
          clear t1 t2 hp
          go_wp2_with fail
          refine T.mono ?_
          rintro e w8 ⟨r8, rfl, q8, C8, k8⟩
          have hB8 : Below w.heap.size w w8 := hBr.trans (k8.below (by omega) (by omega))
          have hs8 := hB8.size
          have q28 := q25.older q27 k8 hg1
          have q38 := q35.older q37 k8 hg1
          have q58 := q5.older q57 k8 hg1
          have A8 := A0.later hB8
          obtain ⟨D2, d2⟩ := q28.cut (m := i) (by rw [L2.out]; omega)
          obtain ⟨D3, d3⟩ := q38.cut (m := i) (by rw [L3.out]; omega)
          obtain ⟨D5, d5⟩ := q58.cut (m := i) (by rw [L5.out]; omega)
          rw [T2.out] at D2
          rw [T3.out] at D3
          rw [T5.out] at D5
          have d2I : (i : Int) ≤ (c2 : Int) := by omega
          have d3I : (i : Int) ≤ (c3 : Int) := by omega
          have d5I : (i : Int) ≤ (c5 : Int) := by omega
          have hi0 : (0 : Int) ≤ (i : Int) := by omega
          have h00 : ((0 : Int) == 0) = true := by decide
          obtain ⟨_, _, E8, _, F8, _⟩ := q8.slice
          have S1 := sameB_any (show ArgB w8 r8 _ _ _ from E8 ▸ F8) A8
          have S2 := sameB_any D2 A8
          have S3 := sameB_any D3 A8
          have S5 := sameB_any D5 A8
          rw [decide_eq_true rfl] at S1 S2 S3 S5
          clear T C7 C8 k8 q27 q37 q57 q28 q38 q58 D2 D3 D5 q8 E8 F8 q2' q3' q5' q25 q35 q5
          go_wp2_with fail
          refine S1.mono ?_
          rintro e w9 ⟨rfl, rfl⟩
          clear S1
          go_wp2_with fail
          refine S2.mono ?_
          rintro e w9 ⟨rfl, rfl⟩
          clear S2
          go_wp2_with fail
          refine S3.mono ?_
          rintro e w9 ⟨rfl, rfl⟩
          clear S3
          go_wp2_with fail
          refine S5.mono ?_
          rintro e w9 ⟨rfl, rfl⟩
          clear S5
          go_wp2_with fail
          refine (known5_any _).mono ?_
          rintro e w10 ⟨rfl, hb10⟩
          go_wp2_with fail
          go_ret
          exact ⟨rfl, hB8.trans (hb10.mono hs8)⟩

namespace wireOwn
open Go.ChangeShapes Go.WideShapes Go.ChangeAt
theorem contract (H : Type) (enc : TypeId × Value → H) (W : World) (base : Nat) (args : Array Value) (ds gs : List (DataW H)) (before : List MemPlace)
    (hval : ∀ (j : Nat) t v, Try.f8.params[j]? = some t → args[j]? = some v → Value.okWide Try.prog W .any base t v)
    (hW : DataW.Whole enc Try.prog Try.f8.params.toList Rows.wireOwnSpec.vars false W args.toList ds gs before) (hsz0 : (DataW.weightsEach Try.prog (Try.f8.params.toList ++ Rows.wireOwnSpec.plain.varTypes Try.prog) (ds ++ gs)).all (· ≤ reachBytes) = true) :
    Calls Try.prog 8 args W fun e W' => ∃ v, e = .returned v ∧ Rows.wireOwnSpec.post enc Try.prog Try.f8 false true false false W args v W' := by
  have hW' := hW
  have hlt := fun p hp => hW'.lt p hp
  have hsz : (DataW.weightsEach Try.prog (Try.f8.params.toList ++ []) (ds ++ gs)).all (· ≤ reachBytes) = true := hsz0
  obtain ⟨p, q, hA0, hV, rfl, hfz, hnd⟩ := hW
  have hA : DataW.TrodAll enc Try.prog W 0 (fun _ => true) true Try.f8.params.toList args.toList ds p := hA0
  rw [Try.params8] at hA hval hsz
  obtain ⟨v0, vs0, d0, ds0, p0, q0, ha0, rfl, rfl, h0, r0⟩ := trodAll_cons hA
  obtain ⟨rfl, rfl, rfl⟩ := trodAll_nil r0
  obtain rfl : args = #[v0] := by cases args; simp_all
  obtain ⟨rfl, rfl⟩ := trodVars_none hV
  clear hA hA0 hV
  simp only [List.append_nil] at hW' hlt hsz
  (try simp only [List.nil_append] at hW' hlt hsz)
  obtain ⟨a0, xs0, ca0, A0, l0, n0⟩ := open_bytesW (okWide_slice Try.underlying22 (hval 0 22 v0 rfl rfl)) h0 (reach_bytes hsz (j := 0) rfl rfl)
  have e0 := A0.is
  subst e0
  refine (wireOwn_walk xs0 a0 ca0 W A0 l0 n0).mono fun e W' ⟨he, hb⟩ => ?_
  subst he
  have t0 := Below.trod laid (by kernel_rfl) (of_decide_eq_true (by kernel_rfl)) h0 hb (fun x hx => hlt x (by simp [hx]))
  exact ⟨_, rfl, [d0], [], p0, [], (p0 ++ []), [], hW', trodAll_cons_mk (shut_bool Try.underlying4 _) trodAll_mk0,
    (trodAll_cons_mk t0 trodAll_mk0), rfl, hb.frame _, fun h => by cases h⟩

set_option maxRecDepth 100000 in
theorem lifted (os : Os) (started : os.Started) (H : Type) (enc : TypeId × Value → H) :
    ReturnsInHanded {} Try.checked os 8 .any (Rows.wireOwnSpec.pre6 enc Try.prog Try.f8 Rows.wireOwnRow.domain false) (Rows.wireOwnSpec.post enc Try.prog Try.f8 false true false false) := by
  refine returnsInHanded_of_change_sized (C := Try.checked) own started (by kernel_rfl) Try.func8
    (ChangeSpec.witness6 (enc := enc) (C := Try.checked) false ⟨#[], #[.slice none 0 0], []⟩ 8 (by kernel_rfl) (by kernel_rfl) (by kernel_rfl) (by kernel_rfl)) ?_
  intro W base args ds gs before hval hW _ hsz0 _
  exact contract H enc W base args ds gs before hval hW hsz0

theorem proved : Rows.WireOwnSaid :=
  OpenClaim.holds_of_wide 8 Try.f8 rfl rfl rfl rfl rfl rfl rfl ⟨rfl, rfl, rfl, rfl, rfl⟩ rfl rfl rfl rfl rfl (by kernel_rfl) Try.func8 (by kernel_rfl)
    (of_decide_eq_true (by kernel_rfl)) (by unfold Func.isWrapper; first | (rw [if_pos (by decide +kernel)]; kernel_rfl) | (rw [if_neg (by decide +kernel)]; exact ⟨rfl, rfl⟩))
    (fun os started H enc _ => lifted os started H enc)
end wireOwn
end Go.Proofs.Ytgjoiacgdgbcjaa
