/-
  WireBack.
-/
import Derived.Test.YtgjoiacgdgbcjaaWOpen
namespace Go.Proofs.Ytgjoiacgdgbcjaa
open Go.RowKit
set_option linter.unusedVariables false
set_option linter.unusedSimpArgs false

set_option maxRecDepth 100000 in
set_option maxHeartbeats 8000000 in
theorem wireBack_walk (N : Nat) (k : Int) (xs2 : List Int) (a2 : Option Addr) (ca2 : Nat) (xs3 : List Int) (a3 : Option Addr) (ca3 : Nat) (w : World) (hN : N < 18446744073709551616) (hk0 : -9223372036854775808 ≤ k) (hk1 : k ≤ 9223372036854775807)
    (A2 : ArgB w (.slice a2 xs2.length ca2) xs2 a2 ca2) (l2 : xs2.length ≤ 1048576) (n2 : a2 = none → ca2 = 0) (A3 : ArgB w (.slice a3 xs3.length ca3) xs3 a3 ca3) (l3 : xs3.length ≤ 1048576) (n3 : a3 = none → ca3 = 0) :
    Calls Try.prog 4 #[.int .u64 (N : Int), .int .i64 k, .slice a2 xs2.length ca2, .slice a3 xs3.length ca3] w fun e w' => e = .returned (.bool true) ∧ Below w.heap.size w w' := by
  obtain ⟨z, hz⟩ : ∃ z : Nat, zig k = (z : Int) := ⟨(zig k).toNat, by have := zig_range hk0 hk1; omega⟩
  have hz1 : z < 18446744073709551616 := by have := zig_range hk0 hk1; omega
  have hzk : zag (z : Int) = k := by rw [← hz, zag_zig']
  have e10 := encN_ten hN
  have e11 := encN_ten hz1
  have e12 := encN_ten (show xs2.length < 18446744073709551616 by omega)
  obtain ⟨L, hL⟩ : ∃ L, encN N ++ (encN z ++ (encN xs2.length ++ (xs2 ++ xs3))) = L := ⟨_, rfl⟩
  have hlen : L.length = (encN N).length + (encN z).length + (encN xs2.length).length + xs2.length + xs3.length := by rw [← hL]; simp only [List.length_append]; omega
  have d0 : L.drop 0 = encN N ++ (encN z ++ (encN xs2.length ++ (xs2 ++ xs3))) := by rw [List.drop_zero, hL]
  have d1 : L.drop (0 + (encN N).length) = encN z ++ (encN xs2.length ++ (xs2 ++ xs3)) := drop_app d0
  have d2 : L.drop (0 + (encN N).length + (encN z).length) = encN xs2.length ++ (xs2 ++ xs3) := drop_app d1
  have d3 : L.drop (0 + (encN N).length + (encN z).length + (encN xs2.length).length + xs2.length) = xs3 := drop_app (drop_app d2)
  obtain ⟨x1, x2, x3⟩ := enc_read hN (encN z ++ (encN xs2.length ++ (xs2 ++ xs3)))
  obtain ⟨y1, y2, y3⟩ := enc_read hz1 (encN xs2.length ++ (xs2 ++ xs3))
  obtain ⟨z1, z2, z3⟩ := blk_read xs2 xs3 (by omega)
  obtain ⟨t1, t2⟩ := take_read xs3
  rw [← d0] at x1 x2 x3
  rw [← d1] at y1 y2 y3
  rw [← d2] at z1 z2 z3
  rw [← d3] at t1 t2
  have x3' := x3 0
  have y3' := y3 (0 + (encN N).length)
  have z3' := z3 (0 + (encN N).length + (encN z).length)
  generalize hp1 : 0 + (encN N).length = p1 at *
  generalize hp2 : p1 + (encN z).length = p2 at *
  generalize hp3 : p2 + (encN xs2.length).length + xs2.length = p3 at *
  have hLp : L.length = p3 + xs3.length := by omega
  rw [d3] at t1
  rw [d3] at t2
  have HL := Lib.hid hL
  have HLP := Lib.hid hLp
  have HD3 := Lib.hid d3
  have hl4 : L.length ≤ 4194304 := by omega
  have HX := Lib.hid (And.intro x1 (And.intro x2 x3'))
  have HY := Lib.hid (And.intro y1 (And.intro y2 y3'))
  have HZ := Lib.hid (And.intro z1 (And.intro z2 z3'))
  have HT := Lib.hid (And.intro t1 t2)
  have HP := Lib.hid (And.intro hp1 (And.intro hp2 hp3))
  have HZK := Lib.hid hzk
  have HZE := Lib.hid hz
  have hp20 : p2 ≤ 20 := by omega
  clear x1 x2 x3 x3' y1 y2 y3 y3' z1 z2 z3 z3' t1 t2 d0 d1 d2 d3 hL hlen hp1 hp2 hp3 hzk hz hLp
  go_enter Try.func4, Try.ntmps4
  go_wp2_with fail
  refine (putU_any (N : Int) (nil_argB _) (fun _ => rfl) (by simp) (by omega) (by omega)).mono ?_
  rintro e w1 ⟨r1, rfl, q1, hb1⟩
  rw [Int.toNat_natCast, List.nil_append] at q1
  have hs1 := hb1.size
  obtain ⟨b1, c1, rfl, q1', B1, m1⟩ := q1.slice
  clear q1
  go_wp2_with fail
  refine (putZ_any k B1 m1 (by omega) hk0 hk1).mono ?_
  rintro e w2 ⟨r2, rfl, q2, hb2⟩
  rw [HZE.out, Int.toNat_natCast] at q2
  have hB2 : Below w.heap.size w w2 := hb1.trans (hb2.mono hs1)
  have hs2 := hB2.size
  have hl2 : (encN N ++ encN z).length ≤ 20 := by rw [List.length_append]; omega
  obtain ⟨m2l, hm2l⟩ : ∃ l, encN N ++ encN z = l := ⟨_, rfl⟩
  rw [hm2l] at q2 hl2
  have HM2 := Lib.hid hm2l
  obtain ⟨b2, c2, rfl, q2', B2, m2⟩ := q2.slice
  have A2' := A2.later hB2
  clear q2 hm2l
  go_wp2_with fail
  refine (putB_any B2 m2 A2' n2 (by omega)).mono ?_
  rintro e w3 ⟨r3, rfl, q3, hb3⟩
  have hB3 : Below w.heap.size w w3 := hB2.trans (hb3.mono hs2)
  have hs3 := hB3.size
  have A3' := A3.later hB3
  obtain ⟨m3l, hm3l⟩ : ∃ l, m2l ++ (encN xs2.length ++ xs2) = l := ⟨_, rfl⟩
  rw [hm3l] at q3
  have hl3 : m3l.length = p3 := by
    obtain ⟨h1, h2, h3⟩ := HP.out
    rw [← hm3l, ← HM2.out]
    simp only [List.length_append]; omega
  have hjoin : m3l ++ xs3 = L := by rw [← hm3l, ← HM2.out, ← HL.out]; simp only [List.append_assoc]
  have HL3 := Lib.hid hl3
  have HJ := Lib.hid hjoin
  obtain ⟨b3, c3, rfl, q3', B3, m3⟩ := q3.slice
  rw [hl3] at q3' B3 ⊢
  have hp3b : p3 ≤ 4194304 := by have := HLP.out; omega
  have hx3 := hb3.size
  clear q3 hm3l hl3 hjoin
  go_wp2_with (at_builtin; refine step_joinB (by first | exact wanted_none rfl _ | rfl) _ _ rfl rfl rfl q3' A3' n3 (by have := HL3.out; omega) (by omega) ?_; intro r4 w4 q4 hb4; rw [HJ.out] at q4; obtain ⟨b4, c4, rfl, q4', B4, m4⟩ := q4.slice)
  have hB4 : Below w.heap.size w w4 := hB3.trans (hb4.mono (by omega))
  have hs4 := hB4.size
  refine (newC_any B4 m4 (by omega)).mono ?_
  rintro e w5 ⟨g, rfl, C5, hb5⟩
  obtain ⟨hg1, hg2, _, _⟩ := C5.facts
  have hB5 : Below w.heap.size w w5 := hB4.trans (hb5.mono hs4)
  have hs5 := hB5.size
  have hgw : w.heap.size ≤ g := by omega
  clear q4 q4' B4 hb4 hb5
  go_wp2_with fail
  have U := uvarC_any C5
  rw [HX.out.1, HX.out.2.1, HX.out.2.2] at U
  refine U.mono ?_
  rintro e w6 ⟨rfl, C6, k6⟩
  have hB6 : Below w.heap.size w w6 := hB5.trans (k6.below hs5 hgw)
  have hs6 := hB6.size
  clear U C5 k6
  go_wp2_with fail
  have U := zigC_any C6
  rw [HY.out.1, HY.out.2.1, HY.out.2.2, HZK.out] at U
  refine U.mono ?_
  rintro e w7 ⟨rfl, C7, k7⟩
  have hB7 : Below w.heap.size w w7 := hB6.trans (k7.below hs6 hgw)
  have hs7 := hB7.size
  clear U C6 k7
  go_wp2_with fail
  have U := blockC_any (xs2.length : Int) C7 (by omega) (by omega)
  rw [HZ.out.1, HZ.out.2.1, HZ.out.2.2] at U
  refine U.mono ?_
  rintro e w8 ⟨r8, rfl, q8, C8, k8⟩
  have hB8 : Below w.heap.size w w8 := hB7.trans (k8.below hs7 hgw)
  have hs8 := hB8.size
  obtain ⟨b8, c8, rfl, q8', B8, m8⟩ := q8.slice
  clear U C7 k8 q8
  have h00 : ((0 : Int) != 0) = false := by decide
  have hNN : ((N : Int) != (N : Int)) = false := by simp
  have hkk : (k != k) = false := by simp
  have S := sameB_any B8 (A2.later hB8)
  rw [decide_eq_true rfl] at S
  go_wp2_with fail
  refine S.mono ?_
  rintro e w9 ⟨rfl, rfl⟩
  have U := leftC_any C8
  have hleft : ((L.length : Int) - (p3 : Nat)) = (xs3.length : Int) := by rw [HLP.out]; omega
  rw [hleft] at U
  have hRR : ((xs3.length : Int) != (xs3.length : Int)) = false := by simp
  clear S hleft
  go_wp2_with fail
  refine U.mono ?_
  rintro e w10 ⟨rfl, hb10⟩
  have C10 := C8.later hb10
  have hB10 : Below w.heap.size w w10 := hB8.trans (hb10.mono hs8)
  have hs10 := hB10.size
  clear U C8
  have U := endC_any C10
  rw [HLP.out] at U
  generalize hR : xs3.length = R at *
  have HR := Lib.hid hR
  clear hR
  have hcond : ((if p3 < p3 + R then (5 : Int) else 0) == 0) = ((R : Int) == 0) := by
    by_cases h : R = 0
    · subst h; rw [if_neg (by omega)]; rfl
    · rw [if_pos (by omega)]
      have : ((R : Int) == 0) = false := by rw [beq_eq_false_iff_ne]; omega
      rw [this]; rfl
  obtain ⟨ec, hec⟩ : ∃ ec : Int, (if p3 < p3 + R then (5 : Int) else 0) = ec := ⟨_, rfl⟩
  rw [hec] at U hcond
  obtain ⟨rb, hrb⟩ : ∃ rb, ((R : Int) == 0) = rb := ⟨_, rfl⟩
  rw [hrb] at hcond
  clear hec
  have hbb : (rb != rb) = false := by simp
  go_wp2_with fail
  refine U.mono ?_
  rintro e w11 ⟨rfl, hb11⟩
  have C11 := C10.later hb11
  have hB11 : Below w.heap.size w w11 := hB10.trans (hb11.mono hs10)
  have hs11 := hB11.size
  clear U C10
  have T := takeC_any (R : Int) C11 (by omega) (by omega)
  rw [HD3.out, HT.out.1, HT.out.2, HR.out] at T
  go_wp2_with fail
  refine T.mono ?_
  rintro e w12 ⟨r12, rfl, q12, C12, k12⟩
  have hB12 : Below w.heap.size w w12 := hB11.trans (k12.below hs11 hgw)
  have hs12 := hB12.size
  obtain ⟨b12, c12, rfl, q12', B12, m12⟩ := q12.slice
  rw [HR.out] at B12 ⊢
  clear T C11 k12 q12
  have S := sameB_any B12 (A3.later hB12)
  rw [decide_eq_true rfl] at S
  have h0e : ((0 : Int) == 0) = true := by decide
  go_wp2_with fail
  refine S.mono ?_
  rintro e w13 ⟨rfl, rfl⟩
  have U := endC_any C12
  rw [HLP.out, if_neg (by omega)] at U
  clear S
  go_wp2_with fail
  refine U.mono ?_
  rintro e w14 ⟨rfl, hb14⟩
  have C14 := C12.later hb14
  have hB14 : Below w.heap.size w w14 := hB12.trans (hb14.mono hs12)
  have hs14 := hB14.size
  clear U C12
  have U := atC_any C14
  have hwr : IntKind.i64.wrap ((p3 : Int) + (R : Int)) = (p3 : Int) + (R : Int) := IntWalk.i64_in _ (by omega)
  have heq : ((((p3 + R : Nat)) : Int) == (p3 : Int) + (R : Int)) = true := by simp
  go_wp2_with fail
  refine U.mono ?_
  rintro e w15 ⟨rfl, hb15⟩
  have hB15 : Below w.heap.size w w15 := hB14.trans (hb15.mono hs14)
  have hs15 := hB15.size
  clear U C14
  go_wp2_with fail
  refine (known5_any _).mono ?_
  rintro e w16 ⟨rfl, hb16⟩
  go_wp2_with fail
  go_ret
  exact ⟨rfl, hB15.trans (hb16.mono hs15)⟩

namespace wireBack
open Go.ChangeShapes Go.WideShapes Go.ChangeAt
theorem contract (H : Type) (enc : TypeId × Value → H) (W : World) (base : Nat) (args : Array Value) (ds gs : List (DataW H)) (before : List MemPlace)
    (hval : ∀ (j : Nat) t v, Try.f4.params[j]? = some t → args[j]? = some v → Value.okWide Try.prog W .any base t v)
    (hW : DataW.Whole enc Try.prog Try.f4.params.toList Rows.wireBackSpec.vars false W args.toList ds gs before) (hk : Rows.uptoSmall H (ds ++ gs) = true) :
    Calls Try.prog 4 args W fun e W' => ∃ v, e = .returned v ∧ Rows.wireBackSpec.post enc Try.prog Try.f4 false true false false W args v W' := by
  have hW' := hW
  have hlt := fun p hp => hW'.lt p hp
  obtain ⟨p, q, hA0, hV, rfl, hfz, hnd⟩ := hW
  have hA : DataW.TrodAll enc Try.prog W 0 (fun _ => true) true Try.f4.params.toList args.toList ds p := hA0
  rw [Try.params4] at hA hval
  obtain ⟨v0, vs0, d0, ds0, p0, q0, ha0, rfl, rfl, h0, r0⟩ := trodAll_cons hA
  obtain ⟨v1, vs1, d1, ds1, p1, q1, ha1, rfl, rfl, h1, r1⟩ := trodAll_cons r0
  obtain ⟨v2, vs2, d2, ds2, p2, q2, ha2, rfl, rfl, h2, r2⟩ := trodAll_cons r1
  obtain ⟨v3, vs3, d3, ds3, p3, q3, ha3, rfl, rfl, h3, r3⟩ := trodAll_cons r2
  obtain ⟨rfl, rfl, rfl⟩ := trodAll_nil r3
  subst ha1
  subst ha2
  subst ha3
  obtain rfl : args = #[v0, v1, v2, v3] := by cases args; simp_all
  obtain ⟨rfl, rfl⟩ := trodVars_none hV
  clear hA hA0 hV
  obtain ⟨i0, rfl, rfl, rfl, w0⟩ := open_int Try.underlying23 (hval 0 23 v0 rfl rfl) h0
  obtain ⟨i1, rfl, rfl, rfl, w1⟩ := open_int Try.underlying2 (hval 1 2 v1 rfl rfl) h1
  simp only [List.append_nil] at hW' hlt hk
  (try simp only [List.nil_append] at hW' hlt hk)
  obtain ⟨a2, xs2, ca2, A2, l2, n2⟩ := open_bytes (okWide_slice Try.underlying22 (hval 2 22 v2 rfl rfl)) h2 (bulk_in (d := d2) (by simp) hk)
  have e2 := A2.is
  subst e2
  obtain ⟨a3, xs3, ca3, A3, l3, n3⟩ := open_bytes (okWide_slice Try.underlying22 (hval 3 22 v3 rfl rfl)) h3 (bulk_in (d := d3) (by simp) hk)
  have e3 := A3.is
  subst e3
  obtain ⟨N0, rfl⟩ : ∃ N : Nat, i0 = (N : Int) := ⟨i0.toNat, by have := wf_v64 w0; omega⟩
  refine (wireBack_walk N0 i1 xs2 a2 ca2 xs3 a3 ca3 W (by have := wf_v64 w0; omega) (wf_w64 w1).1 (wf_w64 w1).2 A2 l2 n2 A3 l3 n3).mono fun e W' ⟨he, hb⟩ => ?_
  subst he
  have t2 := Below.trod laid (by kernel_rfl) (of_decide_eq_true (by kernel_rfl)) h2 hb (fun x hx => hlt x (by simp [hx]))
  have t3 := Below.trod laid (by kernel_rfl) (of_decide_eq_true (by kernel_rfl)) h3 hb (fun x hx => hlt x (by simp [hx]))
  exact ⟨_, rfl, [.lit (.int .u64 (N0 : Int)), .lit (.int .i64 i1), d2, d3], [], (p2 ++ p3), [], ([] ++ ([] ++ (p2 ++ (p3 ++ [])))), [], hW', trodAll_cons_mk (shut_bool Try.underlying4 _) trodAll_mk0,
    (trodAll_cons_mk (shut_int Try.underlying23 w0) (trodAll_cons_mk (shut_int Try.underlying2 w1) (trodAll_cons_mk t2 (trodAll_cons_mk t3 trodAll_mk0)))), rfl, hb.frame _, fun h => by cases h⟩

set_option maxRecDepth 100000 in
theorem lifted (os : Os) (started : os.Started) (H : Type) (enc : TypeId × Value → H) (F : Stop.Interp) :
    ReturnsInHanded {} Try.checked os 4 .any ((Rows.OpenSpec.upto Rows.wireBackSpec).pre6 enc Try.prog Try.f4 Rows.wireBackUptoRow.domain false) (((Rows.OpenSpec.upto Rows.wireBackSpec).at F).post enc Try.prog Try.f4 false true false false) := by
  refine returnsInHanded_of_cond (C := Try.checked) (s := Rows.OpenSpec.upto Rows.wireBackSpec) (k := Rows.uptoSmall) rfl own started (by kernel_rfl) Try.func4
    (OpenSpec.witness (enc := enc) (C := Try.checked) (s := Rows.OpenSpec.upto Rows.wireBackSpec) (k := Rows.uptoSmall) rfl false ⟨#[], #[.int .u64 0, .int .i64 0, .slice none 0 0, .slice none 0 0], []⟩ 8 (by kernel_rfl) (by kernel_rfl) (by kernel_rfl)
      (x := ([.lit (.int .u64 0), .lit (.int .i64 0), .nil, .nil], [], [])) (by kernel_rfl) rfl (by kernel_rfl)) ?_
  intro W base args ds gs before hval hW _ hk _
  exact contract H enc W base args ds gs before hval hW hk

theorem proved : Rows.WireBackUptoSaid :=
  OpenClaim.holds_of_cond 4 Try.f4 rfl rfl rfl rfl rfl rfl rfl ⟨rfl, rfl, rfl, rfl, rfl⟩ rfl rfl rfl rfl rfl (by kernel_rfl) Try.func4 (by kernel_rfl)
    (of_decide_eq_true (by kernel_rfl)) (by unfold Func.isWrapper; first | (rw [if_pos (by decide +kernel)]; kernel_rfl) | (rw [if_neg (by decide +kernel)]; exact ⟨rfl, rfl⟩))
    (fun os started H enc _ F => lifted os started H enc F)
end wireBack
end Go.Proofs.Ytgjoiacgdgbcjaa
