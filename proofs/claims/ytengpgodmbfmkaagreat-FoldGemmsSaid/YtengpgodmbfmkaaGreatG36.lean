/-
  Part 36 of 39: contracts and what they rest on (FKnow0, FKnown, FLaw).
-/
import Derived.Test.YtengpgodmbfmkaaGreatG33
import Derived.Test.YtengpgodmbfmkaaGreatG34
namespace Go.Proofs.YtengpgodmbfmkaaGreat
set_option linter.unusedVariables false
set_option linter.unusedSimpArgs false
set_option maxRecDepth 100000
set_option maxHeartbeats 40000000
section
open Go.RowKit
theorem Row.argS10 {w : World} {g : Nat} {cs : Array Value} (R : Row w g 3 cs) (xs : List Int) (hc : cs = (xs.map (Value.int .i64)).toArray) (hw : Wid xs) : ArgS w (.slice (some ⟨g, 0, none⟩) xs.length xs.length) xs (some ⟨g, 0, none⟩) xs.length := by
 refine ⟨rfl, .inr ⟨g, 0, rfl, fun i hi => ?_⟩, Nat.le_refl _, hw⟩
 rw [Nat.zero_add, R.cell i, hc]
 simp [hi]
theorem wid10 {xs : List Int} (h : xs.all (fun x => decide (-1000 ≤ x) && decide (x ≤ 1000)) = true) : Wid xs := fun x hx => by
 have := List.all_eq_true.1 h x hx
 simp at this
 omega
theorem some_not10 {a : Addr} {c : Nat} : (some a = none → c = 0) := fun h => by cases h
theorem nil_arg10 (w : World) : ArgS w (.slice none 0 0) [] none 0 := ⟨rfl, .inl rfl, Nat.le_refl _, fun x hx => by cases hx⟩
theorem back10 {n : Nat} {w : World} {v : Value} {s : List Int} {L : List Rat} (T : TenR w v s L n) (hs : s.length ≤ 17592186044416) (hq : L.length ≤ 1000000000) (hn : n ≤ 1000000000) :
 Calls Tryz.prog 38 #[v] w fun e w' => ∃ (a b : Option Addr) (ca cb : Nat), e = .returned (.agg #[.slice a s.length ca, .slice b L.length cb]) ∧ ResT w.heap.size w' (.agg #[.slice a s.length ca, .slice b L.length cb]) s L n ∧ Below w.heap.size w w' := by
 obtain ⟨a, ca, b, cb, T⟩ := T
 exact (backT_any T hs hq hn).mono fun e w' ⟨a', b', ca', cb', h1, h2, h3, h4⟩ => ⟨a', b', ca', cb', h1, ⟨a', b', ca', cb', rfl, h2, h3⟩, h4⟩
def Go10 (base : Nat) (w' : World) (e : Ending) (s : List Int) (L : List Rat) (N : Nat) : Prop :=
 ∃ (a b : Option Addr) (ca cb : Nat), e = .returned (.tuple #[.agg #[.slice a s.length ca, .slice b L.length cb], .int .i64 0]) ∧ ResT base w' (.agg #[.slice a s.length ca, .slice b L.length cb]) s L N
theorem One.go10 {base N c : Nat} {w : World} {e : Ending} {k : Int} {s : List Int} {L : List Rat} (h : One base w e k s L N) (h0 : k = 0) : Go10 base w e s L N := by
 subst h0
 obtain ⟨r, h1, h2⟩ := h.zero
 obtain ⟨a, b, ca, cb, rfl, _, _⟩ := id h2
 exact ⟨a, b, ca, cb, h1, h2⟩
structure Ok10 (s : List Int) (L : List Rat) : Prop where
 ok : OkS s
 len : L.length = cntF s
theorem Ok10.may {s : List Int} {L : List Rat} {qs : List Q3} (h : Ok10 s L) (hq : qs.map Q3.rat = L) (hok : ∀ q ∈ qs, okQ q = true) : mayT s qs = 0 :=
 mayT_ok (mayC_ok h.ok) (by have h1 := h.len; have h2 := h.ok.cnt; rw [h.ok.count, ← h2.1, ← h1, ← hq]; simp) hok
theorem Ok10.few {s : List Int} {L : List Rat} (h : Ok10 s L) : s.length ≤ 4 ∧ L.length ≤ 1024 := ⟨h.ok.rank, by have h1 := h.len; have h2 := h.ok.cnt; omega⟩
theorem sumK10 {b1 n : Nat} {w : World} {u : Value} {s ys : List Int} {L : List Rat} {d : Option Addr} {cd : Nat} (h1 : ResT b1 w u s L n) (D : ArgS w (.slice d ys.length cd) ys d cd) (nd : d = none → cd = 0) (hy : ys.length ≤ 1000) (hs : Ok10 s L) (hn : n ≤ 15000) (hp : axC ys (s.length : Int) = 0) :
 Calls Tryz.prog 13 #[u, .slice d ys.length cd] w fun e w' => Go10 w.heap.size w' e (dropS s ys) (sumF s ys L) ((n + 10) * 2 ^ 10) ∧ Below w.heap.size w w' := by
 obtain ⟨qs, a, b, ca, cb, T, hq, hl, hok⟩ := h1.tens
 obtain ⟨f1, f2⟩ := hs.few
 have hql : qs.length = L.length := by rw [← hq]; simp
 have h := sumF_any 10 (n := n) T (by omega) hl D nd (by omega) (by omega) (by omega) (by omega) (by omega)
 rw [hs.may hq hok, hp, hq] at h
 exact h.mono fun e w' ⟨h, hb⟩ => ⟨h.go10 (c := 0) rfl, hb⟩
theorem meanK10 {b1 n : Nat} {w : World} {u : Value} {s ys : List Int} {L : List Rat} {d : Option Addr} {cd : Nat} (h1 : ResT b1 w u s L n) (D : ArgS w (.slice d ys.length cd) ys d cd) (nd : d = none → cd = 0) (hy : ys.length ≤ 1000) (hs : Ok10 s L) (hn : n ≤ 800) (hp : axC ys (s.length : Int) = 0) :
 Calls Tryz.prog 14 #[u, .slice d ys.length cd] w fun e w' => Go10 w.heap.size w' e (dropS s ys) (meanF s ys L) (2 * ((n + 10) * 2 ^ 10 + 4 + 2) + 4) ∧ Below w.heap.size w w' := by
 obtain ⟨qs, a, b, ca, cb, T, hq, hl, hok⟩ := h1.tens
 obtain ⟨f1, f2⟩ := hs.few
 have hql : qs.length = L.length := by rw [← hq]; simp
 have h := meanF_any 10 (n := n) T (by omega) hl D nd (by omega) (by omega) (by omega) (by omega) (by omega)
 rw [hs.may hq hok, hp, hq] at h
 exact h.mono fun e w' ⟨h, hb⟩ => ⟨h.go10 (c := 0) rfl, hb⟩
theorem mmK10 {b1 b2 n : Nat} {w : World} {u v : Value} {s t : List Int} {L M : List Rat} (h1 : ResT b1 w u s L n) (h2 : ResT b2 w v t M n) (hs : Ok10 s L) (ht : Ok10 t M) (hn : n ≤ 7000) (hp : mmC s t = 0) :
 Calls Tryz.prog 20 #[u, v] w fun e w' => Go10 w.heap.size w' e (mmS s t) (mmV s t L M) ((2 * n + 4 + 10) * 2 ^ 10) ∧ Below w.heap.size w w' := by
 obtain ⟨q1, a1, c1, ca1, cb1, T1, e1, l1, k1⟩ := h1.tens
 obtain ⟨q2, a2, c2, ca2, cb2, T2, e2, l2, k2⟩ := h2.tens
 obtain ⟨f1, f2⟩ := hs.few
 obtain ⟨f3, f4⟩ := ht.few
 have g1 : q1.length = L.length := by rw [← e1]; simp
 have g2 : q2.length = M.length := by rw [← e2]; simp
 have h := matMul_any 10 (n := n) T1 T2 (by omega) (by omega) l1 l2 (by omega) (by omega) (by omega) (by omega) (by omega)
 rw [hs.may e1 k1, ht.may e2 k2, hp, e1, e2] at h
 exact h.mono fun e w' ⟨h, hb⟩ => ⟨h.go10 (c := 0) rfl, hb⟩
end
section
open Go.RowKit
theorem known10_any (w : World) : Calls Tryz.prog 12 #[] w fun e w' => e = .returned (.bool true) ∧ Below w.heap.size w w' := by
 have O1 := Lib.hid (show Ok10 [2, 3] (([1, 2, 3, 4, 5, 6] : List Int).map intQ) from ⟨mayC_zero.1 (by decide +kernel), by decide +kernel⟩)
 have O2 := Lib.hid (show Ok10 [3, 1] (([1, 0, 2] : List Int).map intQ) from ⟨mayC_zero.1 (by decide +kernel), by decide +kernel⟩)
 have C1 := Lib.hid (show axC ([0] : List Int) (([2, 3] : List Int).length : Int) = 0 by decide +kernel)
 have S1 := Lib.hid (show dropS [2, 3] [0] = [3] by decide +kernel)
 have Q1 := Lib.hid (show sumF [2, 3] [0] (([1, 2, 3, 4, 5, 6] : List Int).map intQ) = (([5, 7, 9] : List Int).map intQ) by decide +kernel)
 have C2 := Lib.hid (show axC ([1] : List Int) (([2, 3] : List Int).length : Int) = 0 by decide +kernel)
 have S2 := Lib.hid (show dropS [2, 3] [1] = [2] by decide +kernel)
 have Q2 := Lib.hid (show sumF [2, 3] [1] (([1, 2, 3, 4, 5, 6] : List Int).map intQ) = (([6, 15] : List Int).map intQ) by decide +kernel)
 have C3 := Lib.hid (show axC ([0, 1] : List Int) (([2, 3] : List Int).length : Int) = 0 by decide +kernel)
 have S3 := Lib.hid (show dropS [2, 3] [0, 1] = [] by decide +kernel)
 have Q3 := Lib.hid (show sumF [2, 3] [0, 1] (([1, 2, 3, 4, 5, 6] : List Int).map intQ) = (([21] : List Int).map intQ) by decide +kernel)
 have C4 := Lib.hid (show axC ([1] : List Int) (([2, 3] : List Int).length : Int) = 0 by decide +kernel)
 have S4 := Lib.hid (show dropS [2, 3] [1] = [2] by decide +kernel)
 have Q4 := Lib.hid (show meanF [2, 3] [1] (([1, 2, 3, 4, 5, 6] : List Int).map intQ) = (([2, 5] : List Int).map intQ) by decide +kernel)
 have C5 := Lib.hid (show mmC [2, 3] [3, 1] = 0 by decide +kernel)
 have S5 := Lib.hid (show mmS [2, 3] [3, 1] = [2, 1] by decide +kernel)
 have Q5 := Lib.hid (show mmV [2, 3] [3, 1] (([1, 2, 3, 4, 5, 6] : List Int).map intQ) (([1, 0, 2] : List Int).map intQ) = (([7, 16] : List Int).map intQ) by decide +kernel)
 have A0 : Below w.heap.size w ((w.alloc (.cells #[.int .i64 2, .int .i64 3] 3)).alloc (.cells #[.int .i64 1, .int .i64 2, .int .i64 3, .int .i64 4, .int .i64 5, .int .i64 6] 3)) := ((Below.refl _ _).alloc (by simp) _).alloc (by simp) _
 have L1 : ArgS ((w.alloc (.cells #[.int .i64 2, .int .i64 3] 3)).alloc (.cells #[.int .i64 1, .int .i64 2, .int .i64 3, .int .i64 4, .int .i64 5, .int .i64 6] 3)) (.slice (some ⟨w.heap.size, 0, none⟩) 2 2) [2, 3] (some ⟨w.heap.size, 0, none⟩) 2 := Row.argS10 ((Row.new w 3 #[.int .i64 2, .int .i64 3]).alloc _) [2, 3] rfl (wid10 (by decide))
 have L2 : ArgS ((w.alloc (.cells #[.int .i64 2, .int .i64 3] 3)).alloc (.cells #[.int .i64 1, .int .i64 2, .int .i64 3, .int .i64 4, .int .i64 5, .int .i64 6] 3)) (.slice (some ⟨w.heap.size + 1, 0, none⟩) 6 6) [1, 2, 3, 4, 5, 6] (some ⟨w.heap.size + 1, 0, none⟩) 6 := by
  have h := Row.new (w.alloc (.cells #[.int .i64 2, .int .i64 3] 3)) 3 #[.int .i64 1, .int .i64 2, .int .i64 3, .int .i64 4, .int .i64 5, .int .i64 6]
  simp only [World.size_alloc] at h
  exact Row.argS10 h [1, 2, 3, 4, 5, 6] rfl (wid10 (by decide))
 go_enter Tryz.func12, Tryz.ntmps12
 go_wp2_with fail
 refine (of10_any L1 some_not10 L2 (by decide) (by decide)).mono ?_
 rintro e w0 ⟨r0, rfl, rt0, hb0⟩
 have A1 : Below w.heap.size w w0 := A0.trans (hb0.mono A0.size)
 have hbk := back10 rt0 (by decide) (by decide) (by decide)
 clear A0 L1 L2 hb0 rt0
 go_wp2_with fail
 refine hbk.mono ?_
 rintro e w1 ⟨xa, xb, xca, xcb, rfl, rt, hb1⟩
 have B1 : Below w.heap.size w w1 := A1.trans (hb1.mono A1.size)
 have X1 := Lib.hid rt
 clear hb1 rt hbk A1
 obtain ⟨V, hV⟩ : ∃ V, w1.alloc (.cells #[.slice xa 2 xca, .slice xb 6 xcb] 26) = V := ⟨_, rfl⟩
 have b1V : Below w1.heap.size w1 V := by rw [← hV]; exact (Below.refl _ _).alloc (Nat.le_refl _) _
 have R0 : Row V w1.heap.size 26 #[.slice xa 2 xca, .slice xb 6 xcb] := by rw [← hV]; exact Row.new _ _ _
 have BV : Below w.heap.size w V := B1.trans (b1V.mono B1.size)
 have XV := X1.out.later b1V
 have HX := Lib.hid (fun Y (h : Below V.heap.size V Y) => XV.later h)
 have B0 : Below V.heap.size V V := Below.refl _ _
 obtain ⟨x0, x1, _, _⟩ := R0.two
 clear X1 XV b1V
 have U1 : Below V.heap.size V (V.alloc (.cells #[.int .i64 0] 3)) := (Below.refl _ _).alloc (Nat.le_refl _) _
 have D1 : ArgS (V.alloc (.cells #[.int .i64 0] 3)) (.slice (some ⟨V.heap.size, 0, none⟩) 1 1) [0] (some ⟨V.heap.size, 0, none⟩) 1 := Row.argS10 (Row.new V 3 #[.int .i64 0]) [0] rfl (wid10 (by decide))
 go_wp2_with fail
 (try rw [hV])
 (try clear hV)
 refine (sumK10 (HX.out _ (B0.trans (U1.mono B0.size))) D1 some_not10 (by decide) O1.out (by decide) C1.out).mono ?_
 rintro e z1 ⟨hg, hz⟩
 rw [S1.out, Q1.out] at hg
 obtain ⟨ra1, rb1, rca1, rcb1, rfl, T1⟩ := hg
 obtain ⟨V2, hV⟩ : ∃ X, z1.alloc (.cells #[.slice ra1 1 rca1, .slice rb1 3 rcb1] 26) = X := ⟨_, rfl⟩
 have bz : Below z1.heap.size z1 V2 := by rw [← hV]; exact (Below.refl _ _).alloc (Nat.le_refl _) _
 have N1 : Row V2 z1.heap.size 26 #[.slice ra1 1 rca1, .slice rb1 3 rcb1] := by rw [← hV]; exact Row.new _ _ _
 have hzW : Below V.heap.size V z1 := U1.trans (hz.mono U1.size)
 have E1 : Below V.heap.size V V2 := hzW.trans (bz.mono hzW.size)
 have B1 : Below V.heap.size V V2 := B0.trans (E1.mono B0.size)
 have M1 := Lib.hid (T1.later bz)
 clear x0 x1 T1 hz bz hzW U1 D1
 obtain ⟨x0, x1, _, _⟩ := (R0.later B1).two
 have U2 : Below V2.heap.size V2 (V2.alloc (.cells #[.int .i64 1] 3)) := (Below.refl _ _).alloc (Nat.le_refl _) _
 have D2 : ArgS (V2.alloc (.cells #[.int .i64 1] 3)) (.slice (some ⟨V2.heap.size, 0, none⟩) 1 1) [1] (some ⟨V2.heap.size, 0, none⟩) 1 := Row.argS10 (Row.new V2 3 #[.int .i64 1]) [1] rfl (wid10 (by decide))
 go_wp2_with fail
 (try rw [hV])
 (try clear hV)
 refine (sumK10 (HX.out _ (B1.trans (U2.mono B1.size))) D2 some_not10 (by decide) O1.out (by decide) C2.out).mono ?_
 rintro e z2 ⟨hg, hz⟩
 rw [S2.out, Q2.out] at hg
 obtain ⟨ra2, rb2, rca2, rcb2, rfl, T2⟩ := hg
 obtain ⟨V3, hV⟩ : ∃ X, z2.alloc (.cells #[.slice ra2 1 rca2, .slice rb2 2 rcb2] 26) = X := ⟨_, rfl⟩
 have bz : Below z2.heap.size z2 V3 := by rw [← hV]; exact (Below.refl _ _).alloc (Nat.le_refl _) _
 have N2 : Row V3 z2.heap.size 26 #[.slice ra2 1 rca2, .slice rb2 2 rcb2] := by rw [← hV]; exact Row.new _ _ _
 have hzW : Below V2.heap.size V2 z2 := U2.trans (hz.mono U2.size)
 have E2 : Below V2.heap.size V2 V3 := hzW.trans (bz.mono hzW.size)
 have B2 : Below V.heap.size V V3 := B1.trans (E2.mono B1.size)
 have M2 := Lib.hid (T2.later bz)
 replace N1 := N1.later E2
 replace M1 := Lib.hid (M1.out.later E2)
 clear x0 x1 T2 hz bz hzW U2 D2
 obtain ⟨x0, x1, _, _⟩ := (R0.later B2).two
 have U3 : Below V3.heap.size V3 (V3.alloc (.cells #[.int .i64 0, .int .i64 1] 3)) := (Below.refl _ _).alloc (Nat.le_refl _) _
 have D3 : ArgS (V3.alloc (.cells #[.int .i64 0, .int .i64 1] 3)) (.slice (some ⟨V3.heap.size, 0, none⟩) 2 2) [0, 1] (some ⟨V3.heap.size, 0, none⟩) 2 := Row.argS10 (Row.new V3 3 #[.int .i64 0, .int .i64 1]) [0, 1] rfl (wid10 (by decide))
 go_wp2_with fail
 (try rw [hV])
 (try clear hV)
 refine (sumK10 (HX.out _ (B2.trans (U3.mono B2.size))) D3 some_not10 (by decide) O1.out (by decide) C3.out).mono ?_
 rintro e z3 ⟨hg, hz⟩
 rw [S3.out, Q3.out] at hg
 obtain ⟨ra3, rb3, rca3, rcb3, rfl, T3⟩ := hg
 obtain ⟨V4, hV⟩ : ∃ X, z3.alloc (.cells #[.slice ra3 0 rca3, .slice rb3 1 rcb3] 26) = X := ⟨_, rfl⟩
 have bz : Below z3.heap.size z3 V4 := by rw [← hV]; exact (Below.refl _ _).alloc (Nat.le_refl _) _
 have N3 : Row V4 z3.heap.size 26 #[.slice ra3 0 rca3, .slice rb3 1 rcb3] := by rw [← hV]; exact Row.new _ _ _
 have hzW : Below V3.heap.size V3 z3 := U3.trans (hz.mono U3.size)
 have E3 : Below V3.heap.size V3 V4 := hzW.trans (bz.mono hzW.size)
 have B3 : Below V.heap.size V V4 := B2.trans (E3.mono B2.size)
 have M3 := Lib.hid (T3.later bz)
 replace N1 := N1.later E3
 replace M1 := Lib.hid (M1.out.later E3)
 replace N2 := N2.later E3
 replace M2 := Lib.hid (M2.out.later E3)
 clear x0 x1 T3 hz bz hzW U3 D3
 obtain ⟨x0, x1, _, _⟩ := (R0.later B3).two
 have U4 : Below V4.heap.size V4 (V4.alloc (.cells #[.int .i64 1] 3)) := (Below.refl _ _).alloc (Nat.le_refl _) _
 have D4 : ArgS (V4.alloc (.cells #[.int .i64 1] 3)) (.slice (some ⟨V4.heap.size, 0, none⟩) 1 1) [1] (some ⟨V4.heap.size, 0, none⟩) 1 := Row.argS10 (Row.new V4 3 #[.int .i64 1]) [1] rfl (wid10 (by decide))
 go_wp2_with fail
 (try rw [hV])
 (try clear hV)
 refine (meanK10 (HX.out _ (B3.trans (U4.mono B3.size))) D4 some_not10 (by decide) O1.out (by decide) C4.out).mono ?_
 rintro e z4 ⟨hg, hz⟩
 rw [S4.out, Q4.out] at hg
 obtain ⟨ra4, rb4, rca4, rcb4, rfl, T4⟩ := hg
 obtain ⟨V5, hV⟩ : ∃ X, z4.alloc (.cells #[.slice ra4 1 rca4, .slice rb4 2 rcb4] 26) = X := ⟨_, rfl⟩
 have bz : Below z4.heap.size z4 V5 := by rw [← hV]; exact (Below.refl _ _).alloc (Nat.le_refl _) _
 have N4 : Row V5 z4.heap.size 26 #[.slice ra4 1 rca4, .slice rb4 2 rcb4] := by rw [← hV]; exact Row.new _ _ _
 have hzW : Below V4.heap.size V4 z4 := U4.trans (hz.mono U4.size)
 have E4 : Below V4.heap.size V4 V5 := hzW.trans (bz.mono hzW.size)
 have B4 : Below V.heap.size V V5 := B3.trans (E4.mono B3.size)
 have M4 := Lib.hid (T4.later bz)
 replace N1 := N1.later E4
 replace M1 := Lib.hid (M1.out.later E4)
 replace N2 := N2.later E4
 replace M2 := Lib.hid (M2.out.later E4)
 replace N3 := N3.later E4
 replace M3 := Lib.hid (M3.out.later E4)
 clear x0 x1 T4 hz bz hzW U4 D4
 obtain ⟨x0, x1, _, _⟩ := (R0.later B4).two
 go_wp2_with fail
 (try rw [hV])
 (try clear hV)
 have mkX : ∀ X, Below V5.heap.size V5 X → X.cell? ⟨w1.heap.size, 0, none⟩ = some (.slice xa 2 xca) ∧ X.cell? ⟨w1.heap.size, 1, none⟩ = some (.slice xb 6 xcb) := fun X h => by
  obtain ⟨g0, g1, _⟩ := ((R0.later B4).later h).two
  exact ⟨g0, g1⟩
 clear x0 x1
 go_cut [10, 11] (fun s10 s11 wx => ∃ (p5 base5 : Nat) (ra5 rb5 : Option Addr) (rca5 rcb5 : Nat), s10 = .pointer (some ⟨p5, 0, none⟩) ∧ s11 = .int .i64 0 ∧ Row wx p5 26 #[.slice ra5 2 rca5, .slice rb5 2 rcb5] ∧ ResT base5 wx (.agg #[.slice ra5 2 rca5, .slice rb5 2 rcb5]) [2, 1] (([7, 16] : List Int).map intQ) ((2 * 6 + 4 + 10) * 2 ^ 10) ∧ Below V5.heap.size V5 wx)
 case first =>
  refine wp_region_held_drew (S := fun X => X.cell? ⟨w1.heap.size, 0, none⟩ = some (.slice xa 2 xca) ∧ X.cell? ⟨w1.heap.size, 1, none⟩ = some (.slice xb 6 xcb)) (by kernel_rfl) (mkX _ ((Below.refl _ _).drew)) (fun hHeld => ?_)
  obtain ⟨pu, hp⟩ : ∃ Y, V5.drew = Y := ⟨_, rfl⟩
  have bu : Below V5.heap.size V5 pu := by rw [← hp]; exact (Below.refl _ _).drew
  rw [hp] at hHeld ⊢
  clear hp
  refine todo [0] ?_
  iterate 1
   refine todoH (v := ?_) rfl (by kernel_rfl) (fun _ _ _ h => h) (by assumption) (Or.inl ⟨by rfl, ?_⟩) ?_
   rotate_left
   · intro w hSw; (try dsimp only at hSw); go_simp; (try with_reducible rfl)
   try simp only [Act.put, nA, nB, nC, nD, nE, nF]
  refine todone ?_
  have HPu := Lib.hid (fun (X : World) (h : Below pu.heap.size pu X) => (show X.cell? ⟨w1.heap.size, 0, none⟩ = some (.slice xa 2 xca) ∧ X.cell? ⟨w1.heap.size, 1, none⟩ = some (.slice xb 6 xcb) from mkX _ (bu.trans (h.mono bu.size))))
  refine pool_start (fs := [⟨1, 42, 3, #[.int .i64 3, .int .i64 1], fun g => .slice (some ⟨g, 0, none⟩) 2 2⟩, ⟨2, 43, 3, #[.int .i64 1, .int .i64 0, .int .i64 2], fun g => .slice (some ⟨g, 0, none⟩) 3 3⟩, ⟨9, 10, 26, #[.slice none 0 0, .slice none 0 0], fun g => .pointer (some ⟨g, 0, none⟩)⟩]) (us := [undef, undef, undef]) (n := 8) (F := fun _ => True) (by kernel_rfl) (by simp only [putF, Act.put, nA, nB, nC, nD, nE, nF]) rfl trivial ?_
  refine pool_step (α := Value) (fun v => v) (c := 3) (dc := 44) (need := [0, 1]) (F' := fun v X => TenR X v [3, 1] (([1, 0, 2] : List Int).map intQ) 6) rfl ?flu3 (by decide) (by decide) (by decide) (by decide) (by kernel_rfl) HPu.out (fun _ _ _ _ => trivial) ?stu3 ?nxu3
  case flu3 =>
   intro f hf
   simp only [List.mem_cons, List.not_mem_nil, or_false] at hf
   rcases hf with rfl | rfl | rfl
   all_goals exact ⟨fun g g' e => by simpa using e, _, rfl, fun a X K h => by unfold StepH; go_simp; exact h⟩
  case stu3 =>
   intro us X K hus hneed hb _ hK
   obtain ⟨q1, q2, q3, rfl⟩ := len_three10 hus
   simp only [putF, Act.put, nA, nB, nC, nD, nE, nF]
   unfold StepH
   go_simp
   obtain ⟨f0, ga, e0, e1, Ra⟩ := hneed 0 (by simp)
   obtain ⟨f1, gb, e2, e3, Rb⟩ := hneed 1 (by simp)
   obtain rfl := Option.some.inj e0
   obtain rfl := Option.some.inj e2
   obtain rfl := Option.some.inj e1
   obtain rfl := Option.some.inj e3
   refine (of10_any (s := [3, 1]) (xs := [1, 0, 2]) (Row.argS10 (show Row X ga 3 #[.int .i64 3, .int .i64 1] from Ra) [3, 1] rfl (wid10 (by decide))) some_not10 (Row.argS10 (show Row X gb 3 #[.int .i64 1, .int .i64 0, .int .i64 2] from Rb) [1, 0, 2] rfl (wid10 (by decide))) (by decide) (by decide)).mono ?_
   rintro e X' ⟨rq, rfl, tq, hy⟩
   go_simp
   exact hK rq _ hy tq
  rintro v
  (try dsimp only)
  try simp only [Act.put, nA, nB, nC, nD, nE, nF]
  refine pool_step (α := Option Addr × Option Addr × Nat × Nat × Nat) (fun p => .agg #[.slice p.1 2 p.2.2.1, .slice p.2.1 3 p.2.2.2.1]) (c := 4) (dc := 45) (need := []) (F' := fun p X => ResT p.2.2.2.2 X (.agg #[.slice p.1 2 p.2.2.1, .slice p.2.1 3 p.2.2.2.1]) [3, 1] (([1, 0, 2] : List Int).map intQ) 6) rfl ?flu4 (by decide) (by decide) (by decide) (by decide) (by kernel_rfl) HPu.out (fun X Y h hF => TenR.later hF h) ?stu4 ?nxu4
  case flu4 =>
   intro f hf
   simp only [List.mem_cons, List.not_mem_nil, or_false] at hf
   rcases hf with rfl | rfl | rfl
   all_goals exact ⟨fun g g' e => by simpa using e, _, rfl, fun a X K h => by unfold StepH; go_simp; exact h⟩
  case stu4 =>
   intro us X K hus _ hb hF hK
   obtain ⟨q1, q2, q3, rfl⟩ := len_three10 hus
   simp only [putF, Act.put, nA, nB, nC, nD, nE, nF]
   unfold StepH
   go_simp
   refine (back10 hF (by decide) (by decide) (by decide)).mono ?_
   rintro e X' ⟨ya, yb, yca, ycb, rfl, tb, hy⟩
   go_simp
   exact hK (ya, yb, yca, ycb, X.heap.size) _ hy tb
  rintro ⟨ya, yb, yca, ycb, ybs⟩
  (try dsimp only)
  try simp only [Act.put, nA, nB, nC, nD, nE, nF]
  refine pool_step (α := Option Addr × Option Addr × Nat × Nat × Nat) (fun p => .tuple #[.agg #[.slice p.1 2 p.2.2.1, .slice p.2.1 2 p.2.2.2.1], .int .i64 0]) (c := 5) (dc := 46) (need := []) (F' := fun p X => ResT p.2.2.2.2 X (.agg #[.slice p.1 2 p.2.2.1, .slice p.2.1 2 p.2.2.2.1]) [2, 1] (([7, 16] : List Int).map intQ) ((2 * 6 + 4 + 10) * 2 ^ 10)) rfl ?flu5 (by decide) (by decide) (by decide) (by decide) (by kernel_rfl) HPu.out (fun X Y h hF => ResT.later hF h) ?stu5 ?nxu5
  case flu5 =>
   intro f hf
   simp only [List.mem_cons, List.not_mem_nil, or_false] at hf
   rcases hf with rfl | rfl | rfl
   all_goals exact ⟨fun g g' e => by simpa using e, _, rfl, fun a X K h => by unfold StepH; go_simp; exact h⟩
  case stu5 =>
   intro us X K hus _ hb hF hK
   obtain ⟨q1, q2, q3, rfl⟩ := len_three10 hus
   simp only [putF, Act.put, nA, nB, nC, nD, nE, nF]
   unfold StepH
   go_simp
   refine (mmK10 (HX.out _ (B4.trans ((bu.trans (hb.mono bu.size)).mono B4.size))) hF O1.out O2.out (by decide) C5.out).mono ?_
   rintro e X' ⟨hg, hy⟩
   rw [S5.out, Q5.out] at hg
   obtain ⟨ra5, rb5, rca5, rcb5, rfl, T5⟩ := hg
   go_simp
   exact hK (ra5, rb5, rca5, rcb5, X.heap.size) _ hy T5
  rintro ⟨ra5, rb5, rca5, rcb5, bs5⟩
  (try dsimp only)
  try simp only [Act.put, nA, nB, nC, nD, nE, nF]
  refine pool_take (v := ?_) (i := 6) (di := 40) rfl rfl (by decide) (by decide) (by kernel_rfl) (fun _ _ _ h => h) HPu.out (fun us hus => ?_) ?_
  rotate_left
  · obtain ⟨q1, q2, q3, rfl⟩ := len_three10 hus
    simp only [putF, Act.put, nA, nB, nC, nD, nE, nF]
    refine Or.inl ⟨by rfl, ?_⟩
    intro w hSw; (try dsimp only at hSw); go_simp; (try with_reducible rfl)
  try simp only [Act.put, nA, nB, nC, nD, nE, nF]
  refine pool_take (v := ?_) (i := 7) (di := 47) rfl rfl (by decide) (by decide) (by kernel_rfl) (fun _ _ _ h => h) HPu.out (fun us hus => ?_) ?_
  rotate_left
  · obtain ⟨q1, q2, q3, rfl⟩ := len_three10 hus
    simp only [putF, Act.put, nA, nB, nC, nD, nE, nF]
    refine Or.inl ⟨by rfl, ?_⟩
    intro w hSw; (try dsimp only at hSw); go_simp; (try with_reducible rfl)
  try simp only [Act.put, nA, nB, nC, nD, nE, nF]
  refine pool_take (v := ?_) (i := 8) (di := 48) rfl rfl (by decide) (by decide) (by kernel_rfl) (fun _ _ _ h => h) HPu.out (fun us hus => ?_) ?_
  rotate_left
  · obtain ⟨q1, q2, q3, rfl⟩ := len_three10 hus
    simp only [putF, Act.put, nA, nB, nC, nD, nE, nF]
    refine Or.inl ⟨by rfl, ?_⟩
    intro w hSw; (try dsimp only at hSw); go_simp; (try with_reducible rfl)
  try simp only [Act.put, nA, nB, nC, nD, nE, nF]
  refine pool_end ?flue (by decide) (by decide) (by kernel_rfl) HPu.out (fun X Y h hF => ResT.later hF h) ?nxue
  case flue =>
   intro f hf
   simp only [List.mem_cons, List.not_mem_nil, or_false] at hf
   rcases hf with rfl | rfl | rfl
   all_goals exact ⟨fun g g' e => by simpa using e, _, rfl, fun a X K h => by unfold StepH; go_simp; exact h⟩
  intro us xu ok hb hF
  obtain ⟨gu1, gu2, gu3, rfl, ⟨hgu1, Ru1⟩, ⟨hgu2, Ru2⟩, ⟨hgu3, Ru3⟩, neu12, neu13, neu23⟩ := ok.three
  (try dsimp only at Ru1 Ru2 Ru3 hF)
  simp only [putF, Act.put, nA, nB, nC, nD, nE, nF]
  have Bu : Below V5.heap.size V5 xu := bu.trans (hb.mono bu.size)
  have hHeld := HPu.out xu hb
  clear ok
  obtain ⟨d0, d1, d2, d3⟩ := Ru3.two
  refine wpAnyH_ready (rs := [10]) (by kernel_rfl) (by simp) ?_
  refine AllReadyH.cons rfl (fun K hK => ?su1) AllReadyH.nil
  go_simp
  refine afterSet2 Ru3 (fun xu1 ou1 zu1 => ?_)
  clear d0 d1 d2 d3
  have Bu1 : Below V5.heap.size V5 xu1 := Bu.trans (ou1.below (Nat.le_trans bu.size hgu3))
  replace hF := hF.far Ru3 (by decide) (by decide) (by decide) ou1.block
  replace Ru3 := zu1
  refine hK.out _ _ (mkX _ Bu1) (fun hHeld2 => ?_)
  clear hK K hHeld
  have hHeld := hHeld2
  clear hHeld2
  try simp only [Act.put, nA, nB, nC, nD, nE, nF]
  refine wpAnyH_ready (rs := [11]) (by kernel_rfl) (by simp) ?_
  refine AllReadyH.cons rfl (fun K hK => ?sud11) AllReadyH.nil
  go_simp
  refine hK.out _ _ (mkX _ Bu1) (fun hHeld2 => ?_)
  clear hK K hHeld
  have hHeld := hHeld2
  clear hHeld2
  try simp only [Act.put, nA, nB, nC, nD, nE, nF]
  refine wpAnyH_done (by kernel_rfl) ?_ _
  (try dsimp only [Straight])
  go_wp2_with fail
  go_meet
  exact ⟨_, _, _, _, _, _, rfl, rfl, Ru3, hF, Bu1⟩
 case rest =>
  rename World => y
  obtain ⟨p5, base5, ra5, rb5, rca5, rcb5, rfl, rfl, N5, T5, E5⟩ := hcut
  have M5 := Lib.hid T5
  replace N1 := N1.later E5
  replace M1 := Lib.hid (M1.out.later E5)
  replace N2 := N2.later E5
  replace M2 := Lib.hid (M2.out.later E5)
  replace N3 := N3.later E5
  replace M3 := Lib.hid (M3.out.later E5)
  replace N4 := N4.later E5
  replace M4 := Lib.hid (M4.out.later E5)
  have BU : Below w.heap.size w y := (BV.trans (B4.mono BV.size)).trans (E5.mono (Nat.le_trans BV.size B4.size))
  clear T5 R0 HX B0 B1 B2 B3 B4 BV mkX E5 E1 E2 E3 E4
  go_wp2_with fail
  have mkS : ∀ X, Below y.heap.size y X → X.cell? ⟨z1.heap.size, 0, none⟩ = some (.slice ra1 1 rca1) ∧ X.cell? ⟨z1.heap.size, 1, none⟩ = some (.slice rb1 3 rcb1) ∧ X.cell? ⟨z2.heap.size, 0, none⟩ = some (.slice ra2 1 rca2) ∧ X.cell? ⟨z2.heap.size, 1, none⟩ = some (.slice rb2 2 rcb2) ∧ X.cell? ⟨z3.heap.size, 0, none⟩ = some (.slice ra3 0 rca3) ∧ X.cell? ⟨z3.heap.size, 1, none⟩ = some (.slice rb3 1 rcb3) ∧ X.cell? ⟨z4.heap.size, 0, none⟩ = some (.slice ra4 1 rca4) ∧ X.cell? ⟨z4.heap.size, 1, none⟩ = some (.slice rb4 2 rcb4) ∧ X.cell? ⟨p5, 0, none⟩ = some (.slice ra5 2 rca5) ∧ X.cell? ⟨p5, 1, none⟩ = some (.slice rb5 2 rcb5) := fun X h => by
   obtain ⟨g0, g1, _⟩ := (N1.later h).two
   obtain ⟨g2, g3, _⟩ := (N2.later h).two
   obtain ⟨g4, g5, _⟩ := (N3.later h).two
   obtain ⟨g6, g7, _⟩ := (N4.later h).two
   obtain ⟨g8, g9, _⟩ := (N5.later h).two
   exact ⟨g0, g1, g2, g3, g4, g5, g6, g7, g8, g9⟩
  have F0 : Below y.heap.size y y.drew := (Below.refl _ _).drew
  refine wp_region_held_drew (S := fun X => X.cell? ⟨z1.heap.size, 0, none⟩ = some (.slice ra1 1 rca1) ∧ X.cell? ⟨z1.heap.size, 1, none⟩ = some (.slice rb1 3 rcb1) ∧ X.cell? ⟨z2.heap.size, 0, none⟩ = some (.slice ra2 1 rca2) ∧ X.cell? ⟨z2.heap.size, 1, none⟩ = some (.slice rb2 2 rcb2) ∧ X.cell? ⟨z3.heap.size, 0, none⟩ = some (.slice ra3 0 rca3) ∧ X.cell? ⟨z3.heap.size, 1, none⟩ = some (.slice rb3 1 rcb3) ∧ X.cell? ⟨z4.heap.size, 0, none⟩ = some (.slice ra4 1 rca4) ∧ X.cell? ⟨z4.heap.size, 1, none⟩ = some (.slice rb4 2 rcb4) ∧ X.cell? ⟨p5, 0, none⟩ = some (.slice ra5 2 rca5) ∧ X.cell? ⟨p5, 1, none⟩ = some (.slice rb5 2 rcb5)) (by kernel_rfl) (mkS _ F0) (fun hHeld => ?_)
  obtain ⟨v0, hu0⟩ : ∃ Y, y.drew = Y := ⟨_, rfl⟩
  rw [hu0] at F0 hHeld ⊢
  clear hu0
  refine todo [0, 1] ?_
  iterate 2
   refine todoH (v := ?_) rfl (by kernel_rfl) (fun _ _ _ h => h) (by assumption) (Or.inl ⟨by rfl, ?_⟩) ?_
   rotate_left
   · intro w hSw; (try dsimp only at hSw); go_simp; (try with_reducible rfl)
   try simp only [Act.put, nA, nB, nC, nD, nE, nF]
  refine todone ?_
  refine wpAnyH_two (i := 2) (j := 3) (da := 51) (db := 52) (cA := #[.int .i64 3]) (cB := #[.int .i64 5, .int .i64 7, .int .i64 9]) (tA := 3) (tB := 3) (fa := fun g => .slice (some ⟨g, 0, none⟩) 1 1) (fb := fun g => .slice (some ⟨g, 0, none⟩) 3 3) rfl rfl (by decide) (by kernel_rfl) (by kernel_rfl) (by kernel_rfl) (by decide) (fun X h => mkS _ (F0.trans (h.mono F0.size))) ?ha1 ?hb1 ?hc1 ?hd1 ?he1
  case ha1 =>
   intro K hK
   unfold StepH
   go_simp
   exact hK
  case hb1 =>
   intro K hK
   unfold StepH
   go_simp
   exact hK
  case hc1 =>
   intro K hK
   unfold StepH
   go_simp
   exact hK
  case hd1 =>
   intro K hK
   unfold StepH
   go_simp
   exact hK
  rintro v1 ga1 gb1 hb za1 zb1 hHeld
  have F1 : Below y.heap.size y v1 := F0.trans (hb.mono F0.size)
  clear hb
  try simp only [Act.put, nA, nB, nC, nD, nE, nF]
  refine wpAnyH_ready (rs := [4]) (by kernel_rfl) (by simp) ?_
  refine AllReadyH.cons rfl (fun K hK => ?skr4) AllReadyH.nil
  go_simp
  refine (of10_any (s := [3]) (xs := [5, 7, 9]) (Row.argS10 za1 [3] rfl (wid10 (by decide))) some_not10 (Row.argS10 zb1 [5, 7, 9] rfl (wid10 (by decide))) (by decide) (by decide)).mono ?_
  rintro e v2 ⟨rq1, rfl, tq1, hb⟩
  have F2 : Below y.heap.size y v2 := F1.trans (hb.mono F1.size)
  clear hb
  go_simp
  refine hK.out _ _ ?kkr4 (fun hHeld => ?mkr4)
  case kkr4 =>
   try dsimp only
   exact mkS _ F2
  clear hK K
  try simp only [Act.put, nA, nB, nC, nD, nE, nF]
  refine wpAnyH_ready (rs := [5]) (by kernel_rfl) (by simp) ?_
  refine AllReadyH.cons rfl (fun K hK => ?ski5) AllReadyH.nil
  go_simp
  refine (is10_true (M1.out.later F2) tq1 (by decide) (by decide) (by decide) (by decide)).mono ?_
  rintro e v3 ⟨rfl, hb⟩
  have F3 : Below y.heap.size y v3 := F2.trans (hb.mono F2.size)
  clear hb tq1
  go_simp
  refine hK.out _ _ ?kki5 (fun hHeld => ?mki5)
  case kki5 =>
   try dsimp only
   exact mkS _ F3
  clear hK K
  try simp only [Act.put, nA, nB, nC, nD, nE, nF]
  refine todo [6, 7, 8] ?_
  iterate 3
   refine todoH (v := ?_) rfl (by kernel_rfl) (fun _ _ _ h => h) (by assumption) (Or.inl ⟨by rfl, ?_⟩) ?_
   rotate_left
   · intro w hSw; (try dsimp only at hSw); go_simp; (try with_reducible rfl)
   try simp only [Act.put, nA, nB, nC, nD, nE, nF]
  refine todone ?_
  refine wpAnyH_two (i := 9) (j := 10) (da := 58) (db := 59) (cA := #[.int .i64 2]) (cB := #[.int .i64 6, .int .i64 15]) (tA := 3) (tB := 3) (fa := fun g => .slice (some ⟨g, 0, none⟩) 1 1) (fb := fun g => .slice (some ⟨g, 0, none⟩) 2 2) rfl rfl (by decide) (by kernel_rfl) (by kernel_rfl) (by kernel_rfl) (by decide) (fun X h => mkS _ (F3.trans (h.mono F3.size))) ?ha2 ?hb2 ?hc2 ?hd2 ?he2
  case ha2 =>
   intro K hK
   unfold StepH
   go_simp
   exact hK
  case hb2 =>
   intro K hK
   unfold StepH
   go_simp
   exact hK
  case hc2 =>
   intro K hK
   unfold StepH
   go_simp
   exact hK
  case hd2 =>
   intro K hK
   unfold StepH
   go_simp
   exact hK
  rintro v4 ga2 gb2 hb za2 zb2 hHeld
  have F4 : Below y.heap.size y v4 := F3.trans (hb.mono F3.size)
  clear hb
  try simp only [Act.put, nA, nB, nC, nD, nE, nF]
  refine wpAnyH_ready (rs := [11]) (by kernel_rfl) (by simp) ?_
  refine AllReadyH.cons rfl (fun K hK => ?skr11) AllReadyH.nil
  go_simp
  refine (of10_any (s := [2]) (xs := [6, 15]) (Row.argS10 za2 [2] rfl (wid10 (by decide))) some_not10 (Row.argS10 zb2 [6, 15] rfl (wid10 (by decide))) (by decide) (by decide)).mono ?_
  rintro e v5 ⟨rq2, rfl, tq2, hb⟩
  have F5 : Below y.heap.size y v5 := F4.trans (hb.mono F4.size)
  clear hb
  go_simp
  refine hK.out _ _ ?kkr11 (fun hHeld => ?mkr11)
  case kkr11 =>
   try dsimp only
   exact mkS _ F5
  clear hK K
  try simp only [Act.put, nA, nB, nC, nD, nE, nF]
  refine wpAnyH_ready (rs := [12]) (by kernel_rfl) (by simp) ?_
  refine AllReadyH.cons rfl (fun K hK => ?ski12) AllReadyH.nil
  go_simp
  refine (is10_true (M2.out.later F5) tq2 (by decide) (by decide) (by decide) (by decide)).mono ?_
  rintro e v6 ⟨rfl, hb⟩
  have F6 : Below y.heap.size y v6 := F5.trans (hb.mono F5.size)
  clear hb tq2
  go_simp
  refine hK.out _ _ ?kki12 (fun hHeld => ?mki12)
  case kki12 =>
   try dsimp only
   exact mkS _ F6
  clear hK K
  try simp only [Act.put, nA, nB, nC, nD, nE, nF]
  refine todo [13, 14, 15, 16] ?_
  iterate 4
   refine todoH (v := ?_) rfl (by kernel_rfl) (fun _ _ _ h => h) (by assumption) (Or.inl ⟨by rfl, ?_⟩) ?_
   rotate_left
   · intro w hSw; (try dsimp only at hSw); go_simp; (try with_reducible rfl)
   try simp only [Act.put, nA, nB, nC, nD, nE, nF]
  refine todone ?_
  have zb3 : Row (v6.alloc (.cells #[.int .i64 21] 3)) v6.heap.size 3 #[.int .i64 21] := Row.new _ _ _
  have F7 : Below y.heap.size y (v6.alloc (.cells #[.int .i64 21] 3)) := F6.alloc F6.size _
  refine wpAnyH_ready (rs := [17]) (by kernel_rfl) (by simp) ?_
  refine AllReadyH.cons rfl (fun K hK => ?ska17) AllReadyH.nil
  go_simp
  refine hK.out _ _ ?kka17 (fun hHeld => ?mka17)
  case kka17 =>
   try dsimp only
   exact mkS _ F7
  clear hK K
  try simp only [Act.put, nA, nB, nC, nD, nE, nF]
  refine wpAnyH_ready (rs := [18]) (by kernel_rfl) (by simp) ?_
  refine AllReadyH.cons rfl (fun K hK => ?skr18) AllReadyH.nil
  go_simp
  refine (of10_any (s := []) (xs := [21]) (nil_arg10 _) (fun _ => rfl) (Row.argS10 zb3 [21] rfl (wid10 (by decide))) (by decide) (by decide)).mono ?_
  rintro e v8 ⟨rq3, rfl, tq3, hb⟩
  have F8 : Below y.heap.size y v8 := F7.trans (hb.mono F7.size)
  clear hb
  go_simp
  refine hK.out _ _ ?kkr18 (fun hHeld => ?mkr18)
  case kkr18 =>
   try dsimp only
   exact mkS _ F8
  clear hK K
  try simp only [Act.put, nA, nB, nC, nD, nE, nF]
  refine wpAnyH_ready (rs := [19]) (by kernel_rfl) (by simp) ?_
  refine AllReadyH.cons rfl (fun K hK => ?ski19) AllReadyH.nil
  go_simp
  refine (is10_true (M3.out.later F8) tq3 (by decide) (by decide) (by decide) (by decide)).mono ?_
  rintro e v9 ⟨rfl, hb⟩
  have F9 : Below y.heap.size y v9 := F8.trans (hb.mono F8.size)
  clear hb tq3
  go_simp
  refine hK.out _ _ ?kki19 (fun hHeld => ?mki19)
  case kki19 =>
   try dsimp only
   exact mkS _ F9
  clear hK K
  try simp only [Act.put, nA, nB, nC, nD, nE, nF]
  refine todo [20, 21, 22, 23] ?_
  iterate 4
   refine todoH (v := ?_) rfl (by kernel_rfl) (fun _ _ _ h => h) (by assumption) (Or.inl ⟨by rfl, ?_⟩) ?_
   rotate_left
   · intro w hSw; (try dsimp only at hSw); go_simp; (try with_reducible rfl)
   try simp only [Act.put, nA, nB, nC, nD, nE, nF]
  refine todone ?_
  refine wpAnyH_two (i := 24) (j := 25) (da := 73) (db := 74) (cA := #[.int .i64 2]) (cB := #[.int .i64 2, .int .i64 5]) (tA := 3) (tB := 3) (fa := fun g => .slice (some ⟨g, 0, none⟩) 1 1) (fb := fun g => .slice (some ⟨g, 0, none⟩) 2 2) rfl rfl (by decide) (by kernel_rfl) (by kernel_rfl) (by kernel_rfl) (by decide) (fun X h => mkS _ (F9.trans (h.mono F9.size))) ?ha4 ?hb4 ?hc4 ?hd4 ?he4
  case ha4 =>
   intro K hK
   unfold StepH
   go_simp
   exact hK
  case hb4 =>
   intro K hK
   unfold StepH
   go_simp
   exact hK
  case hc4 =>
   intro K hK
   unfold StepH
   go_simp
   exact hK
  case hd4 =>
   intro K hK
   unfold StepH
   go_simp
   exact hK
  rintro v10 ga4 gb4 hb za4 zb4 hHeld
  have F10 : Below y.heap.size y v10 := F9.trans (hb.mono F9.size)
  clear hb
  try simp only [Act.put, nA, nB, nC, nD, nE, nF]
  refine wpAnyH_ready (rs := [26]) (by kernel_rfl) (by simp) ?_
  refine AllReadyH.cons rfl (fun K hK => ?skr26) AllReadyH.nil
  go_simp
  refine (of10_any (s := [2]) (xs := [2, 5]) (Row.argS10 za4 [2] rfl (wid10 (by decide))) some_not10 (Row.argS10 zb4 [2, 5] rfl (wid10 (by decide))) (by decide) (by decide)).mono ?_
  rintro e v11 ⟨rq4, rfl, tq4, hb⟩
  have F11 : Below y.heap.size y v11 := F10.trans (hb.mono F10.size)
  clear hb
  go_simp
  refine hK.out _ _ ?kkr26 (fun hHeld => ?mkr26)
  case kkr26 =>
   try dsimp only
   exact mkS _ F11
  clear hK K
  try simp only [Act.put, nA, nB, nC, nD, nE, nF]
  refine wpAnyH_ready (rs := [27]) (by kernel_rfl) (by simp) ?_
  refine AllReadyH.cons rfl (fun K hK => ?ski27) AllReadyH.nil
  go_simp
  refine (is10_true (M4.out.later F11) tq4 (by decide) (by decide) (by decide) (by decide)).mono ?_
  rintro e v12 ⟨rfl, hb⟩
  have F12 : Below y.heap.size y v12 := F11.trans (hb.mono F11.size)
  clear hb tq4
  go_simp
  refine hK.out _ _ ?kki27 (fun hHeld => ?mki27)
  case kki27 =>
   try dsimp only
   exact mkS _ F12
  clear hK K
  try simp only [Act.put, nA, nB, nC, nD, nE, nF]
  refine todo [28, 29, 30, 31] ?_
  iterate 4
   refine todoH (v := ?_) rfl (by kernel_rfl) (fun _ _ _ h => h) (by assumption) (Or.inl ⟨by rfl, ?_⟩) ?_
   rotate_left
   · intro w hSw; (try dsimp only at hSw); go_simp; (try with_reducible rfl)
   try simp only [Act.put, nA, nB, nC, nD, nE, nF]
  refine todone ?_
  refine wpAnyH_two (i := 32) (j := 33) (da := 81) (db := 82) (cA := #[.int .i64 2, .int .i64 1]) (cB := #[.int .i64 7, .int .i64 16]) (tA := 3) (tB := 3) (fa := fun g => .slice (some ⟨g, 0, none⟩) 2 2) (fb := fun g => .slice (some ⟨g, 0, none⟩) 2 2) rfl rfl (by decide) (by kernel_rfl) (by kernel_rfl) (by kernel_rfl) (by decide) (fun X h => mkS _ (F12.trans (h.mono F12.size))) ?ha5 ?hb5 ?hc5 ?hd5 ?he5
  case ha5 =>
   intro K hK
   unfold StepH
   go_simp
   exact hK
  case hb5 =>
   intro K hK
   unfold StepH
   go_simp
   exact hK
  case hc5 =>
   intro K hK
   unfold StepH
   go_simp
   exact hK
  case hd5 =>
   intro K hK
   unfold StepH
   go_simp
   exact hK
  rintro v13 ga5 gb5 hb za5 zb5 hHeld
  have F13 : Below y.heap.size y v13 := F12.trans (hb.mono F12.size)
  clear hb
  try simp only [Act.put, nA, nB, nC, nD, nE, nF]
  refine wpAnyH_ready (rs := [34]) (by kernel_rfl) (by simp) ?_
  refine AllReadyH.cons rfl (fun K hK => ?skr34) AllReadyH.nil
  go_simp
  refine (of10_any (s := [2, 1]) (xs := [7, 16]) (Row.argS10 za5 [2, 1] rfl (wid10 (by decide))) some_not10 (Row.argS10 zb5 [7, 16] rfl (wid10 (by decide))) (by decide) (by decide)).mono ?_
  rintro e v14 ⟨rq5, rfl, tq5, hb⟩
  have F14 : Below y.heap.size y v14 := F13.trans (hb.mono F13.size)
  clear hb
  go_simp
  refine hK.out _ _ ?kkr34 (fun hHeld => ?mkr34)
  case kkr34 =>
   try dsimp only
   exact mkS _ F14
  clear hK K
  try simp only [Act.put, nA, nB, nC, nD, nE, nF]
  refine wpAnyH_ready (rs := [35]) (by kernel_rfl) (by simp) ?_
  refine AllReadyH.cons rfl (fun K hK => ?ski35) AllReadyH.nil
  go_simp
  refine (is10_true (M5.out.later F14) tq5 (by decide) (by decide) (by decide) (by decide)).mono ?_
  rintro e v15 ⟨rfl, hb⟩
  have F15 : Below y.heap.size y v15 := F14.trans (hb.mono F14.size)
  clear hb tq5
  go_simp
  refine hK.out _ _ ?kki35 (fun hHeld => ?mki35)
  case kki35 =>
   try dsimp only
   exact mkS _ F15
  clear hK K
  try simp only [Act.put, nA, nB, nC, nD, nE, nF]
  refine wpAnyH_take (i := 36) (v := ?vkt36) rfl (by kernel_rfl) (by kernel_rfl) (by kernel_rfl) (fun _ _ _ h => h) (Or.inl ⟨by rfl, ?hkt36⟩) (by assumption) ?rkt36
  case hkt36 =>
   intro w hSw
   try dsimp only at hSw
   go_simp
   try with_reducible rfl
  try simp only [Act.put, nA, nB, nC, nD, nE, nF]
  refine wpAnyH_ready (rs := [37]) (by kernel_rfl) (by simp) ?_
  refine AllReadyH.cons rfl (fun K hK => ?skd37) AllReadyH.nil
  go_simp
  refine hK.out _ _ ?kkd37 (fun hHeld => ?mkd37)
  case kkd37 =>
   try dsimp only
   exact mkS _ F15
  clear hK K
  try simp only [Act.put, nA, nB, nC, nD, nE, nF]
  refine wpAnyH_done (by kernel_rfl) ?_ _
  (try dsimp only [Straight])
  go_wp2_with fail
  go_ret
  exact ⟨rfl, BU.trans (F15.mono BU.size)⟩
end
section
open Go.RowKit
theorem Ok10.of {s : List Int} {qs : List Q3} (h : mayT s qs = 0) : Ok10 s (qs.map Q3.rat) := by
 have ok := mayC_zero.1 (mayT_rank h)
 refine ⟨ok, ?_⟩
 have h1 := (mayT_valid h).1
 rw [ok.count, ← ok.cnt.1] at h1
 rw [List.length_map]
 exact Int.ofNat.inj h1
end
end Go.Proofs.YtengpgodmbfmkaaGreat
