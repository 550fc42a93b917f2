/-
  Part 38 of 39: contracts and what they rest on (FWGems).
-/
import Derived.Test.YtengpgodmbfmkaaGreatG26
import Derived.Test.YtengpgodmbfmkaaGreatG37
namespace Go.Proofs.YtengpgodmbfmkaaGreat
set_option linter.unusedVariables false
set_option linter.unusedSimpArgs false
set_option maxRecDepth 100000
set_option maxHeartbeats 40000000
section
open Go.RowKit
theorem foldGemms_walk {v1 : Value} {s1 : List Int} {q1 : List Q3} {a1 b1 : Option Addr} {ca1 cb1 : Nat} {v2 : Value} {s2 : List Int} {q2 : List Q3} {a2 b2 : Option Addr} {ca2 cb2 : Nat} {v3 : Value} {s3 : List Int} {q3 : List Q3} {a3 b3 : Option Addr} {ca3 cb3 : Nat} (w : World) (T1 : TensQ w v1 s1 q1 a1 ca1 b1 cb1) (ls1 : s1.length ≤ 17592186044416) (T2 : TensQ w v2 s2 q2 a2 ca2 b2 cb2) (ls2 : s2.length ≤ 17592186044416) (T3 : TensQ w v3 s3 q3 a3 ca3 b3 cb3) (ls3 : s3.length ≤ 17592186044416) :
 Calls Tryz.prog 5 #[v1, v2, v3] w fun e W' => e = .returned (.bool true) ∧ Below w.heap.size w W' := by
 have HT1 := Lib.hid T1
 have WF1 := Lib.hid T1.wfs10
 obtain rfl := T1.is
 have HT2 := Lib.hid T2
 have WF2 := Lib.hid T2.wfs10
 obtain rfl := T2.is
 have HT3 := Lib.hid T3
 have WF3 := Lib.hid T3.wfs10
 obtain rfl := T3.is
 obtain ⟨W, hW⟩ : ∃ W, (((w.alloc (.cells #[.slice a1 s1.length ca1, .slice b1 q1.length cb1] 26)).alloc (.cells #[.slice a2 s2.length ca2, .slice b2 q2.length cb2] 26)).alloc (.cells #[.slice a3 s3.length ca3, .slice b3 q3.length cb3] 26)) = W := ⟨_, rfl⟩
 have R0 : Row W (w.heap.size) 26 #[.slice a1 s1.length ca1, .slice b1 q1.length cb1] := by rw [← hW]; have h := Row.new w 26 #[.slice a1 s1.length ca1, .slice b1 q1.length cb1]; (try simp only [World.size_alloc] at h); exact ((h.alloc _).alloc _)
 have R1 : Row W (w.heap.size + 1) 26 #[.slice a2 s2.length ca2, .slice b2 q2.length cb2] := by rw [← hW]; have h := Row.new (w.alloc (.cells #[.slice a1 s1.length ca1, .slice b1 q1.length cb1] 26)) 26 #[.slice a2 s2.length ca2, .slice b2 q2.length cb2]; (try simp only [World.size_alloc] at h); exact (h.alloc _)
 have R2 : Row W (w.heap.size + 1 + 1) 26 #[.slice a3 s3.length ca3, .slice b3 q3.length cb3] := by rw [← hW]; have h := Row.new ((w.alloc (.cells #[.slice a1 s1.length ca1, .slice b1 q1.length cb1] 26)).alloc (.cells #[.slice a2 s2.length ca2, .slice b2 q2.length cb2] 26)) 26 #[.slice a3 s3.length ca3, .slice b3 q3.length cb3]; (try simp only [World.size_alloc] at h); exact h
 have hBW : Below w.heap.size w W := by rw [← hW]; exact ((((Below.refl _ _).alloc (by (try simp) <;> omega) _).alloc (by (try simp) <;> omega) _).alloc (by (try simp) <;> omega) _)
 have hsW : W.heap.size = w.heap.size + 1 + 1 + 1 := by rw [← hW]; simp
 clear hsW
 have hf1 := few10_any (HT1.out.later hBW)
 have hf2 := fun X (h : Below W.heap.size W X) => few10_any (HT2.out.later (hBW.trans (h.mono hBW.size)))
 have hf3 := fun X (h : Below W.heap.size W X) => few10_any (HT3.out.later (hBW.trans (h.mono hBW.size)))
 obtain ⟨t1, ht1⟩ : ∃ t, few10 q1 = t := ⟨_, rfl⟩
 rw [ht1] at hf1
 have HF1 := Lib.hid ht1
 obtain ⟨t2, ht2⟩ : ∃ t, few10 q2 = t := ⟨_, rfl⟩
 rw [ht2] at hf2
 have HF2 := Lib.hid ht2
 obtain ⟨t3, ht3⟩ : ∃ t, few10 q3 = t := ⟨_, rfl⟩
 rw [ht3] at hf3
 have HF3 := Lib.hid ht3
 clear T1 T2 T3 ht1 ht2 ht3
 cases t1 with
 | false =>
   have B0 : Below W.heap.size W W := Below.refl _ _
   obtain ⟨xc0, xc1, _, _⟩ := R0.two
   obtain ⟨yc0, yc1, _, _⟩ := R1.two
   obtain ⟨zc0, zc1, _, _⟩ := R2.two
   go_enter Tryz.func5, Tryz.ntmps5
   go_wp2_with fail
   (try rw [hW])
   clear hW
   refine (hf1).mono ?_
   rintro e y1 ⟨rfl, hy⟩
   have B1 : Below W.heap.size W y1 := B0.trans (hy.mono B0.size)
   clear xc0 xc1 yc0 yc1 zc0 zc1
   replace R0 := R0.later hy
   replace R1 := R1.later hy
   replace R2 := R2.later hy
   obtain ⟨xc0, xc1, _, _⟩ := R0.two
   obtain ⟨yc0, yc1, _, _⟩ := R1.two
   obtain ⟨zc0, zc1, _, _⟩ := R2.two
   clear hy
   go_wp2_with fail
   refine (known10_any _).mono ?_
   rintro e y9 ⟨rfl, hb9⟩
   go_wp2_with fail
   go_ret
   exact ⟨rfl, hBW.trans ((B1.trans (hb9.mono B1.size)).mono hBW.size)⟩
 | true =>
   cases t2 with
   | false =>
     have B0 : Below W.heap.size W W := Below.refl _ _
     obtain ⟨xc0, xc1, _, _⟩ := R0.two
     obtain ⟨yc0, yc1, _, _⟩ := R1.two
     obtain ⟨zc0, zc1, _, _⟩ := R2.two
     go_enter Tryz.func5, Tryz.ntmps5
     go_wp2_with fail
     (try rw [hW])
     clear hW
     refine (hf1).mono ?_
     rintro e y1 ⟨rfl, hy⟩
     have B1 : Below W.heap.size W y1 := B0.trans (hy.mono B0.size)
     clear xc0 xc1 yc0 yc1 zc0 zc1
     replace R0 := R0.later hy
     replace R1 := R1.later hy
     replace R2 := R2.later hy
     obtain ⟨xc0, xc1, _, _⟩ := R0.two
     obtain ⟨yc0, yc1, _, _⟩ := R1.two
     obtain ⟨zc0, zc1, _, _⟩ := R2.two
     clear hy
     go_wp2_with fail
     refine (hf2 _ B1).mono ?_
     rintro e y2 ⟨rfl, hy⟩
     have B2 : Below W.heap.size W y2 := B1.trans (hy.mono B1.size)
     clear xc0 xc1 yc0 yc1 zc0 zc1
     replace R0 := R0.later hy
     replace R1 := R1.later hy
     replace R2 := R2.later hy
     obtain ⟨xc0, xc1, _, _⟩ := R0.two
     obtain ⟨yc0, yc1, _, _⟩ := R1.two
     obtain ⟨zc0, zc1, _, _⟩ := R2.two
     clear hy
     go_wp2_with fail
     refine (known10_any _).mono ?_
     rintro e y9 ⟨rfl, hb9⟩
     go_wp2_with fail
     go_ret
     exact ⟨rfl, hBW.trans ((B2.trans (hb9.mono B2.size)).mono hBW.size)⟩
   | true =>
     cases t3 with
     | false =>
       have B0 : Below W.heap.size W W := Below.refl _ _
       obtain ⟨xc0, xc1, _, _⟩ := R0.two
       obtain ⟨yc0, yc1, _, _⟩ := R1.two
       obtain ⟨zc0, zc1, _, _⟩ := R2.two
       go_enter Tryz.func5, Tryz.ntmps5
       go_wp2_with fail
       (try rw [hW])
       clear hW
       refine (hf1).mono ?_
       rintro e y1 ⟨rfl, hy⟩
       have B1 : Below W.heap.size W y1 := B0.trans (hy.mono B0.size)
       clear xc0 xc1 yc0 yc1 zc0 zc1
       replace R0 := R0.later hy
       replace R1 := R1.later hy
       replace R2 := R2.later hy
       obtain ⟨xc0, xc1, _, _⟩ := R0.two
       obtain ⟨yc0, yc1, _, _⟩ := R1.two
       obtain ⟨zc0, zc1, _, _⟩ := R2.two
       clear hy
       go_wp2_with fail
       refine (hf2 _ B1).mono ?_
       rintro e y2 ⟨rfl, hy⟩
       have B2 : Below W.heap.size W y2 := B1.trans (hy.mono B1.size)
       clear xc0 xc1 yc0 yc1 zc0 zc1
       replace R0 := R0.later hy
       replace R1 := R1.later hy
       replace R2 := R2.later hy
       obtain ⟨xc0, xc1, _, _⟩ := R0.two
       obtain ⟨yc0, yc1, _, _⟩ := R1.two
       obtain ⟨zc0, zc1, _, _⟩ := R2.two
       clear hy
       go_wp2_with fail
       refine (hf3 _ B2).mono ?_
       rintro e y3 ⟨rfl, hy⟩
       have B3 : Below W.heap.size W y3 := B2.trans (hy.mono B2.size)
       clear xc0 xc1 yc0 yc1 zc0 zc1
       replace R0 := R0.later hy
       replace R1 := R1.later hy
       replace R2 := R2.later hy
       obtain ⟨xc0, xc1, _, _⟩ := R0.two
       obtain ⟨yc0, yc1, _, _⟩ := R1.two
       obtain ⟨zc0, zc1, _, _⟩ := R2.two
       clear hy
       go_wp2_with fail
       refine (known10_any _).mono ?_
       rintro e y9 ⟨rfl, hb9⟩
       go_wp2_with fail
       go_ret
       exact ⟨rfl, hBW.trans ((B3.trans (hb9.mono B3.size)).mono hBW.size)⟩
     | true =>
       obtain ⟨h641, hl1⟩ := few10_true HF1.out
       have HL1 := Lib.hid hl1
       obtain ⟨m1, hm1⟩ : ∃ m, mayT s1 q1 = m := ⟨_, rfl⟩
       have HM1 := Lib.hid hm1
       obtain ⟨h642, hl2⟩ := few10_true HF2.out
       have HL2 := Lib.hid hl2
       obtain ⟨m2, hm2⟩ : ∃ m, mayT s2 q2 = m := ⟨_, rfl⟩
       have HM2 := Lib.hid hm2
       obtain ⟨h643, hl3⟩ := few10_true HF3.out
       have HL3 := Lib.hid hl3
       obtain ⟨m3, hm3⟩ : ∃ m, mayT s3 q3 = m := ⟨_, rfl⟩
       have HM3 := Lib.hid hm3
       obtain ⟨c, hc⟩ : ∃ c, gemC s1 s2 s3 q1 q2 q3 = c := ⟨_, rfl⟩
       have HC := Lib.hid (show (if orL [m1, m2, m3, mmC s1 s2] = 0 then fitC s3 (mmS s1 s2) else orL [m1, m2, m3, mmC s1 s2]) = c by rw [← hc, ← hm1, ← hm2, ← hm3]; rfl)
       have HC0 := Lib.hid hc
       clear hl1 hl2 hl3 hm1 hm2 hm3 hc
       have B0 : Below W.heap.size W W := Below.refl _ _
       obtain ⟨xc0, xc1, _, _⟩ := R0.two
       obtain ⟨yc0, yc1, _, _⟩ := R1.two
       obtain ⟨zc0, zc1, _, _⟩ := R2.two
       go_enter Tryz.func5, Tryz.ntmps5
       go_wp2_with fail
       (try rw [hW])
       clear hW
       refine (hf1).mono ?_
       rintro e y1 ⟨rfl, hy⟩
       have B1 : Below W.heap.size W y1 := B0.trans (hy.mono B0.size)
       clear xc0 xc1 yc0 yc1 zc0 zc1
       replace R0 := R0.later hy
       replace R1 := R1.later hy
       replace R2 := R2.later hy
       obtain ⟨xc0, xc1, _, _⟩ := R0.two
       obtain ⟨yc0, yc1, _, _⟩ := R1.two
       obtain ⟨zc0, zc1, _, _⟩ := R2.two
       clear hy
       go_wp2_with fail
       refine (hf2 _ B1).mono ?_
       rintro e y2 ⟨rfl, hy⟩
       have B2 : Below W.heap.size W y2 := B1.trans (hy.mono B1.size)
       clear xc0 xc1 yc0 yc1 zc0 zc1
       replace R0 := R0.later hy
       replace R1 := R1.later hy
       replace R2 := R2.later hy
       obtain ⟨xc0, xc1, _, _⟩ := R0.two
       obtain ⟨yc0, yc1, _, _⟩ := R1.two
       obtain ⟨zc0, zc1, _, _⟩ := R2.two
       clear hy
       go_wp2_with fail
       refine (hf3 _ B2).mono ?_
       rintro e y3 ⟨rfl, hy⟩
       have B3 : Below W.heap.size W y3 := B2.trans (hy.mono B2.size)
       clear xc0 xc1 yc0 yc1 zc0 zc1
       replace R0 := R0.later hy
       replace R1 := R1.later hy
       replace R2 := R2.later hy
       obtain ⟨xc0, xc1, _, _⟩ := R0.two
       obtain ⟨yc0, yc1, _, _⟩ := R1.two
       obtain ⟨zc0, zc1, _, _⟩ := R2.two
       clear hy
       go_wp2_with fail
       refine (gemm_any 6 (n := 3) (HT1.out.later (hBW.trans (B3.mono hBW.size))) (HT2.out.later (hBW.trans (B3.mono hBW.size))) (HT3.out.later (hBW.trans (B3.mono hBW.size))) ls1 ls2 ls3 HL1.out HL2.out HL3.out (by decide) (by omega) (by omega) (by omega) (by omega) (by decide)).mono ?_
       rintro e zP ⟨hO, hy⟩
       rw [HC0.out] at hO
       obtain ⟨aP, bP, nP, mP, caP, cbP, rfl, hA⟩ := hO.an10
       obtain ⟨yP, hV⟩ : ∃ X, zP.alloc (.cells #[.slice aP nP caP, .slice bP mP cbP] 26) = X := ⟨_, rfl⟩
       have bz : Below zP.heap.size zP yP := by rw [← hV]; exact (Below.refl _ _).alloc (Nat.le_refl _) _
       have NP : Row yP zP.heap.size 26 #[.slice aP nP caP, .slice bP mP cbP] := by rw [← hV]; exact Row.new _ _ _
       have hyz := hy.trans (bz.mono hy.size)
       have AP := Lib.hid (hA.later bz)
       clear hy bz hO hA
       have B4 : Below W.heap.size W yP := B3.trans (hyz.mono B3.size)
       clear xc0 xc1 yc0 yc1 zc0 zc1
       replace R0 := R0.later hyz
       replace R1 := R1.later hyz
       replace R2 := R2.later hyz
       obtain ⟨xc0, xc1, _, _⟩ := R0.two
       obtain ⟨yc0, yc1, _, _⟩ := R1.two
       obtain ⟨zc0, zc1, _, _⟩ := R2.two
       clear hyz
       obtain ⟨pc0, pc1, _, _⟩ := NP.two
       go_wp2_with fail
       (try rw [hV])
       (try clear hV)
       have hal : Below yP.heap.size yP (yP.alloc (.cells #[.slice a1 s1.length ca1, .slice b1 q1.length cb1, .slice a2 s2.length ca2, .slice b2 q2.length cb2, .slice a3 s3.length ca3, .slice b3 q3.length cb3] 26)) := (Below.refl _ _).alloc (Nat.le_refl _) _
       have BA : Below W.heap.size W (yP.alloc (.cells #[.slice a1 s1.length ca1, .slice b1 q1.length cb1, .slice a2 s2.length ca2, .slice b2 q2.length cb2, .slice a3 s3.length ca3, .slice b3 q3.length cb3] 26)) := B4.trans (hal.mono B4.size)
       have hlist : Tens10 (yP.alloc (.cells #[.slice a1 s1.length ca1, .slice b1 q1.length cb1, .slice a2 s2.length ca2, .slice b2 q2.length cb2, .slice a3 s3.length ca3, .slice b3 q3.length cb3] 26)) yP.heap.size [m1, m2, m3] := fun i hi => by
        have RN := Row.new yP 26 #[.slice a1 s1.length ca1, .slice b1 q1.length cb1, .slice a2 s2.length ca2, .slice b2 q2.length cb2, .slice a3 s3.length ca3, .slice b3 q3.length cb3]
        match i, hi with
        | 0, _ => exact ⟨a1, b1, _, ca1, _, cb1, RN.cell 0, RN.cell 1, fun X hX => by
           have h := mayT_any (HT1.out.later (hBW.trans ((BA.trans (hX.mono BA.size)).mono hBW.size))) (by omega) (fun q hq => by have := HL1.out q hq; omega)
           rwa [HM1.out] at h⟩
        | 1, _ => exact ⟨a2, b2, _, ca2, _, cb2, RN.cell 2, RN.cell 3, fun X hX => by
           have h := mayT_any (HT2.out.later (hBW.trans ((BA.trans (hX.mono BA.size)).mono hBW.size))) (by omega) (fun q hq => by have := HL2.out q hq; omega)
           rwa [HM2.out] at h⟩
        | 2, _ => exact ⟨a3, b3, _, ca3, _, cb3, RN.cell 4, RN.cell 5, fun X hX => by
           have h := mayT_any (HT3.out.later (hBW.trans ((BA.trans (hX.mono BA.size)).mono hBW.size))) (by omega) (fun q hq => by have := HL3.out q hq; omega)
           rwa [HM3.out] at h⟩
       have hfirst := first10_any (cap := 3) hlist (by simp)
       obtain ⟨d, hd⟩ : ∃ d, orL [m1, m2, m3] = d := ⟨_, rfl⟩
       rw [hd] at hfirst
       have HD := Lib.hid hd
       refine hfirst.mono ?_
       rintro e yF ⟨rfl, hy⟩
       have hyF := hal.trans (hy.mono hal.size)
       clear hy hal BA hlist hfirst hd
       have B5 : Below W.heap.size W yF := B4.trans (hyF.mono B4.size)
       clear xc0 xc1 yc0 yc1 zc0 zc1 pc0 pc1
       replace R0 := R0.later hyF
       replace R1 := R1.later hyF
       replace R2 := R2.later hyF
       replace NP := NP.later hyF
       replace AP := Lib.hid (AP.out.later hyF)
       obtain ⟨xc0, xc1, _, _⟩ := R0.two
       obtain ⟨yc0, yc1, _, _⟩ := R1.two
       obtain ⟨zc0, zc1, _, _⟩ := R2.two
       obtain ⟨pc0, pc1, _, _⟩ := NP.two
       clear hyF
       by_cases h0 : d = 0
       case neg =>
        have hdI : (d != 0) = true := by simp [h0]
        obtain rfl : c = d := by
         have e := orL_three10 (u := mmC s1 s2) (x := m1) (y := m2) (z := m3) (by rw [HD.out]; exact h0)
         rw [← HC.out, e, HD.out, if_neg h0]
        go_wp2_with fail
        refine (told10_any (n := 0) (AP.out.none10 (s2 := []) (L2 := []) h0) ⟨none, none, 0, 0, 0, 0, rfl⟩ (fun e => absurd e h0) (by simp) (by simp) (by decide) (by decide)).mono ?_
        rintro e y6 ⟨rfl, hy⟩
        have B6 : Below W.heap.size W y6 := B5.trans (hy.mono B5.size)
        clear xc0 xc1 yc0 yc1 zc0 zc1 pc0 pc1
        replace R0 := R0.later hy
        replace R1 := R1.later hy
        replace R2 := R2.later hy
        replace NP := NP.later hy
        replace AP := Lib.hid (AP.out.later hy)
        obtain ⟨xc0, xc1, _, _⟩ := R0.two
        obtain ⟨yc0, yc1, _, _⟩ := R1.two
        obtain ⟨zc0, zc1, _, _⟩ := R2.two
        obtain ⟨pc0, pc1, _, _⟩ := NP.two
        clear hy
        go_wp2_with fail
        refine (known10_any _).mono ?_
        rintro e y9 ⟨rfl, hb9⟩
        go_wp2_with fail
        go_ret
        exact ⟨rfl, hBW.trans ((B6.trans (hb9.mono B6.size)).mono hBW.size)⟩
       case pos =>
        subst h0
        have h12 : m1 = 0 ∧ m2 = 0 ∧ m3 = 0 := by
         have h := HD.out
         by_cases e : m1 = 0
         · subst e
           by_cases e2 : m2 = 0
           · subst e2
             refine ⟨rfl, rfl, ?_⟩
             by_cases e3 : m3 = 0
             · exact e3
             · simp [orL, e3] at h
           · simp [orL, e2] at h
         · simp [orL, e] at h
        obtain ⟨rfl, rfl, rfl⟩ := h12
        have hcc : (if mmC s1 s2 = 0 then fitC s3 (mmS s1 s2) else mmC s1 s2) = c := by
         have e : ∀ x : Int, orL [0, 0, 0, x] = x := fun x => by
          by_cases h : x = 0
          · subst h; rfl
          · simp [orL, h]
         have h := HC.out
         rwa [e (mmC s1 s2)] at h
        have HCC := Lib.hid hcc
        obtain ⟨L1, hL1⟩ : ∃ L, q1.map Q3.rat = L := ⟨_, rfl⟩
        have ok1 : Ok10 s1 L1 := by rw [← hL1]; exact Ok10.of HM1.out
        have l1 : L1.length ≤ 64 := by rw [← hL1]; simpa using h641
        have f1 : ∀ x ∈ L1, FitQ x 96 := fun x hx => by
         rw [← hL1] at hx
         obtain ⟨p, hp, rfl⟩ := List.mem_map.1 hx
         exact FitQ.raw (m := 3) (WF1.out p hp).1 (WF1.out p hp).2 (HL1.out p hp).1 (HL1.out p hp).2
        have O1 := Lib.hid ok1
        have F1 := Lib.hid f1
        have HL1' := Lib.hid hL1
        obtain ⟨L2, hL2⟩ : ∃ L, q2.map Q3.rat = L := ⟨_, rfl⟩
        have ok2 : Ok10 s2 L2 := by rw [← hL2]; exact Ok10.of HM2.out
        have l2 : L2.length ≤ 64 := by rw [← hL2]; simpa using h642
        have f2 : ∀ x ∈ L2, FitQ x 96 := fun x hx => by
         rw [← hL2] at hx
         obtain ⟨p, hp, rfl⟩ := List.mem_map.1 hx
         exact FitQ.raw (m := 3) (WF2.out p hp).1 (WF2.out p hp).2 (HL2.out p hp).1 (HL2.out p hp).2
        have O2 := Lib.hid ok2
        have F2 := Lib.hid f2
        have HL2' := Lib.hid hL2
        obtain ⟨L3, hL3⟩ : ∃ L, q3.map Q3.rat = L := ⟨_, rfl⟩
        have ok3 : Ok10 s3 L3 := by rw [← hL3]; exact Ok10.of HM3.out
        have l3 : L3.length ≤ 64 := by rw [← hL3]; simpa using h643
        have f3 : ∀ x ∈ L3, FitQ x 96 := fun x hx => by
         rw [← hL3] at hx
         obtain ⟨p, hp, rfl⟩ := List.mem_map.1 hx
         exact FitQ.raw (m := 3) (WF3.out p hp).1 (WF3.out p hp).2 (HL3.out p hp).1 (HL3.out p hp).2
        have O3 := Lib.hid ok3
        have F3 := Lib.hid f3
        have HL3' := Lib.hid hL3
        rw [hL1, hL2, hL3] at AP
        obtain ⟨SM, hSM⟩ : ∃ S, mmS s1 s2 = S := ⟨_, rfl⟩
        have hcnt := cnt_mm10 ok1 ok2 l1 l2
        obtain ⟨LM, hLM⟩ : ∃ L, plusF (mmS s1 s2) s3 (mmV s1 s2 L1 L2) L3 = L := ⟨_, rfl⟩
        have hLMl : LM.length ≤ 4096 := by rw [← hLM, plusF_len]; exact hcnt
        rw [hLM, hSM] at AP
        have hSMl : SM.length = 2 := by rw [← hSM]; rfl
        have HSM := Lib.hid hSM
        have HLM := Lib.hid hLM
        clear hcc hL1 hL2 hL3 ok1 ok2 ok3 f1 f2 f3 hSM hLM hcnt
        have mkX : ∀ X, Below yF.heap.size yF X → X.cell? ⟨w.heap.size, 0, none⟩ = some (.slice a1 s1.length ca1) ∧ X.cell? ⟨w.heap.size, 1, none⟩ = some (.slice b1 q1.length cb1) ∧ X.cell? ⟨w.heap.size + 1, 0, none⟩ = some (.slice a2 s2.length ca2) ∧ X.cell? ⟨w.heap.size + 1, 1, none⟩ = some (.slice b2 q2.length cb2) ∧ X.cell? ⟨w.heap.size + 1 + 1, 0, none⟩ = some (.slice a3 s3.length ca3) ∧ X.cell? ⟨w.heap.size + 1 + 1, 1, none⟩ = some (.slice b3 q3.length cb3) := fun X h => by
         obtain ⟨g0, g1, _⟩ := (R0.later h).two
         obtain ⟨g2, g3, _⟩ := (R1.later h).two
         obtain ⟨g4, g5, _⟩ := (R2.later h).two
         exact ⟨g0, g1, g2, g3, g4, g5⟩
        have MKX := Lib.hid mkX
        have HBy := Lib.hid B5
        clear mkX
        go_upto_region 7 with fail
        clear xc0 xc1 yc0 yc1 zc0 zc1 pc0 pc1
        go_cut [10, 11] (fun sa sb wx => ∃ (gp : Nat) (ra rb : Option Addr) (na nb rca rcb : Nat), sa = .pointer (some ⟨gp, 0, none⟩) ∧ sb = .int .i64 c ∧ Row wx gp 36 #[.slice ra na rca, .slice rb nb rcb] ∧ (c = 0 → TenR wx (.agg #[.slice ra na rca, .slice rb nb rcb]) SM LM 958) ∧ Below yF.heap.size yF wx)
        case first =>
         refine wp_region_held_drew (S := fun X => X.cell? ⟨w.heap.size, 0, none⟩ = some (.slice a1 s1.length ca1) ∧ X.cell? ⟨w.heap.size, 1, none⟩ = some (.slice b1 q1.length cb1) ∧ X.cell? ⟨w.heap.size + 1, 0, none⟩ = some (.slice a2 s2.length ca2) ∧ X.cell? ⟨w.heap.size + 1, 1, none⟩ = some (.slice b2 q2.length cb2) ∧ X.cell? ⟨w.heap.size + 1 + 1, 0, none⟩ = some (.slice a3 s3.length ca3) ∧ X.cell? ⟨w.heap.size + 1 + 1, 1, none⟩ = some (.slice b3 q3.length cb3)) (by kernel_rfl) (MKX.out _ ((Below.refl _ _).drew)) (fun hHeld => ?_)
         obtain ⟨pn, hp⟩ : ∃ Y, yF.drew = Y := ⟨_, rfl⟩
         have bn : Below yF.heap.size yF pn := by rw [← hp]; exact (Below.refl _ _).drew
         rw [hp] at hHeld ⊢
         clear hp
         refine todo [0, 2, 4] ?_
         iterate 3
          refine todoH (v := ?_) rfl (by kernel_rfl) (fun _ _ _ h => h) (by assumption) (Or.inl ⟨by rfl, ?_⟩) ?_
          rotate_left
          · intro w hSw; (try dsimp only at hSw); go_simp; (try with_reducible rfl)
          try simp only [Act.put, nA, nB, nC, nD, nE, nF]
         refine todone ?_
         have HPn := Lib.hid (fun (X : World) (h : Below pn.heap.size pn X) => (show X.cell? ⟨w.heap.size, 0, none⟩ = some (.slice a1 s1.length ca1) ∧ X.cell? ⟨w.heap.size, 1, none⟩ = some (.slice b1 q1.length cb1) ∧ X.cell? ⟨w.heap.size + 1, 0, none⟩ = some (.slice a2 s2.length ca2) ∧ X.cell? ⟨w.heap.size + 1, 1, none⟩ = some (.slice b2 q2.length cb2) ∧ X.cell? ⟨w.heap.size + 1 + 1, 0, none⟩ = some (.slice a3 s3.length ca3) ∧ X.cell? ⟨w.heap.size + 1 + 1, 1, none⟩ = some (.slice b3 q3.length cb3) from MKX.out _ (bn.trans (h.mono bn.size))))
         refine pool_start (fs := [⟨10, 10, 36, #[.slice none 0 0, .slice none 0 0], fun g => .pointer (some ⟨g, 0, none⟩)⟩]) (us := [undef]) (n := 9) (F := fun _ => True) (by kernel_rfl) (by simp only [putF, Act.put, nA, nB, nC, nD, nE, nF]) rfl trivial ?_
         refine pool_step (α := Option Addr × Option Addr × Nat × Nat) (fun p => .agg #[.slice p.1 s1.length p.2.2.1, .slice p.2.1 q1.length p.2.2.2]) (c := 1) (dc := 50) (need := []) (F' := fun p X => TensR X (.agg #[.slice p.1 s1.length p.2.2.1, .slice p.2.1 q1.length p.2.2.2]) s1 L1 16 p.1 p.2.2.1 p.2.1 p.2.2.2) rfl ?fln1 (by decide) (by decide) (by decide) (by decide) (by kernel_rfl) HPn.out (fun _ _ _ _ => trivial) ?stn1 ?nxn1
         case fln1 =>
          intro f hf
          simp only [List.mem_cons, List.not_mem_nil, or_false] at hf
          rcases hf with rfl
          all_goals exact ⟨fun g g' e => by simpa using e, _, rfl, fun a X K h => by unfold StepH; go_simp; exact h⟩
         case stn1 =>
          intro us X K hus _ hb _ hK
          obtain ⟨uF1, rfl⟩ := len_one10 hus
          simp only [putF, Act.put, nA, nB, nC, nD, nE, nF]
          unfold StepH
          go_simp
          have hbX : Below w.heap.size w X := hBW.trans ((HBy.out.trans ((bn.trans (hb.mono bn.size)).mono HBy.out.size)).mono hBW.size)
          refine (ofT_any (n := 3) (HT1.out.later hbX) ls1 (by omega) HL1.out (by decide)).mono ?_
          rintro e X' ⟨pa, pb, pca, pcb, rfl, S1, E1, hy⟩
          have U := ofT_tens (m := q1.length) (by simp) S1 E1
          rw [HL1'.out] at U
          go_simp
          exact hK (pa, pb, pca, pcb) _ hy U
         rintro ⟨pa1, pb1, pca1, pcb1⟩
         (try dsimp only)
         try simp only [Act.put, nA, nB, nC, nD, nE, nF]
         refine pool_step (α := Option Addr × Option Addr × Nat × Nat) (fun p => .agg #[.slice p.1 s2.length p.2.2.1, .slice p.2.1 q2.length p.2.2.2]) (c := 3) (dc := 52) (need := []) (F' := fun p X => TensR X (.agg #[.slice pa1 s1.length pca1, .slice pb1 q1.length pcb1]) s1 L1 16 pa1 pca1 pb1 pcb1 ∧ TensR X (.agg #[.slice p.1 s2.length p.2.2.1, .slice p.2.1 q2.length p.2.2.2]) s2 L2 16 p.1 p.2.2.1 p.2.1 p.2.2.2) rfl ?fln3 (by decide) (by decide) (by decide) (by decide) (by kernel_rfl) HPn.out (fun X Y h hF => TensR.later hF h) ?stn3 ?nxn3
         case fln3 =>
          intro f hf
          simp only [List.mem_cons, List.not_mem_nil, or_false] at hf
          rcases hf with rfl
          all_goals exact ⟨fun g g' e => by simpa using e, _, rfl, fun a X K h => by unfold StepH; go_simp; exact h⟩
         case stn3 =>
          intro us X K hus _ hb hF hK
          obtain ⟨uF1, rfl⟩ := len_one10 hus
          simp only [putF, Act.put, nA, nB, nC, nD, nE, nF]
          unfold StepH
          go_simp
          have hbX : Below w.heap.size w X := hBW.trans ((HBy.out.trans ((bn.trans (hb.mono bn.size)).mono HBy.out.size)).mono hBW.size)
          refine (ofT_any (n := 3) (HT2.out.later hbX) ls2 (by omega) HL2.out (by decide)).mono ?_
          rintro e X' ⟨pa, pb, pca, pcb, rfl, S1, E1, hy⟩
          have U := ofT_tens (m := q2.length) (by simp) S1 E1
          rw [HL2'.out] at U
          go_simp
          exact hK (pa, pb, pca, pcb) _ hy ⟨hF.later hy, U⟩
         rintro ⟨pa2, pb2, pca2, pcb2⟩
         (try dsimp only)
         try simp only [Act.put, nA, nB, nC, nD, nE, nF]
         refine pool_step (α := Option Addr × Option Addr × Nat × Nat) (fun p => .agg #[.slice p.1 s3.length p.2.2.1, .slice p.2.1 q3.length p.2.2.2]) (c := 5) (dc := 54) (need := []) (F' := fun p X => TensR X (.agg #[.slice pa1 s1.length pca1, .slice pb1 q1.length pcb1]) s1 L1 16 pa1 pca1 pb1 pcb1 ∧ TensR X (.agg #[.slice pa2 s2.length pca2, .slice pb2 q2.length pcb2]) s2 L2 16 pa2 pca2 pb2 pcb2 ∧ TensR X (.agg #[.slice p.1 s3.length p.2.2.1, .slice p.2.1 q3.length p.2.2.2]) s3 L3 16 p.1 p.2.2.1 p.2.1 p.2.2.2) rfl ?fln5 (by decide) (by decide) (by decide) (by decide) (by kernel_rfl) HPn.out (fun X Y h hF => ⟨TensR.later hF.1 h, TensR.later hF.2 h⟩) ?stn5 ?nxn5
         case fln5 =>
          intro f hf
          simp only [List.mem_cons, List.not_mem_nil, or_false] at hf
          rcases hf with rfl
          all_goals exact ⟨fun g g' e => by simpa using e, _, rfl, fun a X K h => by unfold StepH; go_simp; exact h⟩
         case stn5 =>
          intro us X K hus _ hb hF hK
          obtain ⟨uF1, rfl⟩ := len_one10 hus
          simp only [putF, Act.put, nA, nB, nC, nD, nE, nF]
          unfold StepH
          go_simp
          have hbX : Below w.heap.size w X := hBW.trans ((HBy.out.trans ((bn.trans (hb.mono bn.size)).mono HBy.out.size)).mono hBW.size)
          refine (ofT_any (n := 3) (HT3.out.later hbX) ls3 (by omega) HL3.out (by decide)).mono ?_
          rintro e X' ⟨pa, pb, pca, pcb, rfl, S1, E1, hy⟩
          have U := ofT_tens (m := q3.length) (by simp) S1 E1
          rw [HL3'.out] at U
          go_simp
          exact hK (pa, pb, pca, pcb) _ hy ⟨hF.1.later hy, hF.2.later hy, U⟩
         rintro ⟨pa3, pb3, pca3, pcb3⟩
         (try dsimp only)
         try simp only [Act.put, nA, nB, nC, nD, nE, nF]
         refine pool_step (α := Option Addr × Option Addr × Nat × Nat × Nat × Nat) (fun p => .tuple #[.agg #[.slice p.1 p.2.2.1 p.2.2.2.1, .slice p.2.1 p.2.2.2.2.1 p.2.2.2.2.2], .int .i64 c]) (c := 6) (dc := 55) (need := []) (F' := fun p X => (c = 0 → TenR X (.agg #[.slice p.1 p.2.2.1 p.2.2.2.1, .slice p.2.1 p.2.2.2.2.1 p.2.2.2.2.2]) SM LM 958)) rfl ?fln6 (by decide) (by decide) (by decide) (by decide) (by kernel_rfl) HPn.out (fun X Y h hF => ⟨TensR.later hF.1 h, TensR.later hF.2.1 h, TensR.later hF.2.2 h⟩) ?stn6 ?nxn6
         case fln6 =>
          intro f hf
          simp only [List.mem_cons, List.not_mem_nil, or_false] at hf
          rcases hf with rfl
          all_goals exact ⟨fun g g' e => by simpa using e, _, rfl, fun a X K h => by unfold StepH; go_simp; exact h⟩
         case stn6 =>
          intro us X K hus _ hb hF hK
          obtain ⟨uF1, rfl⟩ := len_one10 hus
          simp only [putF, Act.put, nA, nB, nC, nD, nE, nF]
          unfold StepH
          go_simp
          refine (gemmR_all (n := 16) hF.1 hF.2.1 hF.2.2 O3.out F3.out O1.out O2.out l1 l2 F1.out F2.out (by decide)).mono ?_
          rintro e X' ⟨hR, hy⟩
          rw [HCC.out, HLM.out, HSM.out] at hR
          obtain ⟨r, rfl, ⟨ra, rb, na, nb, rca, rcb, rfl⟩, hten⟩ := hR
          go_simp
          exact hK (ra, rb, na, rca, nb, rcb) _ hy hten
         rintro ⟨ra5, rb5, na5, rca5, nb5, rcb5⟩
         (try dsimp only)
         try simp only [Act.put, nA, nB, nC, nD, nE, nF]
         refine pool_take (v := ?_) (i := 7) (di := 48) rfl rfl (by decide) (by decide) (by kernel_rfl) (fun _ _ _ h => h) HPn.out (fun us hus => ?_) ?_
         rotate_left
         · obtain ⟨uF1, rfl⟩ := len_one10 hus
           simp only [putF, Act.put, nA, nB, nC, nD, nE, nF]
           refine Or.inl ⟨by rfl, ?_⟩
           intro w hSw; (try dsimp only at hSw); go_simp; (try with_reducible rfl)
         try simp only [Act.put, nA, nB, nC, nD, nE, nF]
         refine pool_take (v := ?_) (i := 8) (di := 56) rfl rfl (by decide) (by decide) (by kernel_rfl) (fun _ _ _ h => h) HPn.out (fun us hus => ?_) ?_
         rotate_left
         · obtain ⟨uF1, rfl⟩ := len_one10 hus
           simp only [putF, Act.put, nA, nB, nC, nD, nE, nF]
           refine Or.inl ⟨by rfl, ?_⟩
           intro w hSw; (try dsimp only at hSw); go_simp; (try with_reducible rfl)
         try simp only [Act.put, nA, nB, nC, nD, nE, nF]
         refine pool_take (v := ?_) (i := 9) (di := 57) rfl rfl (by decide) (by decide) (by kernel_rfl) (fun _ _ _ h => h) HPn.out (fun us hus => ?_) ?_
         rotate_left
         · obtain ⟨uF1, rfl⟩ := len_one10 hus
           simp only [putF, Act.put, nA, nB, nC, nD, nE, nF]
           refine Or.inl ⟨by rfl, ?_⟩
           intro w hSw; (try dsimp only at hSw); go_simp; (try with_reducible rfl)
         try simp only [Act.put, nA, nB, nC, nD, nE, nF]
         refine pool_end ?flne (by decide) (by decide) (by kernel_rfl) HPn.out (fun X Y h hF => fun e => (hF e).later h) ?nxne
         case flne =>
          intro f hf
          simp only [List.mem_cons, List.not_mem_nil, or_false] at hf
          rcases hf with rfl
          all_goals exact ⟨fun g g' e => by simpa using e, _, rfl, fun a X K h => by unfold StepH; go_simp; exact h⟩
         intro us xn ok hb hF
         obtain ⟨gn, rfl, hgn, Rn⟩ := ok.one
         (try dsimp only at Rn hF)
         simp only [putF, Act.put, nA, nB, nC, nD, nE, nF]
         have Bn : Below yF.heap.size yF xn := bn.trans (hb.mono bn.size)
         have hHeld := HPn.out xn hb
         clear ok
         obtain ⟨d0, d1, d2, d3⟩ := Rn.two
         refine wpAnyH_ready (rs := [11]) (by kernel_rfl) (by simp) ?_
         refine AllReadyH.cons rfl (fun K hK => ?sn1) AllReadyH.nil
         go_simp
         refine afterSet2 Rn (fun xn1 on1 zn1 => ?_)
         clear d0 d1 d2 d3
         have Bn1 : Below yF.heap.size yF xn1 := Bn.trans (on1.below (Nat.le_trans bn.size hgn))
         replace hF := (fun e => (hF e).far10 Rn on1.block)
         replace Rn := zn1
         refine hK.out _ _ (MKX.out _ Bn1) (fun hHeld2 => ?_)
         clear hK K hHeld
         have hHeld := hHeld2
         clear hHeld2
         try simp only [Act.put, nA, nB, nC, nD, nE, nF]
         refine wpAnyH_ready (rs := [12]) (by kernel_rfl) (by simp) ?_
         refine AllReadyH.cons rfl (fun K hK => ?snd12) AllReadyH.nil
         go_simp
         refine hK.out _ _ (MKX.out _ Bn1) (fun hHeld2 => ?_)
         clear hK K hHeld
         have hHeld := hHeld2
         clear hHeld2
         try simp only [Act.put, nA, nB, nC, nD, nE, nF]
         refine wpAnyH_done (by kernel_rfl) ?_ _
         (try dsimp only [Straight])
         go_wp2_with fail
         go_meet
         exact ⟨_, _, _, _, _, _, _, rfl, rfl, Rn, hF, Bn1⟩
        case rest =>
         obtain ⟨gp, ra, rb, na, nb, rca, rcb, rfl, rfl, N8, hT8, E8⟩ := hcut
         obtain ⟨y8, hy8⟩ : ∃ y, wc = y := ⟨_, rfl⟩
         rw [hy8] at N8 hT8 E8 ⊢
         clear hy8
         have B6 : Below W.heap.size W y8 := B5.trans (E8.mono B5.size)
         replace R0 := R0.later E8
         replace R1 := R1.later E8
         replace R2 := R2.later E8
         replace NP := NP.later E8
         replace AP := Lib.hid (AP.out.later E8)
         obtain ⟨xc0, xc1, _, _⟩ := R0.two
         obtain ⟨yc0, yc1, _, _⟩ := R1.two
         obtain ⟨zc0, zc1, _, _⟩ := R2.two
         obtain ⟨pc0, pc1, _, _⟩ := NP.two
         obtain ⟨rc0, rc1, _, _⟩ := N8.two
         have T8 := Lib.hid hT8
         clear hT8
         go_wp2_with fail
         refine (told10_any (n := 958) AP.out ⟨ra, rb, na, nb, rca, rcb, rfl⟩ T8.out (by rw [hSMl]; decide) (by omega) (by decide) (by decide)).mono ?_
         rintro e y7 ⟨rfl, hy⟩
         have B7 : Below W.heap.size W y7 := B6.trans (hy.mono B6.size)
         clear xc0 xc1 yc0 yc1 zc0 zc1 pc0 pc1 rc0 rc1
         replace R0 := R0.later hy
         replace R1 := R1.later hy
         replace R2 := R2.later hy
         replace NP := NP.later hy
         replace N8 := N8.later hy
         replace AP := Lib.hid (AP.out.later hy)
         obtain ⟨xc0, xc1, _, _⟩ := R0.two
         obtain ⟨yc0, yc1, _, _⟩ := R1.two
         obtain ⟨zc0, zc1, _, _⟩ := R2.two
         obtain ⟨pc0, pc1, _, _⟩ := NP.two
         obtain ⟨rc0, rc1, _, _⟩ := N8.two
         clear hy
         go_wp2_with fail
         refine (known10_any _).mono ?_
         rintro e y9 ⟨rfl, hb9⟩
         go_wp2_with fail
         go_ret
         exact ⟨rfl, hBW.trans ((B7.trans (hb9.mono B7.size)).mono hBW.size)⟩
end
end Go.Proofs.YtengpgodmbfmkaaGreat
