/-
  Part 4 of 5: contracts and what they rest on (FWTotal).
-/
import Derived.Test.YtengpgodmbfmkaaGreatTb3
namespace Go.Proofs.YtengpgodmbfmkaaGreat
set_option linter.unusedVariables false
set_option linter.unusedSimpArgs false
set_option maxRecDepth 100000
set_option maxHeartbeats 40000000
section
open Go.RowKit
theorem foldTotal_walk {v u : Value} {s ys : List Int} {qs ql : List Q3} {a b d l : Option Addr} {ca cb cd cl : Nat} (w : World) (T : TensQ w v s qs a ca b cb) (ls : s.length ≤ 17592186044416) (E : RowA RawQ w (.slice l ql.length cl) ql l cl) (D : ArgS w u ys d cd) (nd : d = none → cd = 0) (ly : ys.length ≤ 17592186044416) :
 Calls Tryz.prog 7 #[v, .slice l ql.length cl, u] w fun e W' => e = .returned (.bool true) ∧ Below w.heap.size w W' := by
 obtain ⟨i0, hi, hz0, hz1, hz2⟩ := info_parts infoQ
 have HT := Lib.hid T
 have HD := Lib.hid D
 have ND := Lib.hid nd
 have HE := Lib.hid E
 have HWF := Lib.hid T.wfs10
 obtain rfl := D.is
 obtain rfl := T.is
 obtain ⟨n, hn⟩ : ∃ n, ql.length = n := ⟨_, rfl⟩
 have HN := Lib.hid hn
 rw [hn]
 obtain ⟨W, hW⟩ : ∃ W, w.alloc (.cells #[.slice a s.length ca, .slice b qs.length cb] 26) = W := ⟨_, rfl⟩
 have R0 : Row W w.heap.size 26 #[.slice a s.length ca, .slice b qs.length cb] := by rw [← hW]; exact Row.new _ _ _
 have hBW : Below w.heap.size w W := by rw [← hW]; exact (Below.refl _ _).alloc (by simp) _
 have hfew := few10_any (HT.out.later hBW)
 obtain ⟨t, ht⟩ : ∃ t, few10 qs = t := ⟨_, rfl⟩
 rw [ht] at hfew
 have HF := Lib.hid ht
 clear T D nd ht E hn
 cases t with
 | false =>
  have B0 : Below W.heap.size W W := Below.refl _ _
  obtain ⟨xc0, xc1, _, _⟩ := R0.two
  go_enter Tryz.func7, Tryz.ntmps7
  go_wp2_with fail
  (try rw [hW])
  clear hW
  refine (hfew).mono ?_
  rintro e y1 ⟨rfl, hy⟩
  have B1 : Below W.heap.size W y1 := B0.trans (hy.mono B0.size)
  clear xc0 xc1
  replace R0 := R0.later hy
  obtain ⟨xc0, xc1, _, _⟩ := R0.two
  clear hy
  go_wp2_with fail
  refine (known10_any _).mono ?_
  rintro e y9 ⟨rfl, hb9⟩
  go_wp2_with fail
  go_ret
  exact ⟨rfl, hBW.trans ((B1.trans (hb9.mono B1.size)).mono hBW.size)⟩
 | true =>
  obtain ⟨hq64, hl3⟩ := few10_true HF.out
  have HL := Lib.hid hl3
  have hmay := fun (X : World) (h : Below W.heap.size W X) => mayT_any (HT.out.later (hBW.trans (h.mono hBW.size))) (by omega) (fun p hp => by have := HL.out p hp; omega)
  obtain ⟨m, hm⟩ : ∃ m, mayT s qs = m := ⟨_, rfl⟩
  rw [hm] at hmay
  have HM := Lib.hid hm
  clear hl3 hm
  by_cases h0 : m = 0
  case neg =>
   have hne : (m != 0) = true := by simp [h0]
   have B0 : Below W.heap.size W W := Below.refl _ _
   obtain ⟨xc0, xc1, _, _⟩ := R0.two
   go_enter Tryz.func7, Tryz.ntmps7
   go_wp2_with fail
   (try rw [hW])
   clear hW
   refine (hfew).mono ?_
   rintro e y1 ⟨rfl, hy⟩
   have B1 : Below W.heap.size W y1 := B0.trans (hy.mono B0.size)
   clear xc0 xc1
   replace R0 := R0.later hy
   obtain ⟨xc0, xc1, _, _⟩ := R0.two
   clear hy
   go_wp2_with fail
   refine (hmay _ B1).mono ?_
   rintro e y2 ⟨rfl, hy⟩
   have B2 : Below W.heap.size W y2 := B1.trans (hy.mono B1.size)
   clear xc0 xc1
   replace R0 := R0.later hy
   obtain ⟨xc0, xc1, _, _⟩ := R0.two
   clear hy
   go_wp2_with fail
   refine (known10_any _).mono ?_
   rintro e y9 ⟨rfl, hb9⟩
   go_wp2_with fail
   go_ret
   exact ⟨rfl, hBW.trans ((B2.trans (hb9.mono B2.size)).mono hBW.size)⟩
  case pos =>
   subst h0
   obtain ⟨x, hx⟩ : ∃ x, axesB ys (s.length : Int) = x := ⟨_, rfl⟩
   have HAX := Lib.hid hx
   clear hx
   cases x with
   | false =>
    have B0 : Below W.heap.size W W := Below.refl _ _
    obtain ⟨xc0, xc1, _, _⟩ := R0.two
    go_enter Tryz.func7, Tryz.ntmps7
    go_wp2_with fail
    (try rw [hW])
    clear hW
    refine (hfew).mono ?_
    rintro e y1 ⟨rfl, hy⟩
    have B1 : Below W.heap.size W y1 := B0.trans (hy.mono B0.size)
    clear xc0 xc1
    replace R0 := R0.later hy
    obtain ⟨xc0, xc1, _, _⟩ := R0.two
    clear hy
    go_wp2_with fail
    refine (hmay _ B1).mono ?_
    rintro e y2 ⟨rfl, hy⟩
    have B2 : Below W.heap.size W y2 := B1.trans (hy.mono B1.size)
    clear xc0 xc1
    replace R0 := R0.later hy
    obtain ⟨xc0, xc1, _, _⟩ := R0.two
    clear hy
    go_wp2_with fail
    refine (axesR_any (s.length : Int) (HD.out.later (hBW.trans (B2.mono hBW.size))) (by omega)).mono ?_
    rintro e y3 ⟨rfl, hy⟩
    have B3 : Below W.heap.size W y3 := B2.trans (hy.mono B2.size)
    clear xc0 xc1
    replace R0 := R0.later hy
    obtain ⟨xc0, xc1, _, _⟩ := R0.two
    clear hy
    rw [HAX.out]
    go_wp2_with fail
    refine (known10_any _).mono ?_
    rintro e y9 ⟨rfl, hb9⟩
    go_wp2_with fail
    go_ret
    exact ⟨rfl, hBW.trans ((B3.trans (hb9.mono B3.size)).mono hBW.size)⟩
   | true =>
    by_cases hn0 : n = 0
    case pos =>
     have hg : ((n : Int) == 0) = true := by simp [hn0]
     clear hn0
     have B0 : Below W.heap.size W W := Below.refl _ _
     obtain ⟨xc0, xc1, _, _⟩ := R0.two
     go_enter Tryz.func7, Tryz.ntmps7
     go_wp2_with fail
     (try rw [hW])
     clear hW
     refine (hfew).mono ?_
     rintro e y1 ⟨rfl, hy⟩
     have B1 : Below W.heap.size W y1 := B0.trans (hy.mono B0.size)
     clear xc0 xc1
     replace R0 := R0.later hy
     obtain ⟨xc0, xc1, _, _⟩ := R0.two
     clear hy
     go_wp2_with fail
     refine (hmay _ B1).mono ?_
     rintro e y2 ⟨rfl, hy⟩
     have B2 : Below W.heap.size W y2 := B1.trans (hy.mono B1.size)
     clear xc0 xc1
     replace R0 := R0.later hy
     obtain ⟨xc0, xc1, _, _⟩ := R0.two
     clear hy
     go_wp2_with fail
     refine (axesR_any (s.length : Int) (HD.out.later (hBW.trans (B2.mono hBW.size))) (by omega)).mono ?_
     rintro e y3 ⟨rfl, hy⟩
     have B3 : Below W.heap.size W y3 := B2.trans (hy.mono B2.size)
     clear xc0 xc1
     replace R0 := R0.later hy
     obtain ⟨xc0, xc1, _, _⟩ := R0.two
     clear hy
     rw [HAX.out]
     go_wp2_with fail
     refine (known10_any _).mono ?_
     rintro e y9 ⟨rfl, hb9⟩
     go_wp2_with fail
     go_ret
     exact ⟨rfl, hBW.trans ((B3.trans (hb9.mono B3.size)).mono hBW.size)⟩
    case neg =>
     have hg : ((n : Int) == 0) = false := by rw [beq_eq_false_iff_ne]; omega
     by_cases hn64 : n > 64
     case pos =>
      have hg2 : (n : Int) > 64 := by omega
      have B0 : Below W.heap.size W W := Below.refl _ _
      obtain ⟨xc0, xc1, _, _⟩ := R0.two
      go_enter Tryz.func7, Tryz.ntmps7
      go_wp2_with fail
      (try rw [hW])
      clear hW
      refine (hfew).mono ?_
      rintro e y1 ⟨rfl, hy⟩
      have B1 : Below W.heap.size W y1 := B0.trans (hy.mono B0.size)
      clear xc0 xc1
      replace R0 := R0.later hy
      obtain ⟨xc0, xc1, _, _⟩ := R0.two
      clear hy
      go_wp2_with fail
      refine (hmay _ B1).mono ?_
      rintro e y2 ⟨rfl, hy⟩
      have B2 : Below W.heap.size W y2 := B1.trans (hy.mono B1.size)
      clear xc0 xc1
      replace R0 := R0.later hy
      obtain ⟨xc0, xc1, _, _⟩ := R0.two
      clear hy
      go_wp2_with fail
      refine (axesR_any (s.length : Int) (HD.out.later (hBW.trans (B2.mono hBW.size))) (by omega)).mono ?_
      rintro e y3 ⟨rfl, hy⟩
      have B3 : Below W.heap.size W y3 := B2.trans (hy.mono B2.size)
      clear xc0 xc1
      replace R0 := R0.later hy
      obtain ⟨xc0, xc1, _, _⟩ := R0.two
      clear hy
      rw [HAX.out]
      go_wp2_with fail
      refine (known10_any _).mono ?_
      rintro e y9 ⟨rfl, hb9⟩
      go_wp2_with fail
      go_ret
      exact ⟨rfl, hBW.trans ((B3.trans (hb9.mono B3.size)).mono hBW.size)⟩
     case neg =>
      have hg2 : ¬ (n : Int) > 64 := by omega
      have B0 : Below W.heap.size W W := Below.refl _ _
      obtain ⟨xc0, xc1, _, _⟩ := R0.two
      go_enter Tryz.func7, Tryz.ntmps7
      go_wp2_with fail
      (try rw [hW])
      clear hW
      refine (hfew).mono ?_
      rintro e y1 ⟨rfl, hy⟩
      have B1 : Below W.heap.size W y1 := B0.trans (hy.mono B0.size)
      clear xc0 xc1
      replace R0 := R0.later hy
      obtain ⟨xc0, xc1, _, _⟩ := R0.two
      clear hy
      go_wp2_with fail
      refine (hmay _ B1).mono ?_
      rintro e y2 ⟨rfl, hy⟩
      have B2 : Below W.heap.size W y2 := B1.trans (hy.mono B1.size)
      clear xc0 xc1
      replace R0 := R0.later hy
      obtain ⟨xc0, xc1, _, _⟩ := R0.two
      clear hy
      go_wp2_with fail
      refine (axesR_any (s.length : Int) (HD.out.later (hBW.trans (B2.mono hBW.size))) (by omega)).mono ?_
      rintro e y3 ⟨rfl, hy⟩
      have B3 : Below W.heap.size W y3 := B2.trans (hy.mono B2.size)
      clear xc0 xc1
      replace R0 := R0.later hy
      obtain ⟨xc0, xc1, _, _⟩ := R0.two
      clear hy
      rw [HAX.out]
      have C3 : Below w.heap.size w y3 := hBW.trans (B3.mono hBW.size)
      obtain ⟨G, hG⟩ : ∃ G, y3.heap.size = G := ⟨_, rfl⟩
      obtain ⟨y4, hV⟩ : ∃ X, y3.alloc (.cells #[.slice a s.length ca, .slice none 0 0] 26) = X := ⟨_, rfl⟩
      have b34 : Below y3.heap.size y3 y4 := by rw [← hV]; exact (Below.refl _ _).alloc (Nat.le_refl _) _
      have RY : Row y4 G 26 #[.slice a s.length ca, .slice none 0 0] := by rw [← hG, ← hV]; exact Row.new _ _ _
      have R4 := R0.later b34
      rw [hG] at b34
      have HB4 := Lib.hid b34
      have HG := Lib.hid hG
      have HRY := Lib.hid RY
      have HR4 := Lib.hid R4
      have HC3 := Lib.hid C3
      have HR0lt := Lib.hid R0.lt
      have hV' := Lib.hid hV
      clear RY R4 b34 hV hG C3 hmay hfew
      go_wp2_with fail
      have hG := HG.out
      have hV := hV'.out
      (try simp only [hG, hV])
      clear hG hV
      clear xc0 xc1
      go_loopw [8] (fun i wr => ∃ (k : Nat) (v : Value), i = .int .i64 (k : Int) ∧ k ≤ qs.length ∧ Row wr w.heap.size 26 #[.slice a s.length ca, .slice b qs.length cb] ∧ Row wr G 26 #[.slice a s.length ca, v] ∧ RowO G 54 (fun W v x => ResQ G W v x 16) wr v (turn10 ql k) ∧ Below G y3 wr) (fun i _ => qs.length - (intOf i).toNat)
      case atStart => exact ⟨0, _, rfl, Nat.zero_le _, HR4.out, HRY.out, RowO.nil _ _ _ _, HB4.out⟩
      case round =>
       obtain ⟨k, v, rfl, hk, rx, rg, ⟨es, hown, hall⟩, hb⟩ := hrel
       have hsz := hb.size
       rw [HG.out] at hsz
       have hbr : Below y3.heap.size y3 wr := by rw [HG.out]; exact hb
       have hbw : Below w.heap.size w wr := HC3.out.trans (hbr.mono HC3.out.size)
       have hle : es.length = k := by rw [hall.1, turn10_len]
       have HRX := Lib.hid rx
       have HRG := Lib.hid rg
       have HOWN := Lib.hid hown
       have HALL := Lib.hid hall
       have HLE := Lib.hid hle
       have HB := Lib.hid hb
       have HBW := Lib.hid hbw
       have HSZ := Lib.hid hsz
       obtain ⟨x0, x1, _, _⟩ := rx.two
       clear rx rg hown hall hle hb hbw hbr
       by_cases hlt : k < qs.length
       · have hltI : (k : Int) < (qs.length : Int) := by omega
         obtain ⟨j, hj⟩ : ∃ j, k % n = j := ⟨_, rfl⟩
         have hjn : j < n := by rw [← hj]; exact Nat.mod_lt _ (by omega)
         have hm : Int.tmod (k : Int) (n : Int) = (j : Int) := by rw [Int.tmod_eq_emod_of_nonneg (by omega), ← hj]; exact (Int.natCast_emod k n).symm
         obtain ⟨b', o', e0, e1, e2, q, hbo, hqk, f0, f1, f2, hr1⟩ := (HE.out.later HBW.out (fun _ _ _ h => h.later HBW.out)).at (i := j) (by rw [HN.out]; exact hjn)
         subst hbo
         obtain ⟨u1, u2, j1, j2, hraw', _⟩ := id hr1
         simp only [Value.agg.injEq, Array.mk.injEq, List.cons.injEq, and_true] at hraw'
         obtain ⟨rfl, rfl, rfl⟩ := hraw'
         have hnext : turn10 ql (k + 1) = turn10 ql k ++ [q.rat] := turn10_next (by rw [HN.out, hj]; exact hqk)
         have HNX := Lib.hid hnext
         have HRQ := Lib.hid hr1
         have hj0 : (0 : Int) ≤ (j : Int) := by omega
         have hjI : (j : Int) < (n : Int) := by omega
         have hnI : ¬ (n : Int) = 0 := by omega
         obtain ⟨n1, hn1⟩ : ∃ n, q.num.length = n := ⟨_, rfl⟩
         obtain ⟨n2, hn2⟩ : ∃ n, q.den.length = n := ⟨_, rfl⟩
         have HN1 := Lib.hid hn1
         have HN2 := Lib.hid hn2
         rw [hn1] at f1
         rw [hn2] at f2
         obtain ⟨wq, hV9⟩ : ∃ X, wr.alloc (.cells #[.bool q.neg, .slice u1 n1 j1, .slice u2 n2 j2] 54) = X := ⟨_, rfl⟩
         have bq : Below wr.heap.size wr wq := by rw [← hV9]; exact (Below.refl _ _).alloc (Nat.le_refl _) _
         have RQ : Row wq wr.heap.size 54 #[.bool q.neg, .slice u1 n1 j1, .slice u2 n2 j2] := by rw [← hV9]; exact Row.new _ _ _
         have HBQ := Lib.hid bq
         have HRQ9 := Lib.hid RQ
         clear hj hqk hr1 hnext hn1 hn2 RQ bq
         by_cases l1 : n1 ≤ 3
         case neg =>
          have l1I : (n1 : Int) > 3 := by omega
          obtain ⟨c0, c1, c2, _, _, _⟩ := HRQ9.out.three
          go_wp2_with fail
          refine (known10_any _).mono ?_
          rintro e y9 ⟨rfl, hb9⟩
          go_wp2_with fail
          go_ret
          have hz := HBW.out.trans (HBQ.out.mono HBW.out.size)
          exact ⟨rfl, hz.trans (hb9.mono hz.size)⟩
         case pos =>
          have l1I : ¬ (n1 : Int) > 3 := by omega
          by_cases l2 : n2 ≤ 3
          case neg =>
           have l2I : (n2 : Int) > 3 := by omega
           obtain ⟨c0, c1, c2, _, _, _⟩ := HRQ9.out.three
           go_wp2_with fail
           refine (known10_any _).mono ?_
           rintro e y9 ⟨rfl, hb9⟩
           go_wp2_with fail
           go_ret
           have hz := HBW.out.trans (HBQ.out.mono HBW.out.size)
           exact ⟨rfl, hz.trans (hb9.mono hz.size)⟩
          case pos =>
           have l2I : ¬ (n2 : Int) > 3 := by omega
           have rg := HRG.out.later HBQ.out
           have rx := HRX.out.later HBQ.out
           have hown := HOWN.out.later HBQ.out
           have hszq : G ≤ wq.heap.size := Nat.le_trans HSZ.out HBQ.out.size
           have hbq : Below G y3 wq := HB.out.trans (HBQ.out.mono HSZ.out)
           have hall : AllE (fun v x => ResQ G wq v x 16) es (turn10 ql k) := HALL.out.imp fun u x _ h => h.later HBQ.out
           obtain ⟨c0, c1, c2, _, _, _⟩ := HRQ9.out.three
           have cg1 := rg.cell 1
           obtain ⟨r, hrv, hrb, hrne, hrA⟩ := hown.hits10 hszq
           have ng := hrne _ _ _ rg (by decide)
           have nx := hrne _ _ _ rx (by decide)
           have nq : wr.heap.size ≠ r := hrA _ HRQ9.out.lt (fun e => by have h := (World.ownsRow.lt HOWN.out _ e).2; omega)
           have mkA : ∀ Y, Kept r wq Y → Y.cell? ⟨G, 1, none⟩ = some v ∧ (Y.cell? ⟨wr.heap.size, 0, none⟩ = some (.bool q.neg) ∧ Y.cell? ⟨wr.heap.size, 1, none⟩ = some (.slice u1 n1 j1) ∧ Y.cell? ⟨wr.heap.size, 2, none⟩ = some (.slice u2 n2 j2)) ∧ Kept r wq Y := fun Y h => ⟨h.cell cg1 ng, ⟨h.cell c0 nq, h.cell c1 nq, h.cell c2 nq⟩, h⟩
           have k0 : Kept r wq wq.drew := (Kept.refl r wq).drew
           have hk64 : es.length ≤ 64 := by rw [HLE.out]; omega
           have hrq := (HRQ.out.later HBQ.out).arg (n := 3) (by rw [HN1.out]; exact l1) (by rw [HN2.out]; exact l2)
           rw [HN1.out, HN2.out] at hrq
           have HRQ3 := Lib.hid hrq
           have HOWN2 := Lib.hid hown
           have HALL2 := Lib.hid hall
           clear hown hall hrq
           go_wp2_with fail
           (try rw [hV9])
           clear hV9
           refine wp_region_L (S := fun Y => Y.cell? ⟨G, 1, none⟩ = some v ∧ (Y.cell? ⟨wr.heap.size, 0, none⟩ = some (.bool q.neg) ∧ Y.cell? ⟨wr.heap.size, 1, none⟩ = some (.slice u1 n1 j1) ∧ Y.cell? ⟨wr.heap.size, 2, none⟩ = some (.slice u2 n2 j2)) ∧ Kept r wq Y) (z := 8) (by kernel_rfl) (mkA _ k0) (fun hHeld => ?_)
           have bd : Below wq.heap.size wq wq.drew := (Below.refl _ _).drew
           refine todo [0, 1, 2] ?_
           iterate 3
            refine todoL (v := ?_) rfl (by kernel_rfl) (fun _ _ _ h => h) (by assumption) (Or.inl ⟨by rfl, ?_⟩) ?_
            rotate_left
            · intro w hSw; (try dsimp only at hSw); go_simp; (try with_reducible rfl)
            try simp only [Act.put, nA, nB, nC, nD, nE, nF]
           refine todone ?_
           refine wpAnyL_one (i := 3) (by kernel_rfl) rfl (fun K hK => ?sbm_3)
           go_simp
           refine (ofRR_any (n := 3) (HRQ3.out.later bd) (by decide)).mono ?_
           rintro e w5 ⟨r5, rfl, q5, hb5⟩
           clear hm hnI
           have b5 : Below wq.heap.size wq w5 := bd.trans (hb5.mono bd.size)
           have k5 : Kept r wq w5 := (Kept.refl r wq).below b5
           have Q5 := Lib.hid q5
           clear q5
           go_simp
           refine hK.out _ _ (fun _ => mkA _ k5) (fun hHeld2 => ?mbm_3)
           clear hK K hHeld
           have hHeld := hHeld2 (by decide)
           clear hHeld2
           try simp only [Act.put, nA, nB, nC, nD, nE, nF]
           refine wpAnyL_one (i := 4) (by kernel_rfl) rfl (fun K hK => ?sbm_4)
           go_simp
           refine (backR_any Q5.out.arg (by decide)).mono ?_
           rintro e w6 ⟨r6, rfl, q6, hb6⟩
           have b6 : Below wq.heap.size wq w6 := b5.trans (hb6.mono b5.size)
           have k6 : Kept r wq w6 := (Kept.refl r wq).below b6
           have z6 := b6.size
           have bw6 : Below G y3 w6 := hbq.trans (b6.mono hszq)
           have Q6 := Lib.hid q6
           obtain ⟨m5, p1, p2, p3, p4, p5, p6, rfl⟩ := q6.shape
           clear q6
           go_simp
           refine hK.out _ _ (fun _ => mkA _ k6) (fun hHeld2 => ?mbm_4)
           clear hK K hHeld
           have hHeld := hHeld2 (by decide)
           clear hHeld2
           try simp only [Act.put, nA, nB, nC, nD, nE, nF]
           refine wpAnyL_one (i := 5) (by kernel_rfl) rfl (fun K hK => ?sbm_5)
           go_simp
           refine hK.out _ _ (fun _ => mkA _ (k6.alloc _)) (fun hHeld2 => ?mbm_5)
           clear hK K hHeld
           have hHeld := hHeld2 (by decide)
           clear hHeld2
           try simp only [Act.put, nA, nB, nC, nD, nE, nF]
           refine wpAnyL_one (i := 6) (by kernel_rfl) rfl (fun K hK => ?sbm_6)
           refine step_append_lies _ rfl _ _ 24 rfl G 54 i0 _ 3 56 Tryz.underlying24 hi hz0 hz1 hz2 rfl (by decide) _ es.length (flat3 es) rfl ((HOWN2.out.later b6).later ((Below.refl _ _).alloc (Nat.le_refl _) _)) ⟨w6.heap.size, 0, none⟩ 1 1 [.bool m5, .slice p1 p2 p3, .slice p4 p5 p6] rfl rfl (cell_three_new _ _ _ _ _) (by simp [Value.oneCell']) (by omega) (by unfold maxLen; omega) (by omega) (by simp; omega) _ rfl ?_
           intro g7 cp w7 hown' hgrow hg' hlt'
           have hk7 : Kept r wq w7 := (k6.alloc _).grown hgrow hrv
           refine hK.out _ _ (fun _ => mkA _ hk7) (fun hHeld2 => ?mbm_6)
           clear hK K hHeld
           have hHeld := hHeld2 (by decide)
           clear hHeld2
           try simp only [Act.put, nA, nB, nC, nD, nE, nF]
           refine todo [7] ?_
           iterate 1
            refine todoL (v := ?_) rfl (by kernel_rfl) (fun _ _ _ h => h) (by assumption) (Or.inl ⟨by rfl, ?_⟩) ?_
            rotate_left
            · intro w hSw; (try dsimp only at hSw); go_simp; (try with_reducible rfl)
            try simp only [Act.put, nA, nB, nC, nD, nE, nF]
           refine todone ?_
           have R7 : Row w7 G 26 #[.slice a s.length ca, v] := rg.kept hk7 ng
           have f7 := R7.free 1
           have c7 := R7.cell 1
           refine wpAnyL_one (i := 8) (by kernel_rfl) rfl (fun K hK => ?sbm_8)
           go_simp
           refine hK.out _ _ (fun h => absurd rfl h) (fun _ => ?mbm_8)
           clear hK K
           try simp only [Act.put, nA, nB, nC, nD, nE, nF]
           refine wpAnyL_done (by kernel_rfl) ?_ _
           go_wp2
           go_roundw
           case rel =>
            have Q6' : ResQ G w6 (E3.agg ⟨.bool m5, .slice p1 p2 p3, .slice p4 p5 p6⟩) q.rat 16 := ResQ.mono Q6.out (by have := b5.size; omega)
            obtain ⟨hrow7, hb7⟩ := pushE (P := fun Y v x => ResQ G Y v x 16) (e := ⟨.bool m5, .slice p1 p2 p3, .slice p4 p5 p6⟩) (base := G) (w := y3) (wr := w6) bw6 (by omega) (HOWN2.out.later b6) (HALL2.out.imp fun u x _ h => h.later b6) Q6' (fun u y h => h.apart (HOWN2.out.later b6) hgrow (by decide)) hown' hgrow
            refine ⟨k + 1, _, by go_num, by omega, (rx.kept hk7 nx).far (by show w.heap.size ≠ G; have h1 := HRX.out.lt; have h2 := HC3.out.size; have h3 := HR0lt.out; have h4 := HG.out; omega) _, R7.set21 _, ?_, hb7.setCell (by show G ≤ G; omega) _⟩
            rw [HNX.out]
            exact hrow7.far R7 (by decide) (kept1 _) (fun u y h => h.far R7 (by decide) (kept1 _))
           case measure => simp [intOf]; omega
       · obtain rfl : k = qs.length := by omega
         have hltI : ¬ (qs.length : Int) < (qs.length : Int) := by omega
         have hown := HOWN.out
         obtain ⟨av, cv, rfl⟩ := ownT_slice hown
         obtain ⟨L0, hL0⟩ : ∃ L, qs.map Q3.rat = L := ⟨_, rfl⟩
         obtain ⟨YL, hYL⟩ : ∃ L, turn10 ql qs.length = L := ⟨_, rfl⟩
         have hL0l : L0.length = qs.length := by rw [← hL0]; simp
         have hYLl : YL.length = qs.length := by rw [← hYL]; exact turn10_len _ _
         have ok0 : Ok10 s L0 := by rw [← hL0]; exact Ok10.of HM.out
         have okY : Ok10 s YL := ⟨ok0.ok, by rw [hYLl, ← hL0l]; exact ok0.len⟩
         have O0 := Lib.hid ok0
         have OY := Lib.hid okY
         have hr4 : s.length ≤ 4 := ok0.ok.rank
         have lyn : ys.length ≤ 4 := by
          rcases Nat.lt_or_ge 4 ys.length with h5 | h5
          · have h1 := axesB_rise HAX.out
            have h2 := fun i hi => (axesB_at HAX.out i hi).1
            have e0 := h2 0 (by omega)
            have e1 := h1 1 0 (by omega) (by omega)
            have e2 := h1 2 1 (by omega) (by omega)
            have e3 := h1 3 2 (by omega) (by omega)
            have e4 := h1 4 3 (by omega) (by omega)
            have e5 := h2 4 (by omega)
            omega
          · exact h5
         have HAC := Lib.hid (axC_zero10 HAX.out (by omega))
         have hrow : RowO G 54 (fun W v x => ResQ G W v x 16) wr (.slice av YL.length cv) YL := ⟨es, by have h := hown; rw [HLE.out] at h; rw [hYLl, ← hYL] at *; first | exact h | (rw [turn10_len] at *; exact h), by rw [← hYL]; exact HALL.out⟩
         obtain ⟨qy, hTY, hqy, hly, hoky⟩ := mixT10 (HT.out.later HBW.out).sh (HT.out.later HBW.out).nila hrow
         have hqyl : qy.length = YL.length := by rw [← hqy]; simp
         have hmy : mayT s qy = 0 := okY.may hqy hoky
         rw [hYLl, ← HLE.out] at hTY
         have TY := Lib.hid hTY
         have HQY := Lib.hid hqy
         have HLY := Lib.hid hly
         have HMY := Lib.hid hmy
         have HL0 := Lib.hid hL0
         have HL0l := Lib.hid hL0l
         have HYLl := Lib.hid hYLl
         have hqy64 : qy.length ≤ 64 := by omega
         obtain ⟨SA, hSA⟩ : ∃ S, dropS s ys = S := ⟨_, rfl⟩
         obtain ⟨ZL, hZL⟩ : ∃ L, List.zipWith (fun x y => x + y) L0 YL = L := ⟨_, rfl⟩
         obtain ⟨LA, hLA⟩ : ∃ L, sumF s ys L0 = L := ⟨_, rfl⟩
         obtain ⟨LB, hLB⟩ : ∃ L, sumF s ys YL = L := ⟨_, rfl⟩
         obtain ⟨LC, hLC⟩ : ∃ L, sumF s ys ZL = L := ⟨_, rfl⟩
         have okZ : Ok10 s ZL := ⟨ok0.ok, by rw [← hZL, List.length_zipWith, hYLl, ← hL0l, Nat.min_self]; exact ok0.len⟩
         have OZ := Lib.hid okZ
         have okA : Ok10 SA LA := by rw [← hSA, ← hLA]; exact ok0.sum ys
         have okB : Ok10 SA LB := by rw [← hSA, ← hLB]; exact okY.sum ys
         have okC : Ok10 SA LC := by rw [← hSA, ← hLC]; exact okZ.sum ys
         have OA := Lib.hid okA
         have OC := Lib.hid okC
         have HBA := Lib.hid (show LB.length = LA.length by rw [okA.len, okB.len])
         have hsum : List.zipWith (fun x y => x + y) LA LB = LC := by
          rw [← hLA, ← hLB, ← hLC]
          exact (sumF_add fun p hp => by rw [← hZL]; exact zipAdd_at (by rw [hYLl, hL0l]) p).symm
         have HSUM := Lib.hid hsum
         have hz64 : ZL.length ≤ 64 := by rw [okZ.len, ← ok0.len]; omega
         have HSA := Lib.hid hSA
         have HZL := Lib.hid hZL
         have HLA := Lib.hid hLA
         have HLB := Lib.hid hLB
         have HLC := Lib.hid hLC
         have RX := HRX.out
         have RY := HRG.out
         clear hown hL0 hYL ok0 okY hrow hTY hqy hly hoky hmy hSA hZL hLA hLB hLC okZ okA okB okC hsum hqyl hL0l hYLl hlt hk x0 x1
         have B0 : Below wr.heap.size wr wr := Below.refl _ _
         obtain ⟨xc0, xc1, _, _⟩ := RX.two
         obtain ⟨yc0, yc1, _, _⟩ := RY.two
         go_wp2_with fail
         refine (addX10 (n := 16) (HT.out.later (HBW.out.trans (B0.mono HBW.out.size))) TY.out HM.out HMY.out (HL.out.more10 (by decide)) HLY.out (by decide)).mono ?_
         rintro e zZ ⟨hg, hy⟩
         rw [HL0.out, HQY.out, HZL.out] at hg
         obtain ⟨raZ, rbZ, rcaZ, rcbZ, rfl, TZ⟩ := hg
         obtain ⟨y1, hV⟩ : ∃ X, zZ.alloc (.cells #[.slice raZ s.length rcaZ, .slice rbZ ZL.length rcbZ] 26) = X := ⟨_, rfl⟩
         have bz : Below zZ.heap.size zZ y1 := by rw [← hV]; exact (Below.refl _ _).alloc (Nat.le_refl _) _
         have NZ : Row y1 zZ.heap.size 26 #[.slice raZ s.length rcaZ, .slice rbZ ZL.length rcbZ] := by rw [← hV]; exact Row.new _ _ _
         have hyz := hy.trans (bz.mono hy.size)
         replace TZ := Lib.hid (TZ.later bz)
         clear hy bz
         have B1 : Below wr.heap.size wr y1 := B0.trans (hyz.mono B0.size)
         clear xc0 xc1 yc0 yc1
         replace RX := RX.later hyz
         replace RY := RY.later hyz
         replace TY := Lib.hid (TY.out.later hyz)
         obtain ⟨xc0, xc1, _, _⟩ := RX.two
         obtain ⟨yc0, yc1, _, _⟩ := RY.two
         clear hyz
         obtain ⟨Zc0, Zc1, _, _⟩ := NZ.two
         go_wp2_with fail
         (try rw [hV])
         (try clear hV)
         refine (sumT10 (n := 3) (ys := ys) (HT.out.later (HBW.out.trans (B1.mono HBW.out.size))) HM.out HL.out hq64 (HD.out.later (HBW.out.trans (B1.mono HBW.out.size))) ND.out (by omega) (by decide) HAC.out).mono ?_
         rintro e zA ⟨hg, hy⟩
         rw [HL0.out, HSA.out, HLA.out] at hg
         obtain ⟨raA, rbA, rcaA, rcbA, rfl, TA⟩ := hg
         obtain ⟨y2, hV⟩ : ∃ X, zA.alloc (.cells #[.slice raA SA.length rcaA, .slice rbA LA.length rcbA] 26) = X := ⟨_, rfl⟩
         have bz : Below zA.heap.size zA y2 := by rw [← hV]; exact (Below.refl _ _).alloc (Nat.le_refl _) _
         have NA : Row y2 zA.heap.size 26 #[.slice raA SA.length rcaA, .slice rbA LA.length rcbA] := by rw [← hV]; exact Row.new _ _ _
         have hyz := hy.trans (bz.mono hy.size)
         replace TA := Lib.hid (TA.later bz)
         clear hy bz
         have B2 : Below wr.heap.size wr y2 := B1.trans (hyz.mono B1.size)
         clear xc0 xc1 yc0 yc1 Zc0 Zc1
         replace RX := RX.later hyz
         replace RY := RY.later hyz
         replace NZ := NZ.later hyz
         replace TY := Lib.hid (TY.out.later hyz)
         replace TZ := Lib.hid (TZ.out.later hyz)
         obtain ⟨xc0, xc1, _, _⟩ := RX.two
         obtain ⟨yc0, yc1, _, _⟩ := RY.two
         obtain ⟨Zc0, Zc1, _, _⟩ := NZ.two
         clear hyz
         obtain ⟨Ac0, Ac1, _, _⟩ := NA.two
         go_wp2_with fail
         (try rw [hV])
         (try clear hV)
         refine (sumT10 (n := 16) (ys := ys) TY.out HMY.out HLY.out hqy64 (HD.out.later (HBW.out.trans (B2.mono HBW.out.size))) ND.out (by omega) (by decide) HAC.out).mono ?_
         rintro e zB ⟨hg, hy⟩
         rw [HQY.out, HSA.out, HLB.out] at hg
         obtain ⟨raB, rbB, rcaB, rcbB, rfl, TB⟩ := hg
         obtain ⟨y3, hV⟩ : ∃ X, zB.alloc (.cells #[.slice raB SA.length rcaB, .slice rbB LB.length rcbB] 26) = X := ⟨_, rfl⟩
         have bz : Below zB.heap.size zB y3 := by rw [← hV]; exact (Below.refl _ _).alloc (Nat.le_refl _) _
         have NB : Row y3 zB.heap.size 26 #[.slice raB SA.length rcaB, .slice rbB LB.length rcbB] := by rw [← hV]; exact Row.new _ _ _
         have hyz := hy.trans (bz.mono hy.size)
         replace TB := Lib.hid (TB.later bz)
         clear hy bz
         have B3 : Below wr.heap.size wr y3 := B2.trans (hyz.mono B2.size)
         clear xc0 xc1 yc0 yc1 Zc0 Zc1 Ac0 Ac1
         replace RX := RX.later hyz
         replace RY := RY.later hyz
         replace NZ := NZ.later hyz
         replace NA := NA.later hyz
         replace TY := Lib.hid (TY.out.later hyz)
         replace TZ := Lib.hid (TZ.out.later hyz)
         replace TA := Lib.hid (TA.out.later hyz)
         obtain ⟨xc0, xc1, _, _⟩ := RX.two
         obtain ⟨yc0, yc1, _, _⟩ := RY.two
         obtain ⟨Zc0, Zc1, _, _⟩ := NZ.two
         obtain ⟨Ac0, Ac1, _, _⟩ := NA.two
         clear hyz
         obtain ⟨Bc0, Bc1, _, _⟩ := NB.two
         go_wp2_with fail
         (try rw [hV])
         (try clear hV)
         refine (sumR10 (n := 2 * 16 + 10) (ys := ys) TZ.out (HD.out.later (HBW.out.trans (B3.mono HBW.out.size))) ND.out (by omega) OZ.out hz64 (by decide) HAC.out).mono ?_
         rintro e zC ⟨hg, hy⟩
         rw [HSA.out, HLC.out] at hg
         obtain ⟨raC, rbC, rcaC, rcbC, rfl, TC⟩ := hg
         obtain ⟨y4, hV⟩ : ∃ X, zC.alloc (.cells #[.slice raC SA.length rcaC, .slice rbC LC.length rcbC] 26) = X := ⟨_, rfl⟩
         have bz : Below zC.heap.size zC y4 := by rw [← hV]; exact (Below.refl _ _).alloc (Nat.le_refl _) _
         have NC : Row y4 zC.heap.size 26 #[.slice raC SA.length rcaC, .slice rbC LC.length rcbC] := by rw [← hV]; exact Row.new _ _ _
         have hyz := hy.trans (bz.mono hy.size)
         replace TC := Lib.hid (TC.later bz)
         clear hy bz
         have B4 : Below wr.heap.size wr y4 := B3.trans (hyz.mono B3.size)
         clear xc0 xc1 yc0 yc1 Zc0 Zc1 Ac0 Ac1 Bc0 Bc1
         replace RX := RX.later hyz
         replace RY := RY.later hyz
         replace NZ := NZ.later hyz
         replace NA := NA.later hyz
         replace NB := NB.later hyz
         replace TY := Lib.hid (TY.out.later hyz)
         replace TZ := Lib.hid (TZ.out.later hyz)
         replace TA := Lib.hid (TA.out.later hyz)
         replace TB := Lib.hid (TB.out.later hyz)
         obtain ⟨xc0, xc1, _, _⟩ := RX.two
         obtain ⟨yc0, yc1, _, _⟩ := RY.two
         obtain ⟨Zc0, Zc1, _, _⟩ := NZ.two
         obtain ⟨Ac0, Ac1, _, _⟩ := NA.two
         obtain ⟨Bc0, Bc1, _, _⟩ := NB.two
         clear hyz
         obtain ⟨Cc0, Cc1, _, _⟩ := NC.two
         go_wp2_with fail
         (try rw [hV])
         (try clear hV)
         refine (addR10 (n := (16 + 10) * 2 ^ 6) (TA.out.more10 (by decide)) TB.out OA.out HBA.out (by decide)).mono ?_
         rintro e zD ⟨hg, hy⟩
         rw [HSUM.out] at hg
         obtain ⟨raD, rbD, rcaD, rcbD, rfl, TD⟩ := hg
         obtain ⟨y5, hV⟩ : ∃ X, zD.alloc (.cells #[.slice raD SA.length rcaD, .slice rbD LC.length rcbD] 26) = X := ⟨_, rfl⟩
         have bz : Below zD.heap.size zD y5 := by rw [← hV]; exact (Below.refl _ _).alloc (Nat.le_refl _) _
         have ND : Row y5 zD.heap.size 26 #[.slice raD SA.length rcaD, .slice rbD LC.length rcbD] := by rw [← hV]; exact Row.new _ _ _
         have hyz := hy.trans (bz.mono hy.size)
         replace TD := Lib.hid (TD.later bz)
         clear hy bz
         have B5 : Below wr.heap.size wr y5 := B4.trans (hyz.mono B4.size)
         clear xc0 xc1 yc0 yc1 Zc0 Zc1 Ac0 Ac1 Bc0 Bc1 Cc0 Cc1
         replace RX := RX.later hyz
         replace RY := RY.later hyz
         replace NZ := NZ.later hyz
         replace NA := NA.later hyz
         replace NB := NB.later hyz
         replace NC := NC.later hyz
         replace TY := Lib.hid (TY.out.later hyz)
         replace TZ := Lib.hid (TZ.out.later hyz)
         replace TA := Lib.hid (TA.out.later hyz)
         replace TB := Lib.hid (TB.out.later hyz)
         replace TC := Lib.hid (TC.out.later hyz)
         obtain ⟨xc0, xc1, _, _⟩ := RX.two
         obtain ⟨yc0, yc1, _, _⟩ := RY.two
         obtain ⟨Zc0, Zc1, _, _⟩ := NZ.two
         obtain ⟨Ac0, Ac1, _, _⟩ := NA.two
         obtain ⟨Bc0, Bc1, _, _⟩ := NB.two
         obtain ⟨Cc0, Cc1, _, _⟩ := NC.two
         clear hyz
         obtain ⟨Dc0, Dc1, _, _⟩ := ND.two
         go_wp2_with fail
         (try rw [hV])
         (try clear hV)
         refine (sameA10 TC.out TD.out OC.out rfl rfl (by decide) (by decide)).mono ?_
         rintro e y6 ⟨rfl, hy⟩
         have B6 : Below wr.heap.size wr y6 := B5.trans (hy.mono B5.size)
         clear xc0 xc1 yc0 yc1 Zc0 Zc1 Ac0 Ac1 Bc0 Bc1 Cc0 Cc1 Dc0 Dc1
         replace RX := RX.later hy
         replace RY := RY.later hy
         replace NZ := NZ.later hy
         replace NA := NA.later hy
         replace NB := NB.later hy
         replace NC := NC.later hy
         replace ND := ND.later hy
         replace TY := Lib.hid (TY.out.later hy)
         replace TZ := Lib.hid (TZ.out.later hy)
         replace TA := Lib.hid (TA.out.later hy)
         replace TB := Lib.hid (TB.out.later hy)
         replace TC := Lib.hid (TC.out.later hy)
         replace TD := Lib.hid (TD.out.later hy)
         obtain ⟨xc0, xc1, _, _⟩ := RX.two
         obtain ⟨yc0, yc1, _, _⟩ := RY.two
         obtain ⟨Zc0, Zc1, _, _⟩ := NZ.two
         obtain ⟨Ac0, Ac1, _, _⟩ := NA.two
         obtain ⟨Bc0, Bc1, _, _⟩ := NB.two
         obtain ⟨Cc0, Cc1, _, _⟩ := NC.two
         obtain ⟨Dc0, Dc1, _, _⟩ := ND.two
         clear hy
         clear yc0 yc1 Zc0 Zc1 Ac0 Ac1 Bc0 Bc1 Cc0 Cc1 Dc0 Dc1
         clear TY TZ TA TB TC TD
         go_wp2_with fail
         refine (intRR_any 0 _ (by decide) (by decide)).mono ?_
         rintro e y7 ⟨r7, rfl, q7, hy⟩
         obtain ⟨m7, a7, b7, c7, d7, e7, f7, rfl⟩ := q7.shape10
         obtain ⟨BS, hBS⟩ : ∃ B, y6.heap.size = B := ⟨_, rfl⟩
         have BS1 := Lib.hid hBS
         rw [hBS] at q7
         obtain ⟨GS, hGS⟩ : ∃ G, y7.heap.size = G := ⟨_, rfl⟩
         have GS1 := Lib.hid hGS
         have hBG : BS ≤ GS := by rw [← hBS, ← hGS]; exact hy.size
         obtain ⟨y8, hV⟩ : ∃ X, y7.alloc (.cells #[.bool m7, .slice a7 b7 c7, .slice d7 e7 f7] 58) = X := ⟨_, rfl⟩
         have bz : Below y7.heap.size y7 y8 := by rw [← hV]; exact (Below.refl _ _).alloc (Nat.le_refl _) _
         have NS : Row y8 GS 58 #[.bool m7, .slice a7 b7 c7, .slice d7 e7 f7] := by rw [← hGS, ← hV]; exact Row.new _ _ _
         have hyz := hy.trans (bz.mono hy.size)
         have HYZ := Lib.hid hyz
         have HV0 := Lib.hid B6
         have S8 : ResR BS y8 (.agg #[.bool m7, .slice a7 b7 c7, .slice d7 e7 f7]) (totL (L0.take 0)) 480 := by
          have h := (q7.later bz).more (m := 480) (by decide)
          rw [intQ_zero] at h
          exact h
         have HS8 := Lib.hid S8
         have HNS := Lib.hid NS
         have g8 : GS + 1 = y8.heap.size := by rw [← hV, World.size_alloc, hGS]
         have HG8 := Lib.hid g8
         clear hy bz S8 NS q7 hBS hGS g8
         have B8 : Below wr.heap.size wr y8 := B6.trans (hyz.mono B6.size)
         clear xc0 xc1
         replace RX := RX.later hyz
         obtain ⟨xc0, xc1, _, _⟩ := RX.two
         clear hyz
         have hV8 := Lib.hid hV
         have HX8 := Lib.hid RX
         have HB8 := Lib.hid B8
         clear hV
         go_wp2_with fail
         have hV := hV8.out
         have hGS := GS1.out
         (try simp only [hGS, hV])
         clear hV hGS
         clear xc0 xc1
         obtain ⟨iS, hiS, hzA, hzB, hzC⟩ := info_parts infoS
         go_loopw [20, 22] (fun u i wi => ∃ m : Nat, i = .int .i64 (m : Int) ∧ m ≤ s.length ∧ NumS y8.heap.size wi u (rangeI m) ∧ Below y8.heap.size y8 wi) (fun _ i _ => s.length - (intOf i).toNat)
         case atStart => exact ⟨0, rfl, Nat.zero_le _, World.ownsRow_nil _ _ _ _, Below.refl _ _⟩
         case round =>
          rename World => wi
          obtain ⟨m, rfl, hm, hown, hbi⟩ := hrel
          have hszi := hbi.size
          obtain ⟨x0, x1, _, _⟩ := (HX8.out.later hbi).two
          have hkl := rangeI_len m
          have hnx := rangeI_next m
          by_cases hltm : m < s.length
          · have hltmI : (m : Int) < (s.length : Int) := by omega
            obtain ⟨zs, hzs⟩ : ∃ zs, rangeI m = zs := ⟨_, rfl⟩
            rw [hzs] at hown hnx hkl
            have HNX := Lib.hid hnx
            obtain ⟨av1, cv1, rfl⟩ := ownT_slice hown
            have hz4 : zs.length ≤ 4 := by omega
            clear hzs hnx hkl
            go_wp2_with (at_builtin; (refine wpList_append_own _ rfl _ _ 22 rfl y8.heap.size 3 iS (.int .i64 0) 1 8 Tryz.underlying22 hiS hzA hzB hzC rfl (by decide) _ zs.length (zs.map (Value.int .i64)) rfl (hown.later ((Below.refl _ _).alloc (Nat.le_refl _) _)) ⟨wi.heap.size, 0, none⟩ 1 1 [.int .i64 (m : Int)] rfl rfl (cell_one_new _ _ _) (by simp [Value.oneCell']) (by unfold maxLen; omega) (by omega) (by simp; omega) ?_; intro v' w6 hown' hgrow _))
            have hb6 : Below y8.heap.size y8 w6 := (hbi.alloc hszi _).grown hgrow (by simp; omega) (fun q hq => (World.ownsRow.lt hown q hq).1)
            have hN6 : NumS y8.heap.size w6 v' (rangeI (m + 1)) := by
             rw [HNX.out]
             unfold NumS
             rw [List.length_append, List.map_append]
             exact hown'
            have HN6 := Lib.hid hN6
            clear hN6 hown' hgrow
            (try go_wp2_with fail)
            go_roundw
            case rel => exact ⟨m + 1, by go_num, by omega, HN6.out, hb6⟩
            case measure => simp [intOf]; omega
          · obtain rfl : m = s.length := by omega
            have hltmI : ¬ (s.length : Int) < (s.length : Int) := by omega
            obtain ⟨RL, hRL⟩ : ∃ R, rangeI s.length = R := ⟨_, rfl⟩
            have hRll : RL.length = s.length := by rw [← hRL]; exact rangeI_len _
            rw [hRL] at hown
            have hwR : Wid RL := fun x hx => by
             rw [← hRL] at hx
             unfold rangeI at hx
             obtain ⟨i, hi, rfl⟩ := List.mem_map.1 hx
             have := List.mem_range.1 hi
             show -9223372036854775808 ≤ (i : Int) ∧ (i : Int) ≤ 9223372036854775807
             omega
            obtain ⟨av1, cv1, rfl⟩ := ownT_slice hown
            have HRS := Lib.hid (ResS.mk hown hwR)
            have HRL := Lib.hid hRL
            have HRll := Lib.hid hRll
            have HBI := Lib.hid hbi
            have hNSi := HNS.out.later hbi
            have HNSi := Lib.hid hNSi
            have hSi := HS8.out.later hbi
            have HSi := Lib.hid hSi
            have HXi := Lib.hid (HX8.out.later hbi)
            have HCi := Lib.hid ((HB8.out.trans (hbi.mono HB8.out.size)))
            have hBSi : Below BS y6 wi := by
             have h := BS1.out
             have h1 := HB8.out
             have h2 := HYZ.out
             rw [← h]
             exact h2.trans (hbi.mono h2.size)
            have HBSi := Lib.hid hBSi
            clear hown hwR hRL hRll hbi hNSi hSi hkl hnx hBSi hm hszi hltm
            go_wp2_with fail
            clear x0 x1 hltmI
            go_loopw [23] (fun i wt => ∃ (k : Nat) (m : Bool) (p1 : Option Addr) (p2 p3 : Nat) (p4 : Option Addr) (p5 p6 : Nat), i = .int .i64 (k : Int) ∧ k ≤ qs.length ∧ Row wt GS 58 #[.bool m, .slice p1 p2 p3, .slice p4 p5 p6] ∧ ResR BS wt (.agg #[.bool m, .slice p1 p2 p3, .slice p4 p5 p6]) (totL (L0.take k)) 480 ∧ ResS y8.heap.size wt (.slice av1 RL.length cv1) RL ∧ Below BS y6 wt) (fun i _ => qs.length - (intOf i).toNat)
            case atStart => exact ⟨0, _, _, _, _, _, _, _, rfl, Nat.zero_le _, HNSi.out, HSi.out, HRS.out, HBSi.out⟩
            case round =>
             rename World => wt
             obtain ⟨k, m1, p1, p2, p3, p4, p5, p6, rfl, hk, rs, hS, hR, hbt⟩ := hrel
             have hszt := hbt.size
             rw [BS1.out] at hszt
             have hbV : Below y6.heap.size y6 wt := by rw [BS1.out]; exact hbt
             have hbx : Below wr.heap.size wr wt := HV0.out.trans (hbV.mono HV0.out.size)
             have hbw : Below w.heap.size w wt := HBW.out.trans (hbx.mono HBW.out.size)
             have rx := HRX.out.later hbx
             have HS := Lib.hid hS
             have HR := Lib.hid hR
             have HBT := Lib.hid hbt
             have HBX := Lib.hid hbx
             have HBw := Lib.hid hbw
             have HRs := Lib.hid rs
             obtain ⟨x0, x1, _, _⟩ := rx.two
             obtain ⟨c0, c1, c2, _, _, _⟩ := rs.three
             by_cases hlt : k < qs.length
             · have hltI : (k : Int) < (qs.length : Int) := by omega
               have hk0 : (0 : Int) ≤ (k : Int) := by omega
               obtain ⟨b', o', e0, e1, e2, q, hbo, hqk, f0, f1, f2, hr1⟩ := (HT.out.later hbw).el.at hlt
               have hbo2 := hbo
               have hql := HL.out q (List.mem_of_getElem? hqk)
               have hqw := HWF.out q (List.mem_of_getElem? hqk)
               have hfq : FitQ q.rat (32 * 3) := FitQ.raw hqw.1 hqw.2 hql.1 hql.2
               have hrq := hr1.arg hql.1 hql.2
               obtain ⟨mq, u1, l1, j1, u2, l2, j2, eq1⟩ := hrq.shape
               simp only [Value.agg.injEq, Array.mk.injEq, List.cons.injEq, and_true] at eq1
               obtain ⟨rfl, rfl, rfl⟩ := eq1
               have hnext : totL (L0.take (k + 1)) = totL (L0.take k) + q.rat := totL_next (by rw [← HL0.out, List.getElem?_map, hqk]; rfl)
               have hfit : FitQ (totL (L0.take (k + 1))) ((96 + 1) * (k + 1)) := totFit10 (L := L0) (B := 96) (fun x hx => by
                rw [← HL0.out] at hx
                obtain ⟨p, hp, rfl⟩ := List.mem_map.1 hx
                exact FitQ.raw (HWF.out p hp).1 (HWF.out p hp).2 (HL.out p hp).1 (HL.out p hp).2) (k + 1) (by rw [HL0l.out]; omega)
               have HNX := Lib.hid hnext
               have HFIT := Lib.hid (hfit.mono (b := 6208) (by omega))
               have HRQ := Lib.hid hrq
               subst hbo
               have mkA : ∀ Y, Below wt.heap.size wt Y → (Y.cell? ⟨w.heap.size, 1, none⟩ = some (.slice (some ⟨b', o', none⟩) qs.length cb)) ∧ (Y.cell? ⟨GS, 0, none⟩ = some (.bool m1) ∧ Y.cell? ⟨GS, 1, none⟩ = some (.slice p1 p2 p3) ∧ Y.cell? ⟨GS, 2, none⟩ = some (.slice p4 p5 p6)) ∧ (Y.cell? ⟨b', o' + k * 3, none⟩ = some (.bool mq) ∧ Y.cell? ⟨b', o' + k * 3 + 1, none⟩ = some (.slice u1 l1 j1) ∧ Y.cell? ⟨b', o' + k * 3 + 2, none⟩ = some (.slice u2 l2 j2)) := fun Y h => by
                obtain ⟨g0, g1, _⟩ := ((HRX.out.later HBX.out).later h).two
                obtain ⟨g2, g3, g4, _⟩ := (HRs.out.later h).three
                exact ⟨g1, ⟨g2, g3, g4⟩, (h.cell (World.block_lt_of_cell? _ _ f0)).trans f0, (h.cell (World.block_lt_of_cell? _ _ f1)).trans f1, (h.cell (World.block_lt_of_cell? _ _ f2)).trans f2⟩
               have MK := Lib.hid mkA
               have k0 := mkA _ ((Below.refl wt.heap.size wt).drew)
               clear hS hR hbt hbx hbw rx rs hqk hr1 hrq hnext hfit hql hqw hfq mkA hbV hbo2
               go_wp2_with fail
               refine wp_region_L (S := fun Y => (Y.cell? ⟨w.heap.size, 1, none⟩ = some (.slice (some ⟨b', o', none⟩) qs.length cb)) ∧ (Y.cell? ⟨GS, 0, none⟩ = some (.bool m1) ∧ Y.cell? ⟨GS, 1, none⟩ = some (.slice p1 p2 p3) ∧ Y.cell? ⟨GS, 2, none⟩ = some (.slice p4 p5 p6)) ∧ (Y.cell? ⟨b', o' + k * 3, none⟩ = some (.bool mq) ∧ Y.cell? ⟨b', o' + k * 3 + 1, none⟩ = some (.slice u1 l1 j1) ∧ Y.cell? ⟨b', o' + k * 3 + 2, none⟩ = some (.slice u2 l2 j2))) (z := 8) (by kernel_rfl) k0 (fun hHeld => ?_)
               have bd : Below wt.heap.size wt wt.drew := (Below.refl _ _).drew
               refine todo [0, 1, 2, 3, 4, 5] ?_
               iterate 6
                refine todoL (v := ?_) rfl (by kernel_rfl) (fun _ _ _ h => h) (by assumption) (Or.inl ⟨by rfl, ?_⟩) ?_
                rotate_left
                · intro w hSw; (try dsimp only at hSw); go_simp; (try with_reducible rfl)
                try simp only [Act.put, nA, nB, nC, nD, nE, nF]
               refine todone ?_
               refine wpAnyL_one (i := 6) (by kernel_rfl) rfl (fun K hK => ?sbt_6)
               go_simp
               refine (ofRR_any (n := 3) (HRQ.out.later bd) (by decide)).mono ?_
               rintro e w5 ⟨r5, rfl, q5, hb5⟩
               have b5 : Below wt.heap.size wt w5 := bd.trans (hb5.mono bd.size)
               have Q5 := Lib.hid q5
               clear q5
               go_simp
               refine hK.out _ _ (fun _ => MK.out _ b5) (fun hHeld2 => ?mbt_6)
               clear hK K hHeld
               have hHeld := hHeld2 (by decide)
               clear hHeld2
               try simp only [Act.put, nA, nB, nC, nD, nE, nF]
               refine wpAnyL_one (i := 7) (by kernel_rfl) rfl (fun K hK => ?sbt_7)
               go_simp
               refine (addRR_any (n := 480) (HS.out.later b5).arg (Q5.out.arg.more10 (by decide)) (by decide)).mono ?_
               rintro e w6 ⟨r6, rfl, q6, hb6⟩
               have b6 : Below wt.heap.size wt w6 := b5.trans (hb6.mono b5.size)
               obtain ⟨m8, a8, b8, c8, d8, e8, f8, rfl⟩ := q6.shape10
               rw [← HNX.out] at q6
               have Q6 := Lib.hid (((q6.refit10 HFIT.out).more (m := 480) (by decide)).mono (base' := BS) (by have h1 := b5.size; omega))
               clear q6
               go_simp
               refine hK.out _ _ (fun _ => MK.out _ b6) (fun hHeld2 => ?mbt_7)
               clear hK K hHeld
               have hHeld := hHeld2 (by decide)
               clear hHeld2
               try simp only [Act.put, nA, nB, nC, nD, nE, nF]
               have R6 : Row w6 GS 58 #[.bool m1, .slice p1 p2 p3, .slice p4 p5 p6] := HRs.out.later b6
               obtain ⟨k1, k2, k3, n1, n2, n3⟩ := R6.three
               refine wpAnyL_one (i := 8) (by kernel_rfl) rfl (fun K hK => ?sbt_8)
               go_simp
               refine hK.out _ _ (fun h => absurd rfl h) (fun _ => ?mbt_8)
               clear hK K
               try simp only [Act.put, nA, nB, nC, nD, nE, nF]
               refine wpAnyL_done (by kernel_rfl) ?_ _
               go_wp2
               go_roundw
               case rel => exact ⟨k + 1, _, _, _, _, _, _, _, by go_num, by omega, R6.set3 _ _ _, Q6.out.far R6 (by decide) (kept3 _ _ _), (HR.out.later b6).far R6 (by decide) (kept3 _ _ _), below_set3 (HBT.out.trans (b6.mono hszt)) hBG _ _ _⟩
               case measure => simp [intOf]; omega
             · obtain rfl : k = qs.length := by omega
               have hltI : ¬ (qs.length : Int) < (qs.length : Int) := by omega
               clear hS hR hbt hbx hbw rx rs hbV hlt hk
               obtain ⟨ad, cc, AR, nR⟩ := HR.out.arg2
               have hAR := AR.is
               simp only [Value.slice.injEq] at hAR
               obtain ⟨rfl, _, rfl⟩ := hAR
               have htake : L0.take qs.length = L0 := by rw [← HL0l.out]; exact List.take_length
               obtain ⟨dn, sn⟩ := sumF_all (axes := RL) O0.out.ok O0.out.len (fun i hi => by rw [← HRL.out]; exact rangeI_mem hi)
               have HDN := Lib.hid dn
               have HSN := Lib.hid sn
               have HTK := Lib.hid htake
               have HAR := Lib.hid AR
               have hcR := axC_zero10 (show axesB RL (s.length : Int) = true by rw [← HRL.out]; exact rangeI_axes _) (by omega)
               have HCR := Lib.hid hcR
               clear AR dn sn htake hcR
               go_wp2_with fail
               refine (sumT10 (n := 3) (ys := RL) (HT.out.later HBw.out) HM.out HL.out hq64 HAR.out nR (by rw [HRll.out]; omega) (by decide) HCR.out).mono ?_
               rintro e zT ⟨hg, hy⟩
               rw [HL0.out, HDN.out, HSN.out] at hg
               obtain ⟨raT, rbT, rcaT, rcbT, rfl, TT⟩ := hg
               obtain ⟨yT, hV⟩ : ∃ X, zT.alloc (.cells #[.slice raT 0 rcaT, .slice rbT 1 rcbT] 26) = X := ⟨_, rfl⟩
               have bz : Below zT.heap.size zT yT := by rw [← hV]; exact (Below.refl _ _).alloc (Nat.le_refl _) _
               have NT : Row yT zT.heap.size 26 #[.slice raT 0 rcaT, .slice rbT 1 rcbT] := by rw [← hV]; exact Row.new _ _ _
               have hyz := hy.trans (bz.mono hy.size)
               have TT2 := Lib.hid (TT.later bz)
               have RS2 := HRs.out.later hyz
               have SS2 := Lib.hid (HS.out.later hyz)
               have bF : Below w.heap.size w yT := HBw.out.trans (hyz.mono HBw.out.size)
               have hal : Below yT.heap.size yT (yT.alloc (.cells #[.bool m1, .slice p1 p2 p3, .slice p4 p5 p6] 58)) := (Below.refl _ _).alloc (Nat.le_refl _) _
               obtain ⟨t0, t1, _, _⟩ := NT.two
               obtain ⟨t2, t3, _, _⟩ := (NT.later hal).two
               obtain ⟨g0, g1, g2, _, _, _⟩ := RS2.three
               clear hy bz TT hyz c0 c1 c2 x0 x1
               go_wp2_with fail
               (try rw [hV])
               (try clear hV)
               obtain ⟨qt, ta, tb, tca, tcb, TQ, hqt, hlt, hokt⟩ := (TT2.out.later hal).tens
               have hqtl : qt.length = 1 := by have := congrArg List.length hqt; simpa using this
               have htq := TQ.is
               simp only [Value.agg.injEq, Array.mk.injEq, List.cons.injEq, and_true, Value.slice.injEq] at htq
               obtain ⟨⟨rfl, _, rfl⟩, rfl, _, rfl⟩ := htq
               have hSA := SS2.out.later hal
               rw [HTK.out] at hSA
               have his := isT_any (n := 480) (one_tensR10 (Row.new yT 58 #[.bool m1, .slice p1 p2 p3, .slice p4 p5 p6]) hSA.arg) TQ (by simp) (by simp) (by omega) (by decide) (fun q hq => by have := hlt q hq; omega)
               rw [allBC_eq10 hqt hokt] at his
               refine his.mono ?_
               rintro e y99 ⟨rfl, hy⟩
               go_wp2_with fail
               refine (known10_any _).mono ?_
               rintro e yy ⟨rfl, hb9⟩
               go_wp2_with fail
               go_ret
               have bG := bF.trans (hal.mono bF.size)
               have bH := bG.trans (hy.mono bG.size)
               exact ⟨rfl, bH.trans (hb9.mono bH.size)⟩
end
end Go.Proofs.YtengpgodmbfmkaaGreat
