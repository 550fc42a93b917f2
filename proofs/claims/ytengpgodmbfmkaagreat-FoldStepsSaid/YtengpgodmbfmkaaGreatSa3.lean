/-
  Part 3 of 4: contracts and what they rest on (RRefF, RVar, SMem, TMay, DSame, TReg, FLaw, FMats, FWSteps).
-/
import Derived.Test.YtengpgodmbfmkaaGreatSa1
import Derived.Test.YtengpgodmbfmkaaGreatSa2
namespace Go.Proofs.YtengpgodmbfmkaaGreat
set_option linter.unusedVariables false
set_option linter.unusedSimpArgs false
set_option maxRecDepth 100000
set_option maxHeartbeats 40000000
section
open Go.RowKit
theorem mayR_any {n : Nat} {w : World} {m1 : Bool} {xs ds : List Int} {a1 a2 : Option Addr} {c1 c2 : Nat} (A : Arg w (.slice a1 xs.length c1) xs a1 c1) (B : Arg w (.slice a2 ds.length c2) ds a2 c2)
 (hx : xs.length ≤ n) (hd : ds.length ≤ n) (hn : n ≤ 134217728) :
 Calls Tryz.prog 48 #[.agg #[.bool m1, .slice a1 xs.length c1, .slice a2 ds.length c2]] w fun e w' => e = .returned (.int .i64 (if validB m1 xs ds (ratOf m1 (val xs) (val ds)) = true then 0 else 6)) ∧ Below w.heap.size w w' := by
 obtain ⟨X, hX⟩ : ∃ X, ratOf m1 (val xs) (val ds) = X := ⟨_, rfl⟩
 have hq : ArgQ w (.agg #[.bool m1, .slice a1 xs.length c1, .slice a2 ds.length c2]) X n := ⟨m1, xs, ds, a1, a2, c1, c2, rfl, A, B, hX, hx, hd⟩
 rw [hX]
 clear hX
 obtain ⟨W, hW⟩ : ∃ W, (w.alloc (.cells #[.bool m1, .slice a1 xs.length c1, .slice a2 ds.length c2] 54)) = W := ⟨_, rfl⟩
 have R0 : Row W (w.heap.size) 54 #[.bool m1, .slice a1 xs.length c1, .slice a2 ds.length c2] := by rw [← hW]; exact (Row.new _ _ _)
 have hBW : Below w.heap.size w W := by rw [← hW]; exact ((Below.refl _ _).alloc (by (try simp) <;> omega) _)
 have hsW : w.heap.size + 1 ≤ W.heap.size := by rw [← hW]; simp
 obtain ⟨p0, p1, p2, _, _, _⟩ := R0.three
 have hq' := hq.later hBW
 obtain ⟨b, hb⟩ : ∃ b, validB m1 xs ds X = b := ⟨_, rfl⟩
 have HB := Lib.hid hb
 rw [hb]
 clear hb hq
 go_enter Tryz.func48, Tryz.ntmps48
 go_wp2_with fail
 refine (ofR_any hq' hn).mono ?_
 rintro e w1 ⟨r1, rfl, h1, hb1⟩
 have hs1 := hb1.size
 obtain ⟨m4, fs, gs, f1, f2, j1, j2, rfl⟩ := h1.box
 clear p0 p1 p2 hW
 have Q0 := R0.later hb1
 obtain ⟨U, hU⟩ : ∃ U, w1.alloc (.cells #[.bool m4, .slice f1 fs.length j1, .slice f2 gs.length j2] 58) = U := ⟨_, rfl⟩
 have hBU : Below w1.heap.size w1 U := by rw [← hU]; exact (Below.refl _ _).alloc (Nat.le_refl _) _
 have R5 : Row U w1.heap.size 58 #[.bool m4, .slice f1 fs.length j1, .slice f2 gs.length j2] := by rw [← hU]; exact Row.new _ _ _
 have hsU : w1.heap.size + 1 ≤ U.heap.size := by rw [← hU]; simp
 have k := isR_dec (m2 := m1) (h1.later hBU) (((A.later hBW).later hb1).later hBU) (((B.later hBW).later hb1).later hBU) (by omega) (by omega) (by omega)
 rw [HB.out] at k
 obtain ⟨p0, p1, p2, _, _, _⟩ := Q0.three
 obtain ⟨q0, q1, q2, _, _, _⟩ := (Q0.later hBU).three
 obtain ⟨o0, o1, o2, _, _, _⟩ := R5.three
 have hB2 : Below w.heap.size w U := (hBW.trans (hb1.mono (by omega))).trans (hBU.mono (by omega))
 cases b with
 | true =>
  go_wp2_with fail
  (try rw [hU])
  refine k.mono ?_
  rintro e w2 ⟨rfl, hb2⟩
  clear k hU
  go_wp2_with fail
  go_ret
  exact ⟨rfl, hB2.trans (hb2.mono (by omega))⟩
 | false =>
  go_wp2_with fail
  (try rw [hU])
  refine k.mono ?_
  rintro e w2 ⟨rfl, hb2⟩
  clear k hU
  go_wp2_with fail
  go_ret
  exact ⟨rfl, hB2.trans (hb2.mono (by omega))⟩
end
section
open Go.RowKit Go.ChangeShapes Go.WideShapes Go.ChangeAt
theorem Row.only {w w' : World} {g b : Nat} {t : TypeId} {cs : Array Value} (R : Row w g t cs) (h : Only b w w') (hb : g ≠ b) : Row w' g t cs := (h.block g hb).trans R
theorem ArgR.only {w w' : World} {v : Value} {x : Rat} {n g : Nat} {t : TypeId} {p : Bool} {ad bd : Option Addr} {l cap m cbp : Nat} (h : ArgR w v x n) (R : Row w g t #[.bool p, .slice ad l cap, .slice bd m cbp]) (k : Only g w w') : ArgR w' v x n :=
 h.far R (noInts3 _ _ _ _ _ _ _) k.block
theorem ArgQ.only {w w' : World} {v : Value} {x : Rat} {n g : Nat} {t : TypeId} {p : Bool} {ad bd : Option Addr} {l cap m cbp : Nat} (h : ArgQ w v x n) (R : Row w g t #[.bool p, .slice ad l cap, .slice bd m cbp]) (k : Only g w w') : ArgQ w' v x n :=
 h.far R (noInts3 _ _ _ _ _ _ _) k.block
theorem ResQ.only {base : Nat} {w w' : World} {v : Value} {x : Rat} {n g : Nat} {cs : Array Value} (h : ResQ base w v x n) (R : Row w g 54 cs) (k : Only g w w') : ResQ base w' v x n :=
 h.far R (by decide) k.block
end
section
open Go.RowKit
theorem BlkS.only {w w' : World} {g b : Nat} {zs : List Int} (h : BlkS w g zs) (k : Only b w w') (hb : g ≠ b) : BlkS w' g zs := h.same (k.block g hb)
end
section
open Go.RowKit
theorem mayT_shape {s : List Int} {qs : List Q3} (h : mayC s ≠ 0) : mayT s qs = mayC s := by unfold mayT; rw [if_pos h]
theorem mayT_len {s : List Int} {qs : List Q3} (h : mayC s = 0) (h2 : (qs.length : Int) ≠ countS s) : mayT s qs = 13 := by unfold mayT; rw [if_neg (by rw [h]; simp), if_pos h2]
theorem mayT_bad {s : List Int} {qs : List Q3} (h : mayC s = 0) (h2 : (qs.length : Int) = countS s) {q : Q3} (hq : q ∈ qs) (h3 : okQ q = false) : mayT s qs = 6 := by
 unfold mayT
 rw [if_neg (by rw [h]; simp), if_neg (by rw [h2]; simp), if_neg]
 intro e
 rw [List.all_eq_true] at e
 rw [e q hq] at h3
 cases h3
theorem mayT_any {w : World} {v : Value} {s : List Int} {qs : List Q3} {a b : Option Addr} {ca cb : Nat} (T : TensQ w v s qs a ca b cb) (hq : qs.length ≤ 1000000000)
 (hl : ∀ q ∈ qs, q.num.length ≤ 134217728 ∧ q.den.length ≤ 134217728) :
 Calls Tryz.prog 15 #[v] w fun e w' => e = .returned (.int .i64 (mayT s qs)) ∧ Below w.heap.size w w' := by
 have HT := Lib.hid T
 obtain rfl := T.is
 obtain ⟨W, hW⟩ : ∃ W, (w.alloc (.cells #[.slice a s.length ca, .slice b qs.length cb] 26)) = W := ⟨_, rfl⟩
 have R0 : Row W w.heap.size 26 #[.slice a s.length ca, .slice b qs.length cb] := by rw [← hW]; exact Row.new _ _ _
 have hBW : Below w.heap.size w W := by rw [← hW]; exact (Below.refl _ _).alloc (by simp) _
 obtain ⟨c, hc⟩ : ∃ c, mayT s qs = c := ⟨_, rfl⟩
 have HC := Lib.hid hc
 obtain ⟨m, hm⟩ : ∃ m, mayC s = m := ⟨_, rfl⟩
 have HM := Lib.hid hm
 obtain ⟨t, ht⟩ : ∃ t, countS s = t := ⟨_, rfl⟩
 have HTT := Lib.hid ht
 have q1 := mayR6_any (HT.out.sh.later hBW)
 have q2 := fun X (hX : Below W.heap.size W X) => countR6_any ((HT.out.sh.later hBW).later hX)
 rw [hm] at q1
 rw [ht] at q2
 rw [hc]
 obtain ⟨p0, p1, _, _⟩ := R0.two
 clear T hc hm ht
 have mkS : ∀ X, Below W.heap.size W X → X.cell? ⟨w.heap.size, 0, none⟩ = some (.slice a s.length ca) ∧ X.cell? ⟨w.heap.size, 1, none⟩ = some (.slice b qs.length cb) ∧ Below W.heap.size W X := fun X h => ⟨(R0.later h).cell 0, (R0.later h).cell 1, h⟩
 by_cases h0 : m = 0
 · subst h0
   by_cases hlen : (qs.length : Int) = t
   · have hne : ((qs.length : Int) != t) = false := by simpa using hlen
     have HLN := Lib.hid hlen
     clear hlen
     go_enter Tryz.func15, Tryz.ntmps15
     go_wp2_with (go_at_call 46; refine q1.mono ?_; rintro e w1 ⟨rfl, rfl⟩)
     go_region_held3 (fun X => X.cell? ⟨w.heap.size, 0, none⟩ = some (.slice a s.length ca) ∧ X.cell? ⟨w.heap.size, 1, none⟩ = some (.slice b qs.length cb) ∧ Below W.heap.size W X)
      (((refine mkS _ ?_; (repeat' (first | exact Below.refl _ _ | refine Below.drew ?_)))))
      ((go_at_call 47; (with_reducible refine (q2 _ (show Below W.heap.size W _ by (repeat' (first | exact Below.refl _ _ | refine Below.drew ?_)))).mono ?_); rintro e w' ⟨rfl, rfl⟩))
     clear hne q1 hW
     go_wp2
     go_loopw [4] (fun i wr => ∃ k : Nat, i = .int .i64 (k : Int) ∧ k ≤ qs.length ∧ (∀ q ∈ qs.take k, okQ q = true) ∧ Below W.heap.size W wr) (fun i _ => qs.length - (intOf i).toNat)
     case atStart => exact ⟨0, rfl, Nat.zero_le _, fun q h => by simp at h, by first | exact Below.refl _ _ | exact (Below.refl _ _).drew⟩
     case round =>
      obtain ⟨k, rfl, hk, hall, hb⟩ := hrel
      have r0 := R0.later hb
      obtain ⟨c00, c01, _, _⟩ := r0.two
      have HALL := Lib.hid hall
      clear hall
      by_cases hlt : k < qs.length
      · have hbw := hBW.trans (hb.mono hBW.size)
        obtain ⟨bb, o, x0, x1, x2, q, hbo, hqk, e0, e1, e2, hraw⟩ := (HT.out.el.later hbw (fun v x _ k => k.later hbw)).at hlt
        have hmem := List.mem_of_getElem? hqk
        subst hbo
        obtain ⟨u1, u2, k1, k2, hx, A1, B1, _, _⟩ := hraw
        simp only [Value.agg.injEq, Array.mk.injEq, List.cons.injEq, and_true] at hx
        obtain ⟨rfl, rfl, rfl⟩ := hx
        have hcall := mayR_any (m1 := q.neg) A1 B1 (hl q hmem).1 (hl q hmem).2 (Nat.le_refl _)
        have hltI : (k : Int) < (qs.length : Int) := by omega
        have HQK := Lib.hid hqk
        clear hqk
        have hokd : okQ q = validB q.neg q.num q.den (ratOf q.neg (val q.num) (val q.den)) := rfl
        by_cases hok : okQ q = true
        · rw [← hokd, if_pos hok] at hcall
          have HOK := Lib.hid hok
          clear hok hokd
          go_wp2_with (go_at_call 48; refine hcall.mono ?_; rintro e w2 ⟨rfl, hb2⟩)
          go_roundw
          case rel =>
           refine ⟨k + 1, by go_num, by omega, fun y hy => ?_, hb.trans (hb2.mono hb.size)⟩
           rw [take_nextL HQK.out] at hy
           rcases List.mem_append.1 hy with h | h
           · exact HALL.out y h
           · rw [List.mem_singleton.1 h]; exact HOK.out
          case measure => simp [intOf]; omega
        · have hok2 : okQ q = false := by simpa using hok
          rw [← hokd, if_neg hok] at hcall
          have hcc := mayT_bad HM.out (by rw [HTT.out]; exact HLN.out) hmem hok2
          obtain rfl : c = 6 := by rw [← HC.out]; exact hcc
          clear hok hok2 hokd hcc
          go_wp2_with (go_at_call 48; refine hcall.mono ?_; rintro e w2 ⟨rfl, hb2⟩)
          go_ret
          exact ⟨rfl, hBW.trans ((hb.trans (hb2.mono hb.size)).mono hBW.size)⟩
      · obtain rfl : k = qs.length := by omega
        have hltI : ¬ (qs.length : Int) < (qs.length : Int) := by omega
        have hcc := mayT_ok HM.out (by rw [HTT.out]; exact HLN.out) (by have h := HALL.out; rwa [List.take_length] at h)
        obtain rfl : c = 0 := by rw [← HC.out]; exact hcc
        clear hcc
        go_wp2
        go_ret
        exact ⟨rfl, hBW.trans (hb.mono hBW.size)⟩
   · have hne : ((qs.length : Int) != t) = true := by simpa using hlen
     have hcc := mayT_len HM.out (by rw [HTT.out]; exact hlen)
     obtain rfl : c = 13 := by rw [← HC.out]; exact hcc
     clear hlen hcc
     go_enter Tryz.func15, Tryz.ntmps15
     go_wp2_with (go_at_call 46; refine q1.mono ?_; rintro e w1 ⟨rfl, rfl⟩)
     go_region_held3 (fun X => X.cell? ⟨w.heap.size, 0, none⟩ = some (.slice a s.length ca) ∧ X.cell? ⟨w.heap.size, 1, none⟩ = some (.slice b qs.length cb) ∧ Below W.heap.size W X)
      (((refine mkS _ ?_; (repeat' (first | exact Below.refl _ _ | refine Below.drew ?_)))))
      ((go_at_call 47; (with_reducible refine (q2 _ (show Below W.heap.size W _ by (repeat' (first | exact Below.refl _ _ | refine Below.drew ?_)))).mono ?_); rintro e w' ⟨rfl, rfl⟩))
     go_wp2
     go_ret
     exact ⟨rfl, by first | exact hBW | exact hBW.drew⟩
 · have hcc := mayT_shape (s := s) (qs := qs) (by rw [HM.out]; exact h0)
   obtain rfl : c = m := by rw [← HC.out, hcc]; exact HM.out
   have hne : (c != 0) = true := by simpa using h0
   clear hcc q2
   go_enter Tryz.func15, Tryz.ntmps15
   go_wp2_with (go_at_call 46; refine q1.mono ?_; rintro e w1 ⟨rfl, rfl⟩)
   go_ret
   exact ⟨rfl, hBW⟩
end
section
open Go.RowKit
theorem RefQ.only {w w' : World} {X : Rat} {n : Nat} {zs ys : List Int} {f g : Option Addr} {j k : Nat} (h : RefQ w X n zs ys f g j k) {b : Nat} {t : TypeId} {p : Bool} {ad bd : Option Addr} {l cap m cbp : Nat} (R : Row w b t #[.bool p, .slice ad l cap, .slice bd m cbp]) (o : Only b w w') : RefQ w' X n zs ys f g j k :=
 ⟨h.1.far R (noInts3 _ _ _ _ _ _ _) o.block, h.2.1.far R (noInts3 _ _ _ _ _ _ _) o.block, h.2.2⟩
end
section
open Go.RowKit Go.ChangeShapes Go.WideShapes Go.ChangeAt Go.Joins Go.Deep
theorem DotQ.only {base n g : Nat} {w w' : World} {r : Value} {x : Rat} {c : Int} {cs : Array Value} (h : DotQ base w r x n c) (R : Row w g 54 cs) (k : Only g w w') : DotQ base w' r x n c := ⟨fun e => (h.1 e).only R k, h.2⟩
theorem TenC.only {base n g : Nat} {w w' : World} {r : Value} {s : List Int} {L : List Rat} {c : Int} {cs : Array Value} (h : TenC base w r s L n c) (R : Row w g 26 cs) (k : Only g w w') : TenC base w' r s L n c := ⟨fun e => (h.1 e).far R (by decide) (by decide) (by decide) k.block, h.2⟩
end
section
open Go.RowKit
theorem axesB_at {l : List Int} {rank : Int} (h : axesB l rank = true) : ∀ i, i < l.length → (0 ≤ l.getD i 0 ∧ l.getD i 0 < rank) ∧ (0 < i → l.getD (i - 1) 0 < l.getD i 0) := of_decide_eq_true h
theorem axC_zero10 {l : List Int} {rank : Int} (h : axesB l rank = true) (hr : 0 ≤ rank) : axC l rank = 0 := by
 have ha := axesB_at h
 rw [axC_good (fun i hi => by
  obtain ⟨⟨h1, h2⟩, h3⟩ := ha i hi
  cases i with
  | zero => show ¬ _ ≤ (-1 : Int); omega
  | succ j =>
   have := h3 (by omega)
   show ¬ _ ≤ l.getD j 0
   simp only [Nat.add_sub_cancel] at this
   omega)]
 refine if_neg ?_
 cases hl : l.length with
 | zero => show ¬ rank ≤ (-1 : Int); omega
 | succ j =>
  have := (ha j (by omega)).1
  show ¬ rank ≤ l.getD j 0
  omega
theorem getD_left10 {l m : List Int} {i : Nat} (hi : i < l.length) : (l ++ m).getD i 0 = l.getD i 0 := by
 rw [List.getD_eq_getElem?_getD, List.getD_eq_getElem?_getD, List.getElem?_append_left hi]
theorem getD_end10 {l : List Int} {a : Int} : (l ++ [a]).getD l.length 0 = a := by
 rw [List.getD_eq_getElem?_getD, List.getElem?_append_right (Nat.le_refl _)]
 simp
theorem axesB_rise {l : List Int} {rank : Int} (h : axesB l rank = true) : ∀ j i, i < j → j < l.length → l.getD i 0 < l.getD j 0 := by
 intro j
 induction j with
 | zero => intro i hi; omega
 | succ j ih =>
  intro i hi hj
  have h1 := (axesB_at h (j + 1) hj).2 (by omega)
  simp only [Nat.add_sub_cancel] at h1
  by_cases e : i = j
  · subst e; exact h1
  · have := ih i (by omega) (by omega); omega
theorem axesB_more {l : List Int} {r t : Int} (h : axesB l r = true) (hr : r ≤ t) : axesB l t = true := decide_eq_true fun i hi => by
 obtain ⟨⟨h1, h2⟩, h3⟩ := axesB_at h i hi
 exact ⟨⟨h1, by omega⟩, h3⟩
theorem axesB_snoc {rest : List Int} {a rank : Int} (h : axesB (rest ++ [a]) rank = true) : (0 ≤ a ∧ a < rank) ∧ axesB rest a = true ∧ axesB [a] rank = true := by
 have ha := (axesB_at h rest.length (by simp)).1
 rw [getD_end10] at ha
 refine ⟨ha, decide_eq_true fun i hi => ?_, decide_eq_true fun i hi => ?_⟩
 · obtain ⟨⟨h1, h2⟩, h3⟩ := axesB_at h i (by simp; omega)
   have h4 := axesB_rise h rest.length i hi (by simp)
   rw [getD_end10, getD_left10 hi] at h4
   rw [getD_left10 hi] at h1 h3
   refine ⟨⟨h1, h4⟩, fun h0 => ?_⟩
   have h5 := h3 h0
   rwa [getD_left10 (by omega)] at h5
 · obtain rfl : i = 0 := by simpa using hi
   exact ⟨ha, fun h => by omega⟩
theorem axesB_mem {l : List Int} {r : Int} (h : axesB l r = true) : ∀ x ∈ l, 0 ≤ x ∧ x < r := fun x hx => by
 obtain ⟨i, hi, rfl⟩ := List.mem_iff_getElem.1 hx
 have := (axesB_at h i hi).1
 rwa [List.getD_eq_getElem?_getD, List.getElem?_eq_getElem hi] at this
theorem list_snoc10 {l : List Int} (h : l.length ≠ 0) : ∃ rest a, l = rest ++ [a] := ⟨l.dropLast, l.getLast (by intro e; simp [e] at h), (List.dropLast_concat_getLast _).symm⟩
theorem ArgS.init10 {w : World} {rest : List Int} {a : Int} {ad : Option Addr} {cap n : Nat} (h : ArgS w (.slice ad n cap) (rest ++ [a]) ad cap) : ArgS w (.slice ad rest.length cap) rest ad cap := by
 obtain ⟨h1, h2, h3, h4⟩ := h
 have hw : Wid rest := fun x hx => h4 x (by simp [hx])
 have hle : rest.length ≤ cap := by simp at h3; omega
 refine ⟨rfl, ?_, hle, hw⟩
 rcases h2 with h2 | ⟨b, o, rfl, hc⟩
 · simp at h2
 · exact .inr ⟨b, o, rfl, fun i hi => by
    have := hc i (by simp; omega)
    rwa [getD_left10 hi] at this⟩
theorem cnt_drop10 {s : List Int} (h : OkS s) (axes : List Int) : cntF (dropS s axes) ≤ cntF s := by
 obtain ⟨h1, h2, _, _⟩ := prod_two s axes h.pos s.length (Nat.le_refl _)
 rw [List.take_length] at h2
 unfold cntF dropS
 omega
theorem Ok10.sum {s : List Int} {L : List Rat} (h : Ok10 s L) (ys : List Int) : Ok10 (dropS s ys) (sumF s ys L) := ⟨drop_ok ys h.ok, sumF_len s ys L⟩
theorem sumT10 {n : Nat} {w : World} {v : Value} {s ys : List Int} {qs : List Q3} {a b d : Option Addr} {ca cb cd : Nat} (T : TensQ w v s qs a ca b cb) (h0 : mayT s qs = 0) (hl : lensQ qs n) (h64 : qs.length ≤ 64) (D : ArgS w (.slice d ys.length cd) ys d cd) (nd : d = none → cd = 0) (hy : ys.length ≤ 1000000) (hn : n ≤ 240000) (hp : axC ys (s.length : Int) = 0) :
 Calls Tryz.prog 13 #[v, .slice d ys.length cd] w fun e w' => Go10 w.heap.size w' e (dropS s ys) (sumF s ys (qs.map Q3.rat)) ((n + 10) * 2 ^ 6) ∧ Below w.heap.size w w' := by
 have hr := (mayC_zero.1 (mayT_rank h0)).rank
 have h := sumF_any 6 (n := n) T (by omega) hl D nd hy (by omega) (by omega) (by omega) (by omega)
 rw [h0, hp] at h
 exact h.mono fun e w' ⟨h, hb⟩ => ⟨h.go10 (c := 0) rfl, hb⟩
theorem sumR10 {b1 n : Nat} {w : World} {u : Value} {s ys : List Int} {L : List Rat} {d : Option Addr} {cd : Nat} (h1 : ResT b1 w u s L n) (D : ArgS w (.slice d ys.length cd) ys d cd) (nd : d = none → cd = 0) (hy : ys.length ≤ 1000000) (hs : Ok10 s L) (h64 : L.length ≤ 64) (hn : n ≤ 240000) (hp : axC ys (s.length : Int) = 0) :
 Calls Tryz.prog 13 #[u, .slice d ys.length cd] w fun e w' => Go10 w.heap.size w' e (dropS s ys) (sumF s ys L) ((n + 10) * 2 ^ 6) ∧ Below w.heap.size w w' := by
 obtain ⟨qs, a, b, ca, cb, T, hq, hl, hok⟩ := h1.tens
 have hql : qs.length = L.length := by rw [← hq]; simp
 have h := sumT10 (n := n) T (hs.may hq hok) hl (by omega) D nd hy hn hp
 rw [hq] at h
 exact h
theorem sameL10 {s : List Int} {p q : List Q3} (h : p.map Q3.rat = q.map Q3.rat) : allBC (fun (p q : Q3) => decide (p.rat = q.rat)) s s p q = true :=
 allBC_yes rfl (by have := congrArg List.length h; simpa using this) fun i x y hx hy => by
  have h1 := congrArg (fun l => l[i]?) h
  simp only [List.getElem?_map, hx, hy, Option.map_some, Option.some.injEq] at h1
  exact decide_eq_true h1
theorem lensQ.more10 {qs : List Q3} {n m : Nat} (h : lensQ qs n) (hm : n ≤ m) : lensQ qs m := fun q hq => ⟨Nat.le_trans (h q hq).1 hm, Nat.le_trans (h q hq).2 hm⟩
theorem sameA10 {b1 b2 n m : Nat} {w : World} {u v : Value} {s t : List Int} {L M : List Rat} (h1 : ResT b1 w u s L n) (h2 : ResT b2 w v t M m) (hs : Ok10 s L) (est : s = t) (eLM : L = M) (hn : n ≤ 4000000) (hm : m ≤ 4000000) :
 Calls Tryz.prog 26 #[u, v] w fun e w' => e = .returned (.bool true) ∧ Below w.heap.size w w' := by
 subst est; subst eLM
 obtain ⟨f1, f2⟩ := hs.few
 obtain ⟨q1, a1, c1, ca1, cc1, T1, e1, l1, k1⟩ := h1.tens
 obtain ⟨q2, a2, c2, ca2, cc2, T2, e2, l2, k2⟩ := h2.tens
 have g1 : q1.length = L.length := by rw [← e1]; simp
 have g2 : q2.length = L.length := by rw [← e2]; simp
 have h := sameT7_any (n := max n m) T1 T2 (by omega) (by omega) (by omega) (by omega) (l1.more10 (by omega)) (l2.more10 (by omega)) (by omega)
 rwa [sameL10 (e1.trans e2.symm)] at h
theorem sameX10 {b1 n m : Nat} {w : World} {u v : Value} {s t : List Int} {L : List Rat} {qs : List Q3} {a b : Option Addr} {ca cb : Nat} (h1 : ResT b1 w u s L n) (T : TensQ w v t qs a ca b cb) (hs : Ok10 s L) (est : s = t) (hL : qs.map Q3.rat = L) (hq : lensQ qs m) (hn : n ≤ 4000000) (hm : m ≤ 4000000) :
 Calls Tryz.prog 26 #[u, v] w fun e w' => e = .returned (.bool true) ∧ Below w.heap.size w w' := by
 subst est
 obtain ⟨f1, f2⟩ := hs.few
 obtain ⟨q1, a1, c1, ca1, cc1, T1, e1, l1, k1⟩ := h1.tens
 have g1 : q1.length = L.length := by rw [← e1]; simp
 have g2 : qs.length = L.length := by rw [← hL]; simp
 have h := sameT7_any (n := max n m) T1 T (by omega) (by omega) (by omega) (by omega) (l1.more10 (by omega)) (hq.more10 (by omega)) (by omega)
 rwa [sameL10 (e1.trans hL.symm)] at h
theorem mayA10 {b1 n : Nat} {w : World} {u : Value} {s : List Int} {L : List Rat} (h1 : ResT b1 w u s L n) (hs : Ok10 s L) (hn : n ≤ 4000000) :
 Calls Tryz.prog 27 #[u] w fun e w' => e = .returned (.int .i64 0) ∧ Below w.heap.size w w' := by
 obtain ⟨f1, f2⟩ := hs.few
 obtain ⟨q1, a1, c1, ca1, cc1, T1, e1, l1, k1⟩ := h1.tens
 have g1 : q1.length = L.length := by rw [← e1]; simp
 have h := mayT7_any (n := n) T1 (by omega) (by omega) l1 hn
 rwa [hs.may e1 k1] at h
end
section
open Go.RowKit
theorem ResQ.more10 {base n m : Nat} {w : World} {v : Value} {x : Rat} (h : ResQ base w v x n) (hm : n ≤ m) : ResQ base w v x m := by
 obtain ⟨zs, ys, ad, bd, ca, cb, hv, A, B, h1, h2⟩ := h
 exact ⟨zs, ys, ad, bd, ca, cb, hv, A, B, by omega, by omega⟩
theorem ResT.more10 {base n m : Nat} {w : World} {v : Value} {s : List Int} {L : List Rat} (h : ResT base w v s L n) (hm : n ≤ m) : ResT base w v s L m := by
 obtain ⟨a, b, ca, cb, hv, h1, es, h2, h3⟩ := h
 exact ⟨a, b, ca, cb, hv, h1, es, h2, h3.imp fun v x _ h => h.more10 hm⟩
end
section
open Go.RowKit
theorem foldSteps_walk {v u : Value} {s ys : List Int} {qs : List Q3} {a b d : Option Addr} {ca cb cd : Nat} (w : World) (T : TensQ w v s qs a ca b cb) (ls : s.length ≤ 17592186044416) (D : ArgS w u ys d cd) (nd : d = none → cd = 0) (ly : ys.length ≤ 17592186044416) :
 Calls Tryz.prog 6 #[v, u] w fun e W' => e = .returned (.bool true) ∧ Below w.heap.size w W' := by
 have HT := Lib.hid T
 have HD := Lib.hid D
 have ND := Lib.hid nd
 obtain rfl := D.is
 obtain rfl := T.is
 obtain ⟨W, hW⟩ : ∃ W, w.alloc (.cells #[.slice a s.length ca, .slice b qs.length cb] 26) = W := ⟨_, rfl⟩
 have R0 : Row W w.heap.size 26 #[.slice a s.length ca, .slice b qs.length cb] := by rw [← hW]; exact Row.new _ _ _
 have hBW : Below w.heap.size w W := by rw [← hW]; exact (Below.refl _ _).alloc (by simp) _
 have hfew := few10_any (HT.out.later hBW)
 obtain ⟨t, ht⟩ : ∃ t, few10 qs = t := ⟨_, rfl⟩
 rw [ht] at hfew
 have HF := Lib.hid ht
 clear T D nd ht
 cases t with
 | false =>
  have B0 : Below W.heap.size W W := Below.refl _ _
  obtain ⟨xc0, xc1, _, _⟩ := R0.two
  go_enter Tryz.func6, Tryz.ntmps6
  go_wp2_with fail
  (try rw [hW])
  clear hW
  refine (hfew).mono ?_
  rintro e y1 ⟨rfl, hy⟩
  have B1 : Below W.heap.size W y1 := B0.trans (hy.mono B0.size)
  clear xc0 xc1
  replace R0 := R0.later hy
  obtain ⟨xc0, xc1, _, _⟩ := R0.two
  clear hy
  go_wp2_with fail
  refine (known10_any _).mono ?_
  rintro e y9 ⟨rfl, hb9⟩
  go_wp2_with fail
  go_ret
  exact ⟨rfl, hBW.trans ((B1.trans (hb9.mono B1.size)).mono hBW.size)⟩
 | true =>
  obtain ⟨hq64, hl3⟩ := few10_true HF.out
  have HL := Lib.hid hl3
  have hmay := fun (X : World) (h : Below W.heap.size W X) => mayT_any (HT.out.later (hBW.trans (h.mono hBW.size))) (by omega) (fun p hp => by have := HL.out p hp; omega)
  obtain ⟨m, hm⟩ : ∃ m, mayT s qs = m := ⟨_, rfl⟩
  rw [hm] at hmay
  have HM := Lib.hid hm
  clear hl3 hm
  by_cases h0 : m = 0
  case neg =>
   have hne : (m != 0) = true := by simp [h0]
   have B0 : Below W.heap.size W W := Below.refl _ _
   obtain ⟨xc0, xc1, _, _⟩ := R0.two
   go_enter Tryz.func6, Tryz.ntmps6
   go_wp2_with fail
   (try rw [hW])
   clear hW
   refine (hfew).mono ?_
   rintro e y1 ⟨rfl, hy⟩
   have B1 : Below W.heap.size W y1 := B0.trans (hy.mono B0.size)
   clear xc0 xc1
   replace R0 := R0.later hy
   obtain ⟨xc0, xc1, _, _⟩ := R0.two
   clear hy
   go_wp2_with fail
   refine (hmay _ B1).mono ?_
   rintro e y2 ⟨rfl, hy⟩
   have B2 : Below W.heap.size W y2 := B1.trans (hy.mono B1.size)
   clear xc0 xc1
   replace R0 := R0.later hy
   obtain ⟨xc0, xc1, _, _⟩ := R0.two
   clear hy
   go_wp2_with fail
   refine (known10_any _).mono ?_
   rintro e y9 ⟨rfl, hb9⟩
   go_wp2_with fail
   go_ret
   exact ⟨rfl, hBW.trans ((B2.trans (hb9.mono B2.size)).mono hBW.size)⟩
  case pos =>
   subst h0
   obtain ⟨x, hx⟩ : ∃ x, axesB ys (s.length : Int) = x := ⟨_, rfl⟩
   have HAX := Lib.hid hx
   clear hx
   cases x with
   | false =>
    have B0 : Below W.heap.size W W := Below.refl _ _
    obtain ⟨xc0, xc1, _, _⟩ := R0.two
    go_enter Tryz.func6, Tryz.ntmps6
    go_wp2_with fail
    (try rw [hW])
    clear hW
    refine (hfew).mono ?_
    rintro e y1 ⟨rfl, hy⟩
    have B1 : Below W.heap.size W y1 := B0.trans (hy.mono B0.size)
    clear xc0 xc1
    replace R0 := R0.later hy
    obtain ⟨xc0, xc1, _, _⟩ := R0.two
    clear hy
    go_wp2_with fail
    refine (hmay _ B1).mono ?_
    rintro e y2 ⟨rfl, hy⟩
    have B2 : Below W.heap.size W y2 := B1.trans (hy.mono B1.size)
    clear xc0 xc1
    replace R0 := R0.later hy
    obtain ⟨xc0, xc1, _, _⟩ := R0.two
    clear hy
    go_wp2_with fail
    refine (axesR_any (s.length : Int) (HD.out.later (hBW.trans (B2.mono hBW.size))) (by omega)).mono ?_
    rintro e y3 ⟨rfl, hy⟩
    have B3 : Below W.heap.size W y3 := B2.trans (hy.mono B2.size)
    clear xc0 xc1
    replace R0 := R0.later hy
    obtain ⟨xc0, xc1, _, _⟩ := R0.two
    clear hy
    rw [HAX.out]
    go_wp2_with fail
    refine (known10_any _).mono ?_
    rintro e y9 ⟨rfl, hb9⟩
    go_wp2_with fail
    go_ret
    exact ⟨rfl, hBW.trans ((B3.trans (hb9.mono B3.size)).mono hBW.size)⟩
   | true =>
    have HAC := Lib.hid (axC_zero10 HAX.out (by omega))
    obtain ⟨L0, hL0⟩ : ∃ L, qs.map Q3.rat = L := ⟨_, rfl⟩
    have hL0l : L0.length = qs.length := by rw [← hL0]; simp
    obtain ⟨SA, hSA⟩ : ∃ S, dropS s ys = S := ⟨_, rfl⟩
    obtain ⟨LA, hLA⟩ : ∃ L, sumF s ys L0 = L := ⟨_, rfl⟩
    have ok0 : Ok10 s L0 := by rw [← hL0]; exact Ok10.of HM.out
    have okA : Ok10 SA LA := by rw [← hSA, ← hLA]; exact ok0.sum ys
    have O0 := Lib.hid ok0
    have OA := Lib.hid okA
    have HL0 := Lib.hid hL0
    have HSA := Lib.hid hSA
    have HLA := Lib.hid hLA
    have HL0l := Lib.hid hL0l
    have hr4 : s.length ≤ 4 := ok0.ok.rank
    have lyn : ys.length ≤ 4 := by
     rcases Nat.eq_zero_or_pos ys.length with h | h
     · omega
     have h1 := axesB_rise HAX.out
     have h2 := fun i hi => (axesB_at HAX.out i hi).1
     rcases Nat.lt_or_ge 4 ys.length with h5 | h5
     · have e0 := h2 0 (by omega)
       have e1 := h1 1 0 (by omega) (by omega)
       have e2 := h1 2 1 (by omega) (by omega)
       have e3 := h1 3 2 (by omega) (by omega)
       have e4 := h1 4 3 (by omega) (by omega)
       have e5 := h2 4 (by omega)
       omega
     · exact h5
    clear hL0 hL0l hSA hLA ok0 okA
    have B0 : Below W.heap.size W W := Below.refl _ _
    obtain ⟨xc0, xc1, _, _⟩ := R0.two
    go_enter Tryz.func6, Tryz.ntmps6
    go_wp2_with fail
    (try rw [hW])
    clear hW
    refine (hfew).mono ?_
    rintro e y1 ⟨rfl, hy⟩
    have B1 : Below W.heap.size W y1 := B0.trans (hy.mono B0.size)
    clear xc0 xc1
    replace R0 := R0.later hy
    obtain ⟨xc0, xc1, _, _⟩ := R0.two
    clear hy
    go_wp2_with fail
    refine (hmay _ B1).mono ?_
    rintro e y2 ⟨rfl, hy⟩
    have B2 : Below W.heap.size W y2 := B1.trans (hy.mono B1.size)
    clear xc0 xc1
    replace R0 := R0.later hy
    obtain ⟨xc0, xc1, _, _⟩ := R0.two
    clear hy
    go_wp2_with fail
    refine (axesR_any (s.length : Int) (HD.out.later (hBW.trans (B2.mono hBW.size))) (by omega)).mono ?_
    rintro e y3 ⟨rfl, hy⟩
    have B3 : Below W.heap.size W y3 := B2.trans (hy.mono B2.size)
    clear xc0 xc1
    replace R0 := R0.later hy
    obtain ⟨xc0, xc1, _, _⟩ := R0.two
    clear hy
    rw [HAX.out]
    go_wp2_with fail
    refine (sumT10 (n := 3) (ys := []) (d := none) (cd := 0) (HT.out.later (hBW.trans (B3.mono hBW.size))) HM.out HL.out hq64 (nil_arg10 _) (fun _ => rfl) (by simp) (by omega) (axC_zero10 (decide_eq_true fun i hi => by simp at hi) (by omega))).mono ?_
    rintro e zN ⟨hg, hy⟩
    rw [dropS_none, HL0.out, sumF_none O0.out.ok O0.out.len] at hg
    obtain ⟨raN, rbN, rcaN, rcbN, rfl, TN⟩ := hg
    obtain ⟨y4, hV⟩ : ∃ X, zN.alloc (.cells #[.slice raN s.length rcaN, .slice rbN L0.length rcbN] 26) = X := ⟨_, rfl⟩
    have bz : Below zN.heap.size zN y4 := by rw [← hV]; exact (Below.refl _ _).alloc (Nat.le_refl _) _
    have NN : Row y4 zN.heap.size 26 #[.slice raN s.length rcaN, .slice rbN L0.length rcbN] := by rw [← hV]; exact Row.new _ _ _
    have hyz := hy.trans (bz.mono hy.size)
    replace TN := Lib.hid (TN.later bz)
    clear hy bz
    have B4 : Below W.heap.size W y4 := B3.trans (hyz.mono B3.size)
    clear xc0 xc1
    replace R0 := R0.later hyz
    obtain ⟨xc0, xc1, _, _⟩ := R0.two
    clear hyz
    obtain ⟨Nc0, Nc1, _, _⟩ := NN.two
    go_wp2_with fail
    (try rw [hV])
    (try clear hV)
    refine (sumT10 (n := 3) (ys := ys) (HT.out.later (hBW.trans (B4.mono hBW.size))) HM.out HL.out hq64 (HD.out.later (hBW.trans (B4.mono hBW.size))) ND.out (by omega) (by omega) HAC.out).mono ?_
    rintro e zA ⟨hg, hy⟩
    rw [HL0.out, HSA.out, HLA.out] at hg
    obtain ⟨raA, rbA, rcaA, rcbA, rfl, TA⟩ := hg
    obtain ⟨y5, hV⟩ : ∃ X, zA.alloc (.cells #[.slice raA SA.length rcaA, .slice rbA LA.length rcbA] 26) = X := ⟨_, rfl⟩
    have bz : Below zA.heap.size zA y5 := by rw [← hV]; exact (Below.refl _ _).alloc (Nat.le_refl _) _
    have NA : Row y5 zA.heap.size 26 #[.slice raA SA.length rcaA, .slice rbA LA.length rcbA] := by rw [← hV]; exact Row.new _ _ _
    have hyz := hy.trans (bz.mono hy.size)
    replace TA := Lib.hid (TA.later bz)
    clear hy bz
    have B5 : Below W.heap.size W y5 := B4.trans (hyz.mono B4.size)
    clear xc0 xc1 Nc0 Nc1
    replace R0 := R0.later hyz
    replace NN := NN.later hyz
    replace TN := Lib.hid (TN.out.later hyz)
    obtain ⟨xc0, xc1, _, _⟩ := R0.two
    obtain ⟨Nc0, Nc1, _, _⟩ := NN.two
    clear hyz
    obtain ⟨Ac0, Ac1, _, _⟩ := NA.two
    go_wp2_with fail
    (try rw [hV])
    (try clear hV)
    refine (sameX10 (m := 3) TN.out (HT.out.later (hBW.trans (B5.mono hBW.size))) O0.out rfl HL0.out HL.out (by omega) (by omega)).mono ?_
    rintro e y6 ⟨rfl, hy⟩
    have B6 : Below W.heap.size W y6 := B5.trans (hy.mono B5.size)
    clear xc0 xc1 Nc0 Nc1 Ac0 Ac1
    replace R0 := R0.later hy
    replace NN := NN.later hy
    replace NA := NA.later hy
    replace TN := Lib.hid (TN.out.later hy)
    replace TA := Lib.hid (TA.out.later hy)
    obtain ⟨xc0, xc1, _, _⟩ := R0.two
    obtain ⟨Nc0, Nc1, _, _⟩ := NN.two
    obtain ⟨Ac0, Ac1, _, _⟩ := NA.two
    clear hy
    go_wp2_with fail
    refine (mayA10 TA.out OA.out (by omega)).mono ?_
    rintro e y7 ⟨rfl, hy⟩
    have B7 : Below W.heap.size W y7 := B6.trans (hy.mono B6.size)
    clear xc0 xc1 Nc0 Nc1 Ac0 Ac1
    replace R0 := R0.later hy
    replace NN := NN.later hy
    replace NA := NA.later hy
    replace TN := Lib.hid (TN.out.later hy)
    replace TA := Lib.hid (TA.out.later hy)
    obtain ⟨xc0, xc1, _, _⟩ := R0.two
    obtain ⟨Nc0, Nc1, _, _⟩ := NN.two
    obtain ⟨Ac0, Ac1, _, _⟩ := NA.two
    clear hy
    by_cases hz : ys.length = 0
    case pos =>
     have hzI : ((ys.length : Int) == 0) = true := by simp [hz]
     have hys : ys = [] := List.eq_nil_of_length_eq_zero hz
     have hSs : SA = s := by rw [← HSA.out, hys, dropS_none]
     have hLs : LA = L0 := by rw [← HLA.out, hys, sumF_none O0.out.ok O0.out.len]
     have HYS := Lib.hid (And.intro hSs hLs)
     clear hys hSs hLs hz
     go_wp2_with fail
     refine (sameX10 (m := 3) TA.out (HT.out.later (hBW.trans (B7.mono hBW.size))) OA.out HYS.out.1 (HL0.out.trans HYS.out.2.symm) HL.out (by omega) (by omega)).mono ?_
     rintro e y8 ⟨rfl, hy⟩
     have B8 : Below W.heap.size W y8 := B7.trans (hy.mono B7.size)
     clear xc0 xc1 Nc0 Nc1 Ac0 Ac1
     replace R0 := R0.later hy
     replace NN := NN.later hy
     replace NA := NA.later hy
     replace TN := Lib.hid (TN.out.later hy)
     replace TA := Lib.hid (TA.out.later hy)
     obtain ⟨xc0, xc1, _, _⟩ := R0.two
     obtain ⟨Nc0, Nc1, _, _⟩ := NN.two
     obtain ⟨Ac0, Ac1, _, _⟩ := NA.two
     clear hy
     go_wp2_with fail
     refine (known10_any _).mono ?_
     rintro e y9 ⟨rfl, hb9⟩
     go_wp2_with fail
     go_ret
     exact ⟨rfl, hBW.trans ((B8.trans (hb9.mono B8.size)).mono hBW.size)⟩
    case neg =>
     have hzI : ((ys.length : Int) == 0) = false := by rw [beq_eq_false_iff_ne]; omega
     obtain ⟨rest, z, hys⟩ := list_snoc10 hz
     subst hys
     obtain ⟨r, hr⟩ : ∃ r, rest.length = r := ⟨_, rfl⟩
     have HR := Lib.hid hr
     have hrn : (rest ++ [z]).length = r + 1 := by simp [hr]
     have HRN := Lib.hid hrn
     obtain ⟨hz1, hax1, hax2⟩ := axesB_snoc HAX.out
     obtain ⟨k, hk⟩ : ∃ k : Nat, (k : Int) = z := ⟨z.toNat, by omega⟩
     have hks : k < s.length := by omega
     obtain ⟨S1, hS1⟩ : ∃ S, dropS s [z] = S := ⟨_, rfl⟩
     obtain ⟨L1, hL1⟩ : ∃ L, sumF s [z] L0 = L := ⟨_, rfl⟩
     have ok1 : Ok10 S1 L1 := by rw [← hS1, ← hL1]; exact O0.out.sum _
     have O1 := Lib.hid ok1
     have h164 : L1.length ≤ 64 := by
      rw [← hL1, sumF_len]
      have h3 := cnt_drop10 O0.out.ok [z]
      have h4 := O0.out.len
      have h5 := HL0l.out
      omega
     have hc1 := axC_zero10 hax2 (by omega)
     have hmem := axesB_mem hax1
     have hS1l : S1.length = s.length - 1 := by rw [← hS1, ← hk]; exact (drop_one hks).1
     have hc2 : axC rest (S1.length : Int) = 0 := by rw [hS1l]; exact axC_zero10 (axesB_more hax1 (by omega)) (by omega)
     have hSl : dropS S1 rest = SA := by rw [← hS1, ← HSA.out, ← hk]; exact drop_last hks (by rw [hk]; exact hmem)
     have hLl : sumF S1 rest L1 = LA := by rw [← hS1, ← hL1, ← HLA.out, ← hk]; exact sumF_last O0.out.ok hks (by rw [hk]; exact hmem)
     have HC1 := Lib.hid hc1
     have HC2 := Lib.hid hc2
     have HSl := Lib.hid hSl
     have HLl := Lib.hid hLl
     have HS1 := Lib.hid hS1
     have HL1 := Lib.hid hL1
     have Hmz := Lib.hid hz1
     rw [hrn] at hzI lyn ly hz ⊢
     obtain ⟨bb, oo, hd, hcell⟩ := HD.out.at (i := r) (by rw [hrn]; omega)
     subst hd
     rw [show (rest ++ [z]).getD r 0 = z by rw [← hr]; exact getD_end10] at hcell
     have hbl : bb < w.heap.size := World.block_lt_of_cell? _ _ hcell
     have hcX := fun (X : World) (h : Below W.heap.size W X) => ((hBW.trans (h.mono hBW.size)).cell hbl).trans hcell
     have HCX := Lib.hid hcX
     have hrI : (r : Int) ≤ 4 := by omega
     have hr0 : (0 : Int) ≤ (r : Int) := by omega
     have hr1 : (r : Int) < (r : Int) + 1 := by omega
     have hrw : IntKind.i64.wrap (r : Int) = (r : Int) := IntWalk.i64_in _ (by omega)
     clear hr hrn hk hS1 hL1 ok1 hc1 hc2 hSl hLl hmem hax1 hax2 hS1l hcell hcX hz1 hks
     have mkX : ∀ X, Below y7.heap.size y7 X → X.cell? ⟨w.heap.size, 0, none⟩ = some (.slice a s.length ca) ∧ X.cell? ⟨w.heap.size, 1, none⟩ = some (.slice b qs.length cb) ∧ X.cell? ⟨bb, oo + r, none⟩ = some (.int .i64 z) := fun X h => by
      obtain ⟨g0, g1, _⟩ := (R0.later h).two
      exact ⟨g0, g1, HCX.out X (B7.trans (h.mono B7.size))⟩
     have MKX := Lib.hid mkX
     clear mkX
     clear xc0 xc1 Nc0 Nc1 Ac0 Ac1
     obtain ⟨c0, c1, c2⟩ := MKX.out _ (Below.refl _ _)
     go_upto_region 9 with fail
     clear c0 c1 c2
     go_cut [9, 10] (fun sa sb wx => ∃ (gp : Nat) (ra rb : Option Addr) (rca rcb bs : Nat), sa = .pointer (some ⟨gp, 0, none⟩) ∧ sb = .int .i64 0 ∧ Row wx gp 26 #[.slice ra S1.length rca, .slice rb L1.length rcb] ∧ ResT bs wx (.agg #[.slice ra S1.length rca, .slice rb L1.length rcb]) S1 L1 ((3 + 10) * 2 ^ 6) ∧ Below y7.heap.size y7 wx)
     case first =>
      refine wp_region_held_drew (S := fun X => X.cell? ⟨w.heap.size, 0, none⟩ = some (.slice a s.length ca) ∧ X.cell? ⟨w.heap.size, 1, none⟩ = some (.slice b qs.length cb) ∧ X.cell? ⟨bb, oo + r, none⟩ = some (.int .i64 z)) (by kernel_rfl) (MKX.out _ ((Below.refl _ _).drew)) (fun hHeld => ?_)
      obtain ⟨pn, hp⟩ : ∃ Y, y7.drew = Y := ⟨_, rfl⟩
      have bn : Below y7.heap.size y7 pn := by rw [← hp]; exact (Below.refl _ _).drew
      rw [hp] at hHeld ⊢
      clear hp
      refine todo [0, 1, 2, 3, 4, 5, 6] ?_
      iterate 7
       refine todoH (v := ?_) rfl (by kernel_rfl) (fun _ _ _ h => h) (by assumption) (Or.inl ⟨by rfl, ?_⟩) ?_
       rotate_left
       · intro w hSw; (try dsimp only at hSw); go_simp; (try with_reducible rfl)
       try simp only [Act.put, List.getElem_toArray, List.getElem_cons_succ, List.getElem_cons_zero, List.setIfInBounds_toArray, List.set_cons_zero, List.set_cons_succ]
      refine todone ?_
      have HPn := Lib.hid (fun (X : World) (h : Below pn.heap.size pn X) => (show X.cell? ⟨w.heap.size, 0, none⟩ = some (.slice a s.length ca) ∧ X.cell? ⟨w.heap.size, 1, none⟩ = some (.slice b qs.length cb) ∧ X.cell? ⟨bb, oo + r, none⟩ = some (.int .i64 z) from MKX.out _ (bn.trans (h.mono bn.size))))
      refine pool_start (fs := [⟨12, 9, 26, #[.slice none 0 0, .slice none 0 0], fun g => .pointer (some ⟨g, 0, none⟩)⟩]) (us := [undef]) (n := 7) (F := fun _ => True) (by kernel_rfl) (by simp only [putF, Act.put, List.getElem_toArray, List.getElem_cons_succ, List.getElem_cons_zero, List.setIfInBounds_toArray, List.set_cons_zero, List.set_cons_succ]) rfl trivial ?_
      refine pool_step (α := Nat) (fun g => .slice (some ⟨g, 0, none⟩) 1 1) (c := 7) (dc := 75) (need := []) (F' := fun g X => Row X g 3 #[.int .i64 z]) rfl ?fln7 (by decide) (by decide) (by decide) (by decide) (by kernel_rfl) HPn.out (fun _ _ _ _ => trivial) ?stn7 ?nxn7
      case fln7 =>
       intro f hf
       simp only [List.mem_cons, List.not_mem_nil, or_false] at hf
       rcases hf with rfl
       all_goals exact ⟨fun g g' e => by simpa using e, _, rfl, fun a X K h => by unfold StepH; go_simp; exact h⟩
      case stn7 =>
       intro us X K hus _ hb _ hK
       obtain ⟨q1, rfl⟩ := len_one10 hus
       simp only [putF, Act.put, List.getElem_toArray, List.getElem_cons_succ, List.getElem_cons_zero, List.setIfInBounds_toArray, List.set_cons_zero, List.set_cons_succ]
       unfold StepH
       go_simp
       exact hK X.heap.size _ ((Below.refl _ _).alloc (Nat.le_refl _) _) (Row.new _ _ _)
      rintro g
      (try dsimp only)
      try simp only [Act.put, List.getElem_toArray, List.getElem_cons_succ, List.getElem_cons_zero, List.setIfInBounds_toArray, List.set_cons_zero, List.set_cons_succ]
      refine pool_step (α := Option Addr × Option Addr × Nat × Nat × Nat) (fun p => .tuple #[.agg #[.slice p.1 S1.length p.2.2.1, .slice p.2.1 L1.length p.2.2.2.1], .int .i64 0]) (c := 8) (dc := 76) (need := []) (F' := fun p X => ResT p.2.2.2.2 X (.agg #[.slice p.1 S1.length p.2.2.1, .slice p.2.1 L1.length p.2.2.2.1]) S1 L1 ((3 + 10) * 2 ^ 6)) rfl ?fln8 (by decide) (by decide) (by decide) (by decide) (by kernel_rfl) HPn.out (fun X Y h hF => Row.later hF h) ?stn8 ?nxn8
      case fln8 =>
       intro f hf
       simp only [List.mem_cons, List.not_mem_nil, or_false] at hf
       rcases hf with rfl
       all_goals exact ⟨fun g g' e => by simpa using e, _, rfl, fun a X K h => by unfold StepH; go_simp; exact h⟩
      case stn8 =>
       intro us X K hus _ hb hF hK
       obtain ⟨q1, rfl⟩ := len_one10 hus
       simp only [putF, Act.put, List.getElem_toArray, List.getElem_cons_succ, List.getElem_cons_zero, List.setIfInBounds_toArray, List.set_cons_zero, List.set_cons_succ]
       unfold StepH
       go_simp
       refine (sumT10 (n := 3) (ys := [z]) (HT.out.later (hBW.trans ((B7.trans ((bn.trans (hb.mono bn.size)).mono B7.size)).mono hBW.size))) HM.out HL.out hq64 (Row.argS10 hF [z] rfl (fun x hx => by simp at hx; have := Hmz.out; omega)) some_not10 (by simp) (by omega) HC1.out).mono ?_
       rintro e X' ⟨hg, hy⟩
       rw [HL0.out, HS1.out, HL1.out] at hg
       obtain ⟨ra, rb, rca, rcb, rfl, T5⟩ := hg
       go_simp
       exact hK (ra, rb, rca, rcb, X.heap.size) _ hy T5
      rintro ⟨ra, rb, rca, rcb, bs⟩
      (try dsimp only)
      try simp only [Act.put, List.getElem_toArray, List.getElem_cons_succ, List.getElem_cons_zero, List.setIfInBounds_toArray, List.set_cons_zero, List.set_cons_succ]
      refine pool_take (v := ?_) (i := 9) (di := 67) rfl rfl (by decide) (by decide) (by kernel_rfl) (fun _ _ _ h => h) HPn.out (fun us hus => ?_) ?_
      rotate_left
      · obtain ⟨q1, rfl⟩ := len_one10 hus
        simp only [putF, Act.put, List.getElem_toArray, List.getElem_cons_succ, List.getElem_cons_zero, List.setIfInBounds_toArray, List.set_cons_zero, List.set_cons_succ]
        refine Or.inl ⟨by rfl, ?_⟩
        intro w hSw; (try dsimp only at hSw); go_simp; (try with_reducible rfl)
      try simp only [Act.put, List.getElem_toArray, List.getElem_cons_succ, List.getElem_cons_zero, List.setIfInBounds_toArray, List.set_cons_zero, List.set_cons_succ]
      refine pool_take (v := ?_) (i := 10) (di := 77) rfl rfl (by decide) (by decide) (by kernel_rfl) (fun _ _ _ h => h) HPn.out (fun us hus => ?_) ?_
      rotate_left
      · obtain ⟨q1, rfl⟩ := len_one10 hus
        simp only [putF, Act.put, List.getElem_toArray, List.getElem_cons_succ, List.getElem_cons_zero, List.setIfInBounds_toArray, List.set_cons_zero, List.set_cons_succ]
        refine Or.inl ⟨by rfl, ?_⟩
        intro w hSw; (try dsimp only at hSw); go_simp; (try with_reducible rfl)
      try simp only [Act.put, List.getElem_toArray, List.getElem_cons_succ, List.getElem_cons_zero, List.setIfInBounds_toArray, List.set_cons_zero, List.set_cons_succ]
      refine pool_take (v := ?_) (i := 11) (di := 78) rfl rfl (by decide) (by decide) (by kernel_rfl) (fun _ _ _ h => h) HPn.out (fun us hus => ?_) ?_
      rotate_left
      · obtain ⟨q1, rfl⟩ := len_one10 hus
        simp only [putF, Act.put, List.getElem_toArray, List.getElem_cons_succ, List.getElem_cons_zero, List.setIfInBounds_toArray, List.set_cons_zero, List.set_cons_succ]
        refine Or.inl ⟨by rfl, ?_⟩
        intro w hSw; (try dsimp only at hSw); go_simp; (try with_reducible rfl)
      try simp only [Act.put, List.getElem_toArray, List.getElem_cons_succ, List.getElem_cons_zero, List.setIfInBounds_toArray, List.set_cons_zero, List.set_cons_succ]
      refine pool_end ?flne (by decide) (by decide) (by kernel_rfl) HPn.out (fun X Y h hF => ResT.later hF h) ?nxne
      case flne =>
       intro f hf
       simp only [List.mem_cons, List.not_mem_nil, or_false] at hf
       rcases hf with rfl
       all_goals exact ⟨fun g g' e => by simpa using e, _, rfl, fun a X K h => by unfold StepH; go_simp; exact h⟩
      intro us xn ok hb hF
      obtain ⟨gn, rfl, hgn, Rn⟩ := ok.one
      (try dsimp only at Rn hF)
      simp only [putF, Act.put, List.getElem_toArray, List.getElem_cons_succ, List.getElem_cons_zero, List.setIfInBounds_toArray, List.set_cons_zero, List.set_cons_succ]
      have Bn : Below y7.heap.size y7 xn := bn.trans (hb.mono bn.size)
      have hHeld := HPn.out xn hb
      clear ok
      obtain ⟨d0, d1, d2, d3⟩ := Rn.two
      refine wpAnyH_ready (rs := [13]) (by kernel_rfl) (by simp) ?_
      refine AllReadyH.cons rfl (fun K hK => ?sn1) AllReadyH.nil
      go_simp
      refine afterSet2 Rn (fun xn1 on1 zn1 => ?_)
      clear d0 d1 d2 d3
      have Bn1 : Below y7.heap.size y7 xn1 := Bn.trans (on1.below (Nat.le_trans bn.size hgn))
      replace hF := hF.far Rn (by decide) (by decide) (by decide) on1.block
      replace Rn := zn1
      refine hK.out _ _ (MKX.out _ Bn1) (fun hHeld2 => ?_)
      clear hK K hHeld
      have hHeld := hHeld2
      clear hHeld2
      try simp only [Act.put, List.getElem_toArray, List.getElem_cons_succ, List.getElem_cons_zero, List.setIfInBounds_toArray, List.set_cons_zero, List.set_cons_succ]
      refine wpAnyH_ready (rs := [14]) (by kernel_rfl) (by simp) ?_
      refine AllReadyH.cons rfl (fun K hK => ?snd14) AllReadyH.nil
      go_simp
      refine hK.out _ _ (MKX.out _ Bn1) (fun hHeld2 => ?_)
      clear hK K hHeld
      have hHeld := hHeld2
      clear hHeld2
      try simp only [Act.put, List.getElem_toArray, List.getElem_cons_succ, List.getElem_cons_zero, List.setIfInBounds_toArray, List.set_cons_zero, List.set_cons_succ]
      refine wpAnyH_done (by kernel_rfl) ?_ _
      (try dsimp only [Straight])
      go_wp2_with fail
      go_meet
      exact ⟨_, _, _, _, _, _, rfl, rfl, Rn, hF, Bn1⟩
     case rest =>
      obtain ⟨gp, ra1, rb1, rca1, rcb1, bs, rfl, rfl, N1, T1, E1⟩ := hcut
      obtain ⟨y9, hy9⟩ : ∃ y, wc = y := ⟨_, rfl⟩
      rw [hy9] at N1 T1 E1 ⊢
      clear hy9
      replace T1 := Lib.hid T1
      have B9 : Below W.heap.size W y9 := B7.trans (E1.mono B7.size)
      replace R0 := R0.later E1
      replace NN := NN.later E1
      replace NA := NA.later E1
      replace TN := Lib.hid (TN.out.later E1)
      replace TA := Lib.hid (TA.out.later E1)
      clear E1 MKX
      have mkX : ∀ X, Below y9.heap.size y9 X → X.cell? ⟨gp, 0, none⟩ = some (.slice ra1 S1.length rca1) ∧ X.cell? ⟨gp, 1, none⟩ = some (.slice rb1 L1.length rcb1) := fun X h => by
       obtain ⟨g0, g1, _⟩ := (N1.later h).two
       exact ⟨g0, g1⟩
      have MKX := Lib.hid mkX
      clear mkX
      have hcd : r ≤ cd := by have h1 := HD.out.le; have h2 := HRN.out; omega
      obtain ⟨c0, c1⟩ := MKX.out _ (Below.refl _ _)
      go_upto_region 10 with fail
      clear c0 c1
      go_cut [11, 12] (fun sa sb wx => ∃ (gp : Nat) (ra rb : Option Addr) (rca rcb bs : Nat), sa = .pointer (some ⟨gp, 0, none⟩) ∧ sb = .int .i64 0 ∧ Row wx gp 26 #[.slice ra SA.length rca, .slice rb LA.length rcb] ∧ ResT bs wx (.agg #[.slice ra SA.length rca, .slice rb LA.length rcb]) SA LA (((3 + 10) * 2 ^ 6 + 10) * 2 ^ 6) ∧ Below y9.heap.size y9 wx)
      have hrest : ∀ X, Below y9.heap.size y9 X → ResT bs X (.agg #[.slice ra1 S1.length rca1, .slice rb1 L1.length rcb1]) S1 L1 ((3 + 10) * 2 ^ 6) → Calls Tryz.prog 13 #[.agg #[.slice ra1 S1.length rca1, .slice rb1 L1.length rcb1], .slice (some ⟨bb, oo, none⟩) r cd] X fun e w' => Go10 X.heap.size w' e (dropS S1 rest) (sumF S1 rest L1) (((3 + 10) * 2 ^ 6 + 10) * 2 ^ 6) ∧ Below X.heap.size X w' := fun X h hT => by
       have hi := ((HD.out.later (hBW.trans ((B9.trans (h.mono B9.size)).mono hBW.size)))).init10
       have h := sumR10 (n := (3 + 10) * 2 ^ 6) hT hi some_not10 (by have := HR.out; omega) O1.out h164 (by decide) HC2.out
       rw [HR.out] at h
       exact h
      case first =>
       refine wp_region_held_drew (S := fun X => X.cell? ⟨gp, 0, none⟩ = some (.slice ra1 S1.length rca1) ∧ X.cell? ⟨gp, 1, none⟩ = some (.slice rb1 L1.length rcb1)) (by kernel_rfl) (MKX.out _ ((Below.refl _ _).drew)) (fun hHeld => ?_)
       obtain ⟨pk, hp⟩ : ∃ Y, y9.drew = Y := ⟨_, rfl⟩
       have bk : Below y9.heap.size y9 pk := by rw [← hp]; exact (Below.refl _ _).drew
       rw [hp] at hHeld ⊢
       clear hp
       refine todo [0, 1, 2, 3, 4, 5] ?_
       iterate 6
        refine todoH (v := ?_) rfl (by kernel_rfl) (fun _ _ _ h => h) (by assumption) (Or.inl ⟨by rfl, ?_⟩) ?_
        rotate_left
        · intro w hSw; (try dsimp only at hSw); go_simp; (try with_reducible rfl)
        try simp only [Act.put, List.getElem_toArray, List.getElem_cons_succ, List.getElem_cons_zero, List.setIfInBounds_toArray, List.set_cons_zero, List.set_cons_succ]
       refine todone ?_
       have HPk := Lib.hid (fun (X : World) (h : Below pk.heap.size pk X) => (show X.cell? ⟨gp, 0, none⟩ = some (.slice ra1 S1.length rca1) ∧ X.cell? ⟨gp, 1, none⟩ = some (.slice rb1 L1.length rcb1) from MKX.out _ (bk.trans (h.mono bk.size))))
       refine pool_start (fs := [⟨10, 11, 26, #[.slice none 0 0, .slice none 0 0], fun g => .pointer (some ⟨g, 0, none⟩)⟩]) (us := [undef]) (n := 6) (F := fun _ => True) (by kernel_rfl) (by simp only [putF, Act.put, List.getElem_toArray, List.getElem_cons_succ, List.getElem_cons_zero, List.setIfInBounds_toArray, List.set_cons_zero, List.set_cons_succ]) rfl trivial ?_
       refine pool_step (α := Option Addr × Option Addr × Nat × Nat × Nat) (fun p => .tuple #[.agg #[.slice p.1 SA.length p.2.2.1, .slice p.2.1 LA.length p.2.2.2.1], .int .i64 0]) (c := 6) (dc := 86) (need := []) (F' := fun p X => ResT p.2.2.2.2 X (.agg #[.slice p.1 SA.length p.2.2.1, .slice p.2.1 LA.length p.2.2.2.1]) SA LA (((3 + 10) * 2 ^ 6 + 10) * 2 ^ 6)) rfl ?flk6 (by decide) (by decide) (by decide) (by decide) (by kernel_rfl) HPk.out (fun _ _ _ _ => trivial) ?stk6 ?nxk6
       case flk6 =>
        intro f hf
        simp only [List.mem_cons, List.not_mem_nil, or_false] at hf
        rcases hf with rfl
        all_goals exact ⟨fun g g' e => by simpa using e, _, rfl, fun a X K h => by unfold StepH; go_simp; exact h⟩
       case stk6 =>
        intro us X K hus _ hb _ hK
        obtain ⟨q1, rfl⟩ := len_one10 hus
        simp only [putF, Act.put, List.getElem_toArray, List.getElem_cons_succ, List.getElem_cons_zero, List.setIfInBounds_toArray, List.set_cons_zero, List.set_cons_succ]
        unfold StepH
        go_simp
        refine (hrest X (bk.trans (hb.mono bk.size)) (T1.out.later (bk.trans (hb.mono bk.size)))).mono ?_
        rintro e X' ⟨hg, hy⟩
        rw [HSl.out, HLl.out] at hg
        obtain ⟨ra, rb, rca, rcb, rfl, T5⟩ := hg
        go_simp
        exact hK (ra, rb, rca, rcb, X.heap.size) _ hy T5
       rintro ⟨ra, rb, rca, rcb, bs⟩
       (try dsimp only)
       try simp only [Act.put, List.getElem_toArray, List.getElem_cons_succ, List.getElem_cons_zero, List.setIfInBounds_toArray, List.set_cons_zero, List.set_cons_succ]
       refine pool_take (v := ?_) (i := 7) (di := 79) rfl rfl (by decide) (by decide) (by kernel_rfl) (fun _ _ _ h => h) HPk.out (fun us hus => ?_) ?_
       rotate_left
       · obtain ⟨q1, rfl⟩ := len_one10 hus
         simp only [putF, Act.put, List.getElem_toArray, List.getElem_cons_succ, List.getElem_cons_zero, List.setIfInBounds_toArray, List.set_cons_zero, List.set_cons_succ]
         refine Or.inl ⟨by rfl, ?_⟩
         intro w hSw; (try dsimp only at hSw); go_simp; (try with_reducible rfl)
       try simp only [Act.put, List.getElem_toArray, List.getElem_cons_succ, List.getElem_cons_zero, List.setIfInBounds_toArray, List.set_cons_zero, List.set_cons_succ]
       refine pool_take (v := ?_) (i := 8) (di := 87) rfl rfl (by decide) (by decide) (by kernel_rfl) (fun _ _ _ h => h) HPk.out (fun us hus => ?_) ?_
       rotate_left
       · obtain ⟨q1, rfl⟩ := len_one10 hus
         simp only [putF, Act.put, List.getElem_toArray, List.getElem_cons_succ, List.getElem_cons_zero, List.setIfInBounds_toArray, List.set_cons_zero, List.set_cons_succ]
         refine Or.inl ⟨by rfl, ?_⟩
         intro w hSw; (try dsimp only at hSw); go_simp; (try with_reducible rfl)
       try simp only [Act.put, List.getElem_toArray, List.getElem_cons_succ, List.getElem_cons_zero, List.setIfInBounds_toArray, List.set_cons_zero, List.set_cons_succ]
       refine pool_take (v := ?_) (i := 9) (di := 88) rfl rfl (by decide) (by decide) (by kernel_rfl) (fun _ _ _ h => h) HPk.out (fun us hus => ?_) ?_
       rotate_left
       · obtain ⟨q1, rfl⟩ := len_one10 hus
         simp only [putF, Act.put, List.getElem_toArray, List.getElem_cons_succ, List.getElem_cons_zero, List.setIfInBounds_toArray, List.set_cons_zero, List.set_cons_succ]
         refine Or.inl ⟨by rfl, ?_⟩
         intro w hSw; (try dsimp only at hSw); go_simp; (try with_reducible rfl)
       try simp only [Act.put, List.getElem_toArray, List.getElem_cons_succ, List.getElem_cons_zero, List.setIfInBounds_toArray, List.set_cons_zero, List.set_cons_succ]
       refine pool_end ?flke (by decide) (by decide) (by kernel_rfl) HPk.out (fun X Y h hF => ResT.later hF h) ?nxke
       case flke =>
        intro f hf
        simp only [List.mem_cons, List.not_mem_nil, or_false] at hf
        rcases hf with rfl
        all_goals exact ⟨fun g g' e => by simpa using e, _, rfl, fun a X K h => by unfold StepH; go_simp; exact h⟩
       intro us xk ok hb hF
       obtain ⟨gk, rfl, hgk, Rk⟩ := ok.one
       (try dsimp only at Rk hF)
       simp only [putF, Act.put, List.getElem_toArray, List.getElem_cons_succ, List.getElem_cons_zero, List.setIfInBounds_toArray, List.set_cons_zero, List.set_cons_succ]
       have Bk : Below y9.heap.size y9 xk := bk.trans (hb.mono bk.size)
       have hHeld := HPk.out xk hb
       clear ok
       obtain ⟨d0, d1, d2, d3⟩ := Rk.two
       refine wpAnyH_ready (rs := [11]) (by kernel_rfl) (by simp) ?_
       refine AllReadyH.cons rfl (fun K hK => ?sk1) AllReadyH.nil
       go_simp
       refine afterSet2 Rk (fun xk1 ok1 zk1 => ?_)
       clear d0 d1 d2 d3
       have Bk1 : Below y9.heap.size y9 xk1 := Bk.trans (ok1.below (Nat.le_trans bk.size hgk))
       replace hF := hF.far Rk (by decide) (by decide) (by decide) ok1.block
       replace Rk := zk1
       refine hK.out _ _ (MKX.out _ Bk1) (fun hHeld2 => ?_)
       clear hK K hHeld
       have hHeld := hHeld2
       clear hHeld2
       try simp only [Act.put, List.getElem_toArray, List.getElem_cons_succ, List.getElem_cons_zero, List.setIfInBounds_toArray, List.set_cons_zero, List.set_cons_succ]
       refine wpAnyH_ready (rs := [12]) (by kernel_rfl) (by simp) ?_
       refine AllReadyH.cons rfl (fun K hK => ?skd12) AllReadyH.nil
       go_simp
       refine hK.out _ _ (MKX.out _ Bk1) (fun hHeld2 => ?_)
       clear hK K hHeld
       have hHeld := hHeld2
       clear hHeld2
       try simp only [Act.put, List.getElem_toArray, List.getElem_cons_succ, List.getElem_cons_zero, List.setIfInBounds_toArray, List.set_cons_zero, List.set_cons_succ]
       refine wpAnyH_done (by kernel_rfl) ?_ _
       (try dsimp only [Straight])
       go_wp2_with fail
       go_meet
       exact ⟨_, _, _, _, _, _, rfl, rfl, Rk, hF, Bk1⟩
      case rest =>
       obtain ⟨gq, ra2, rb2, rca2, rcb2, bs2, rfl, rfl, N2, T2, E2⟩ := hcut
       obtain ⟨y10, hy10⟩ : ∃ y, wc = y := ⟨_, rfl⟩
       rw [hy10] at N2 T2 E2 ⊢
       clear hy10
       replace T2 := Lib.hid T2
       have B10 : Below W.heap.size W y10 := B9.trans (E2.mono B9.size)
       replace R0 := R0.later E2
       replace NN := NN.later E2
       replace NA := NA.later E2
       replace N1 := N1.later E2
       replace TN := Lib.hid (TN.out.later E2)
       replace TA := Lib.hid (TA.out.later E2)
       replace T1 := Lib.hid (T1.out.later E2)
       clear E2 MKX
       obtain ⟨l2c0, l2c1, _, _⟩ := N2.two
       obtain ⟨Ac0, Ac1, _, _⟩ := NA.two
       go_wp2_with fail
       refine (sameA10 T2.out TA.out OA.out rfl rfl (by decide) (by decide)).mono ?_
       rintro e y11 ⟨rfl, hy⟩
       have B11 : Below W.heap.size W y11 := B10.trans (hy.mono B10.size)
       clear l2c0 l2c1 Ac0 Ac1
       replace R0 := R0.later hy
       replace NN := NN.later hy
       replace NA := NA.later hy
       replace N1 := N1.later hy
       replace N2 := N2.later hy
       replace TN := Lib.hid (TN.out.later hy)
       replace TA := Lib.hid (TA.out.later hy)
       replace T1 := Lib.hid (T1.out.later hy)
       replace T2 := Lib.hid (T2.out.later hy)
       clear hy
       go_wp2_with fail
       refine (known10_any _).mono ?_
       rintro e y9 ⟨rfl, hb9⟩
       go_wp2_with fail
       go_ret
       exact ⟨rfl, hBW.trans ((B11.trans (hb9.mono B11.size)).mono hBW.size)⟩
end
end Go.Proofs.YtengpgodmbfmkaaGreat
