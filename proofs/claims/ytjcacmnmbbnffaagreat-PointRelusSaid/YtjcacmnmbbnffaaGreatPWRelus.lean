/-
  Layer 8's law PointRelus: for any tensor the law holds.
-/
import Derived.Test.YtjcacmnmbbnffaaGreatPKnown
namespace Go.Proofs.YtjcacmnmbbnffaaGreat
open Go.RowKit
set_option linter.unusedVariables false
set_option linter.unusedSimpArgs false

theorem sgR_z8 (x : Rat) : sgR x = 0 ↔ x = 0 := by unfold sgR; rw [Int.sign_eq_zero_iff_zero, Rat.num_eq_zero]
theorem sgR_n8 (x : Rat) : sgR (-x) = -sgR x := by unfold sgR; rw [Rat.neg_num, Int.sign_neg]
theorem sgR_r8 (x : Rat) : sgR x = -1 ∨ sgR x = 0 ∨ sgR x = 1 := by
  unfold sgR
  rcases Int.lt_trichotomy x.num 0 with h | h | h
  · exact .inl (Int.sign_eq_neg_one_of_neg h)
  · exact .inr (.inl (by rw [h]; rfl))
  · exact .inr (.inr (Int.sign_eq_one_of_pos h))
theorem relu_step (x : Rat) : reluR x = x * stepR x := by
  unfold reluR stepR
  rcases sgR_r8 x with h | h | h
  · rw [h]; simp [Rat.mul_zero]
  · rw [h, (sgR_z8 x).1 h]; simp [Rat.mul_zero]
  · rw [h]; simp [Rat.mul_one]
theorem relu_less (x : Rat) : reluR x - reluR (-x) = x := by
  unfold reluR
  rw [sgR_n8]
  rcases sgR_r8 x with h | h | h
  · rw [h]; simp; grind
  · rw [h, (sgR_z8 x).1 h]; simp; grind
  · rw [h]; simp; grind
theorem zip_map (L : List Rat) (f : Rat → Rat → Rat) (g : Rat → Rat) (h : Rat → Rat) (e : ∀ x, f x (g x) = h x) : List.zipWith f L (L.map g) = L.map h := by
  induction L with
  | nil => rfl
  | cons x r ih => simp only [List.map_cons, List.zipWith_cons_cons, ih, e]
theorem zip_maps (L : List Rat) (f : Rat → Rat → Rat) (g1 g : Rat → Rat) (e : ∀ x, f (g1 x) (g x) = x) : List.zipWith f (L.map g1) (L.map g) = L := by
  induction L with
  | nil => rfl
  | cons x r ih => simp only [List.map_cons, List.zipWith_cons_cons, ih, e]
theorem same_true {s : List Int} {q1 q2 : List Q3} (h : q1.map Q3.rat = q2.map Q3.rat) : allBC (fun (p q : Q3) => decide (p.rat = q.rat)) s s q1 q2 = true := by
  refine allBC_yes rfl (by have := congrArg List.length h; simpa using this) fun k x y hx hy => ?_
  have e1 : (q1.map Q3.rat)[k]? = some x.rat := by rw [List.getElem?_map, hx]; rfl
  have e2 : (q2.map Q3.rat)[k]? = some y.rat := by rw [List.getElem?_map, hy]; rfl
  rw [h, e2] at e1
  simp only [Option.some.injEq] at e1
  exact decide_eq_true e1.symm
theorem resT_more {base m n : Nat} {w : World} {v : Value} {s : List Int} {L : List Rat} (h : ResT base w v s L m) (hm : m ≤ n) : ResT base w v s L n := by
  obtain ⟨a, b, ca, cb, rfl, h1, h2⟩ := h
  exact ⟨a, b, ca, cb, rfl, h1, h2.mono (Nat.le_refl _) (fun v x h => h.more hm)⟩
/-- Same, of two tensors of one shape and the same numbers -/
theorem sameQ_true {n : Nat} {w : World} {u v : Value} {s : List Int} {q1 q2 : List Q3} {a1 b1 a2 b2 : Option Addr} {ca1 cb1 ca2 cb2 : Nat} (T1 : TensQ w u s q1 a1 ca1 b1 cb1) (T2 : TensQ w v s q2 a2 ca2 b2 cb2) (hs : s.length ≤ 1048576) (hq1 : q1.length ≤ 1048576) (l1 : lensQ q1 n) (l2 : lensQ q2 n) (hn : n ≤ 4000000) (h : q1.map Q3.rat = q2.map Q3.rat) :
    Calls Tryz.prog 37 #[u, v] w fun e w' => e = .returned (.bool true) ∧ Below w.heap.size w w' := by
  have hl : q1.length = q2.length := by have := congrArg List.length h; simpa using this
  have k := sameT7_any T1 T2 hs hs hq1 (by omega) l1 l2 hn
  rwa [same_true h] at k
theorem lensQ.more {qs : List Q3} {n m : Nat} (h : lensQ qs n) (k : n ≤ m) : lensQ qs m := fun q hq => by have := h q hq; omega
set_option maxRecDepth 100000 in
set_option maxHeartbeats 8000000 in
theorem pointRelus_walk {v : Value} {s : List Int} {qs : List Q3} {a b : Option Addr} {ca cb : Nat} (w : World) (T : TensQ w v s qs a ca b cb) (ls : s.length ≤ 17592186044416) :
    Calls Tryz.prog 8 #[v] w fun e W' => e = .returned (.bool true) ∧ Below w.heap.size w W' := by
  have HT := Lib.hid T
  obtain rfl := T.is
  obtain ⟨W, hW⟩ : ∃ W, (w.alloc (.cells #[.slice a s.length ca, .slice b qs.length cb] 26)) = W := ⟨_, rfl⟩
  have R0 : Row W (w.heap.size) 26 #[.slice a s.length ca, .slice b qs.length cb] := by rw [← hW]; have h := Row.new w 26 #[.slice a s.length ca, .slice b qs.length cb]; (try simp only [World.size_alloc] at h); exact h
  have hBW : Below w.heap.size w W := by rw [← hW]; exact ((Below.refl _ _).alloc (by (try simp) <;> omega) _)
  have hsW : W.heap.size = w.heap.size + 1 := by rw [← hW]; simp
  have hfew := few_any (HT.out.later hBW)
  obtain ⟨t, ht⟩ : ∃ t, fewB qs = t := ⟨_, rfl⟩
  rw [ht] at hfew
  have HF := Lib.hid ht
  obtain ⟨x0, x1, _, _⟩ := R0.two
  clear T ht
  cases t with
  | false =>
    go_enter Tryz.func8, Tryz.ntmps8
    (try rw [hW])
    go_wp2_with fail
    refine (hfew).mono ?_
    rintro e y1 ⟨rfl, hb1⟩
    have hk1 := hBW.trans (hb1.mono (by omega))
    go_wp2_with fail
    refine (known8_any _).mono ?_
    rintro e y9 ⟨rfl, hb9⟩
    go_wp2_with fail
    go_ret
    exact ⟨rfl, hk1.trans (hb9.mono hk1.size)⟩
  | true =>
    obtain ⟨hq64, hl6⟩ := fewB_true HF.out
    have HL := Lib.hid hl6
    have hmay := fun (X : World) (hX : Below W.heap.size W X) => mayT_any (HT.out.later (hBW.trans (hX.mono (by omega)))) (by omega) (fun p hp => by have := HL.out p hp; omega)
    obtain ⟨m, hm⟩ : ∃ m, mayT s qs = m := ⟨_, rfl⟩
    rw [hm] at hmay
    have HM := Lib.hid hm
    clear hl6 hm
    by_cases h0 : m = 0
    case neg =>
      have hne : (m != 0) = true := by simp [h0]
      go_enter Tryz.func8, Tryz.ntmps8
      (try rw [hW])
      go_wp2_with fail
      refine (hfew).mono ?_
      rintro e y1 ⟨rfl, hb1⟩
      have hk1 := hBW.trans (hb1.mono (by omega))
      obtain ⟨x0', x1', _, _⟩ := (R0.later hb1).two
      go_wp2_with fail
      refine (hmay _ hb1).mono ?_
      rintro e y2 ⟨rfl, hb2⟩
      have hk2 := hk1.trans (hb2.mono hk1.size)
      go_wp2_with fail
      refine (known8_any _).mono ?_
      rintro e y9 ⟨rfl, hb9⟩
      go_wp2_with fail
      go_ret
      exact ⟨rfl, hk2.trans (hb9.mono hk2.size)⟩
    case pos =>
      subst h0
      have tX := fun (X : World) (h : Below W.heap.size W X) => HT.out.later (hBW.trans (h.mono (by omega)))
      have HX := Lib.hid tX
      have hsh := okShape_of HM.out
      have hs4 := hsh.2.2
      obtain ⟨L, hL⟩ : ∃ L, qs.map Q3.rat = L := ⟨_, rfl⟩
      have hLl : L.length = qs.length := by rw [← hL]; simp
      have hs2 : OkShape s L.length := by rw [hLl]; exact hsh
      have HS := Lib.hid hs2
      have HQL := Lib.hid hL
      have HLL := Lib.hid hLl
      clear tX hsh hL hLl hs2
      obtain ⟨LA, hLA⟩ : ∃ l, L.map reluR = l := ⟨_, rfl⟩
      obtain ⟨LS, hLS⟩ : ∃ l, L.map stepR = l := ⟨_, rfl⟩
      obtain ⟨LP, hLP⟩ : ∃ l, List.zipWith (fun x y => x * y) L LS = l := ⟨_, rfl⟩
      obtain ⟨LN, hLN⟩ : ∃ l, L.map (fun x => -x) = l := ⟨_, rfl⟩
      obtain ⟨LB, hLB⟩ : ∃ l, LN.map reluR = l := ⟨_, rfl⟩
      obtain ⟨LD, hLD⟩ : ∃ l, List.zipWith (fun x y => x - y) LA LB = l := ⟨_, rfl⟩
      have eP : LA = LP := by rw [← hLA, ← hLP, ← hLS]; exact (zip_map L _ stepR reluR (fun x => (relu_step x).symm)).symm
      have eD : LD = L := by rw [← hLD, ← hLA, ← hLB, ← hLN, List.map_map]; exact zip_maps L _ reluR _ (fun x => relu_less x)
      have lS : LS.length = L.length := by rw [← hLS]; simp
      have lA : LA.length = L.length := by rw [← hLA]; simp
      have lN : LN.length = L.length := by rw [← hLN]; simp
      have lB : LB.length = L.length := by rw [← hLB, List.length_map]; exact lN
      have hl64 : L.length ≤ 64 := by rw [HLL.out]; exact hq64
      have HLA := Lib.hid hLA
      have HLS := Lib.hid hLS
      have HLP := Lib.hid hLP
      have HLN := Lib.hid hLN
      have HLB := Lib.hid hLB
      have HLD := Lib.hid hLD
      have FEP := Lib.hid eP
      have FED := Lib.hid eD
      have KS := Lib.hid lS
      have KA := Lib.hid lA
      have KN := Lib.hid lN
      have KB := Lib.hid lB
      clear hLA hLS hLP hLN hLB hLD eP eD lS lA lN lB
      go_enter Tryz.func8, Tryz.ntmps8
      (try rw [hW])
      go_wp2_with fail
      refine (hfew).mono ?_
      rintro e y1 ⟨rfl, hb1⟩
      have hk1 := hBW.trans (hb1.mono (by omega))
      obtain ⟨x0', x1', _, _⟩ := (R0.later hb1).two
      go_wp2_with fail
      refine (hmay _ hb1).mono ?_
      rintro e y2 ⟨rfl, hb2⟩
      have C2 : Below W.heap.size W y2 := hb1.trans (hb2.mono hb1.size)
      have hk2 := hk1.trans (hb2.mono hk1.size)
      clear x0' x1' x0 x1 hb2
      obtain ⟨x0, x1, _, _⟩ := (R0.later C2).two
      go_wp2_with fail
      refine ((reluP_any (n := 6) (HX.out _ C2) ls (by omega) HL.out (by omega))).mono ?_
      rintro e y3 ⟨h, hb3⟩
      have hg := h.good HM.out ((mapQ_eq (f := reluR) HQL.out).trans HLA.out)
      obtain ⟨raA, rbA, rcaA, rcbA, rfl, TA⟩ := hg
      obtain ⟨y4, hV⟩ : ∃ X, y3.alloc (.cells #[.slice raA s.length rcaA, .slice rbA LA.length rcbA] 26) = X := ⟨_, rfl⟩
      have bz : Below y3.heap.size y3 y4 := by rw [← hV]; exact (Below.refl _ _).alloc (Nat.le_refl _) _
      have NA : Row y4 y3.heap.size 26 #[.slice raA s.length rcaA, .slice rbA LA.length rcbA] := by rw [← hV]; exact Row.new _ _ _
      have EA : Below y2.heap.size y2 y4 := hb3.trans (bz.mono hb3.size)
      have C4 : Below W.heap.size W y4 := C2.trans (EA.mono C2.size)
      have MA := Lib.hid (TA.later bz)
      clear x0 x1 TA bz hb3 h
      obtain ⟨x0, x1, _, _⟩ := (R0.later C4).two
      go_wp2_with fail
      (try rw [hV])
      (try clear hV)
      refine ((stepP_any (n := 6) (HX.out _ C4) ls (by omega) HL.out (by omega))).mono ?_
      rintro e y5 ⟨h, hb5⟩
      have hg := h.good HM.out ((mapQ_eq (f := stepR) HQL.out).trans HLS.out)
      obtain ⟨raS, rbS, rcaS, rcbS, rfl, TS⟩ := hg
      obtain ⟨y6, hV⟩ : ∃ X, y5.alloc (.cells #[.slice raS s.length rcaS, .slice rbS LS.length rcbS] 26) = X := ⟨_, rfl⟩
      have bz : Below y5.heap.size y5 y6 := by rw [← hV]; exact (Below.refl _ _).alloc (Nat.le_refl _) _
      have NS : Row y6 y5.heap.size 26 #[.slice raS s.length rcaS, .slice rbS LS.length rcbS] := by rw [← hV]; exact Row.new _ _ _
      have ES : Below y4.heap.size y4 y6 := hb5.trans (bz.mono hb5.size)
      have C6 : Below W.heap.size W y6 := C4.trans (ES.mono C4.size)
      have MS := Lib.hid (TS.later bz)
      replace NA := NA.later ES
      replace MA := Lib.hid (MA.out.later ES)
      clear x0 x1 TS bz hb5 h
      obtain ⟨x0, x1, _, _⟩ := (R0.later C6).two
      obtain ⟨uS, vS, _, _⟩ := NS.two
      go_wp2_with fail
      (try rw [hV])
      (try clear hV)
      clear uS vS
      obtain ⟨qS, aS, bS, caS, cbS, TS, eS, lS, kS⟩ := MS.out.tens
      have hgS : qS.length = L.length := by have := KS.out; rw [← eS, List.length_map] at this; exact this
      have HGZ : twoC (dotC s s qs qS) (zipOk (fun _ _ => true) qs qS) = 0 := two_zero HM.out (HS.out.may hgS kS) zipOk_true
      have hmul := mulP_any (n := 8) (HX.out _ C6) TS ls ls (by omega) (by omega) (HL.out.more (by omega)) lS (by omega)
      have HMUL := Lib.hid hmul
      clear hmul TS hgS lS kS
      refine (HMUL.out).mono ?_
      rintro e y7 ⟨h, hb7⟩
      have hg := h.good HGZ ((zipQ_eq HQL.out eS).trans HLP.out)
      clear HMUL HGZ eS
      obtain ⟨raP, rbP, rcaP, rcbP, rfl, TP⟩ := hg
      obtain ⟨y8, hV⟩ : ∃ X, y7.alloc (.cells #[.slice raP s.length rcaP, .slice rbP LP.length rcbP] 26) = X := ⟨_, rfl⟩
      have bz : Below y7.heap.size y7 y8 := by rw [← hV]; exact (Below.refl _ _).alloc (Nat.le_refl _) _
      have NP : Row y8 y7.heap.size 26 #[.slice raP s.length rcaP, .slice rbP LP.length rcbP] := by rw [← hV]; exact Row.new _ _ _
      have EP : Below y6.heap.size y6 y8 := hb7.trans (bz.mono hb7.size)
      have C8 : Below W.heap.size W y8 := C6.trans (EP.mono C6.size)
      have MP := Lib.hid (TP.later bz)
      replace NA := NA.later EP
      replace MA := Lib.hid (MA.out.later EP)
      replace NS := NS.later EP
      replace MS := Lib.hid (MS.out.later EP)
      clear x0 x1 TP bz hb7 h
      obtain ⟨x0, x1, _, _⟩ := (R0.later C8).two
      go_wp2_with fail
      (try rw [hV])
      (try clear hV)
      refine ((negP_any (n := 6) (HX.out _ C8) ls (by omega) HL.out (by omega))).mono ?_
      rintro e y9 ⟨h, hb9⟩
      have hg := h.good HM.out ((mapQ_eq (f := fun x => -x) HQL.out).trans HLN.out)
      obtain ⟨raN, rbN, rcaN, rcbN, rfl, TN⟩ := hg
      obtain ⟨y10, hV⟩ : ∃ X, y9.alloc (.cells #[.slice raN s.length rcaN, .slice rbN LN.length rcbN] 26) = X := ⟨_, rfl⟩
      have bz : Below y9.heap.size y9 y10 := by rw [← hV]; exact (Below.refl _ _).alloc (Nat.le_refl _) _
      have NN : Row y10 y9.heap.size 26 #[.slice raN s.length rcaN, .slice rbN LN.length rcbN] := by rw [← hV]; exact Row.new _ _ _
      have EN : Below y8.heap.size y8 y10 := hb9.trans (bz.mono hb9.size)
      have C10 : Below W.heap.size W y10 := C8.trans (EN.mono C8.size)
      have MN := Lib.hid (TN.later bz)
      replace NA := NA.later EN
      replace MA := Lib.hid (MA.out.later EN)
      replace NS := NS.later EN
      replace MS := Lib.hid (MS.out.later EN)
      replace NP := NP.later EN
      replace MP := Lib.hid (MP.out.later EN)
      clear x0 x1 TN bz hb9 h
      obtain ⟨x0, x1, _, _⟩ := (R0.later C10).two
      obtain ⟨uN, vN, _, _⟩ := NN.two
      go_wp2_with fail
      (try rw [hV])
      (try clear hV)
      clear uN vN
      refine ((reluK (n := 8) MN.out (by rw [KN.out]; exact HS.out) (by rw [KN.out]; omega) (by omega))).mono ?_
      rintro e y11 ⟨h, hb11⟩
      rw [HLB.out] at h
      have hg := h
      obtain ⟨raB, rbB, rcaB, rcbB, rfl, TB⟩ := hg
      obtain ⟨y12, hV⟩ : ∃ X, y11.alloc (.cells #[.slice raB s.length rcaB, .slice rbB LB.length rcbB] 26) = X := ⟨_, rfl⟩
      have bz : Below y11.heap.size y11 y12 := by rw [← hV]; exact (Below.refl _ _).alloc (Nat.le_refl _) _
      have NB : Row y12 y11.heap.size 26 #[.slice raB s.length rcaB, .slice rbB LB.length rcbB] := by rw [← hV]; exact Row.new _ _ _
      have EB : Below y10.heap.size y10 y12 := hb11.trans (bz.mono hb11.size)
      have C12 : Below W.heap.size W y12 := C10.trans (EB.mono C10.size)
      have MB := Lib.hid (TB.later bz)
      replace NA := NA.later EB
      replace MA := Lib.hid (MA.out.later EB)
      replace NS := NS.later EB
      replace MS := Lib.hid (MS.out.later EB)
      replace NP := NP.later EB
      replace MP := Lib.hid (MP.out.later EB)
      replace NN := NN.later EB
      replace MN := Lib.hid (MN.out.later EB)
      clear x0 x1 TB bz hb11 h
      obtain ⟨x0, x1, _, _⟩ := (R0.later C12).two
      obtain ⟨uA, vA, _, _⟩ := NA.two
      obtain ⟨uB, vB, _, _⟩ := NB.two
      go_wp2_with fail
      (try rw [hV])
      (try clear hV)
      clear uA vA
      clear uB vB
      refine ((subK (n := 10) (resT_more MA.out (by omega)) MB.out (by rw [KA.out]; exact HS.out) (by rw [KB.out, KA.out]) (by rw [KA.out]; omega) (by omega))).mono ?_
      rintro e y13 ⟨h, hb13⟩
      rw [HLD.out] at h
      have hg := h
      obtain ⟨raD, rbD, rcaD, rcbD, rfl, TD⟩ := hg
      obtain ⟨y14, hV⟩ : ∃ X, y13.alloc (.cells #[.slice raD s.length rcaD, .slice rbD LD.length rcbD] 26) = X := ⟨_, rfl⟩
      have bz : Below y13.heap.size y13 y14 := by rw [← hV]; exact (Below.refl _ _).alloc (Nat.le_refl _) _
      have ND : Row y14 y13.heap.size 26 #[.slice raD s.length rcaD, .slice rbD LD.length rcbD] := by rw [← hV]; exact Row.new _ _ _
      have ED : Below y12.heap.size y12 y14 := hb13.trans (bz.mono hb13.size)
      have C14 : Below W.heap.size W y14 := C12.trans (ED.mono C12.size)
      have MD := Lib.hid (TD.later bz)
      replace NA := NA.later ED
      replace MA := Lib.hid (MA.out.later ED)
      replace NS := NS.later ED
      replace MS := Lib.hid (MS.out.later ED)
      replace NP := NP.later ED
      replace MP := Lib.hid (MP.out.later ED)
      replace NN := NN.later ED
      replace MN := Lib.hid (MN.out.later ED)
      replace NB := NB.later ED
      replace MB := Lib.hid (MB.out.later ED)
      clear x0 x1 TD bz hb13 h
      obtain ⟨x0, x1, _, _⟩ := (R0.later C14).two
      obtain ⟨uA, vA, _, _⟩ := NA.two
      obtain ⟨uP, vP, _, _⟩ := NP.two
      go_wp2_with fail
      (try rw [hV])
      (try clear hV)
      clear uA vA
      clear uP vP
      obtain ⟨qA, aA, bA, caA, cbA, TA, eA, lA, kA⟩ := MA.out.tens
      obtain ⟨qP, aP, bP, caP, cbP, TP, eP, lP, kP⟩ := MP.out.tens
      have hA64 : qA.length ≤ 64 := by have := congrArg List.length eA; rw [List.length_map, KA.out] at this; omega
      refine (sameQ_true (n := 20) TA TP (by omega) (by omega) (lA.more (by omega)) lP (by omega) (by rw [eA, eP]; exact FEP.out)).mono ?_
      rintro e y15 ⟨rfl, hb15⟩
      have C15 : Below W.heap.size W y15 := C14.trans (hb15.mono C14.size)
      obtain ⟨uD, vD, _, _⟩ := (ND.later hb15).two
      have MD15 := MD.out.later hb15
      clear x0 x1
      obtain ⟨x0, x1, _, _⟩ := (R0.later C15).two
      go_wp2_with fail
      obtain ⟨qD, aD, bD, caD, cbD, TD, eD, lD, kD⟩ := MD15.tens
      have hD64 : qD.length ≤ 64 := by have := congrArg List.length eD; rw [List.length_map, FED.out] at this; omega
      refine (sameQ_true (n := 30) TD (HX.out _ C15) (by omega) (by omega) lD (HL.out.more (by omega)) (by omega) (by rw [eD, FED.out, HQL.out])).mono ?_
      rintro e y16 ⟨rfl, hb16⟩
      have hk16 : Below w.heap.size w y16 := hBW.trans ((C15.trans (hb16.mono C15.size)).mono (by omega))
      go_wp2_with fail
      refine (known8_any _).mono ?_
      rintro e y9 ⟨rfl, hb9⟩
      go_wp2_with fail
      go_ret
      exact ⟨rfl, hk16.trans (hb9.mono hk16.size)⟩
end Go.Proofs.YtjcacmnmbbnffaaGreat
