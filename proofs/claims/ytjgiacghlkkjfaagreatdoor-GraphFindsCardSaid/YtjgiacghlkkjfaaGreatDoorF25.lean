/-
  Part 25 of 29: contracts and what they rest on (ICode7).
-/
import Derived.Test.YtjgiacghlkkjfaaGreatDoorF1
import Derived.Test.YtjgiacghlkkjfaaGreatDoorF2
import Derived.Test.YtjgiacghlkkjfaaGreatDoorF3
import Derived.Test.YtjgiacghlkkjfaaGreatDoorF4
import Derived.Test.YtjgiacghlkkjfaaGreatDoorF5
import Derived.Test.YtjgiacghlkkjfaaGreatDoorF6
import Derived.Test.YtjgiacghlkkjfaaGreatDoorF7
import Derived.Test.YtjgiacghlkkjfaaGreatDoorF8
import Derived.Test.YtjgiacghlkkjfaaGreatDoorF9
import Derived.Test.YtjgiacghlkkjfaaGreatDoorF10
import Derived.Test.YtjgiacghlkkjfaaGreatDoorF11
import Derived.Test.YtjgiacghlkkjfaaGreatDoorF12
import Derived.Test.YtjgiacghlkkjfaaGreatDoorF13
import Derived.Test.YtjgiacghlkkjfaaGreatDoorF14
import Derived.Test.YtjgiacghlkkjfaaGreatDoorF16
import Derived.Test.YtjgiacghlkkjfaaGreatDoorF19
import Derived.Test.YtjgiacghlkkjfaaGreatDoorF20
import Derived.Test.YtjgiacghlkkjfaaGreatDoorF22
import Derived.Test.YtjgiacghlkkjfaaGreatDoorF23
import Derived.WalkKit
import Derived.Test.YtjgiacghlkkjfaaGreatDoorRows
import Derived.OrdersHeld
import Derived.Deep.RegionHeld
import Derived.BigQuiet
import Derived.Deep.QuietTactic
import Derived.Lib.Hide
import Derived.Lib.Small
import Derived.Lib.Walk
import Derived.Lib.BitFns
import Derived.Maps.AppendAt
import Derived.RangeFuncNested
import Derived.RangeFuncBound
import Derived.RangeFuncCalls
import Derived.RangeFuncLeaves
import Derived.Shelf.Abstract
import Derived.OwnWalkIn
import Derived.TacticsInMore
import Derived.LoopNIn
import Derived.LoopIn
import Derived.RangeFuncBox
import Derived.Deep.RegionHeld3
import Derived.OrdersIn
import Derived.StillTailTactics
import Derived.RangeFuncFrom
import Derived.Laws.EntriesVeiled
import Derived.ProofKit
import Derived.OpenShut
import Derived.JoinedCond
import Derived.Carry
import Derived.Laws.AppendOwnNone
import Derived.Lib.ItoaNum
import Derived.Deep.RegionLaw
import Derived.WalkMore
import Derived.Lib.SmallJoins
import Derived.IntWalk
import Derived.Deep.DeepCutAuto
import Derived.Laws.OwnMore
import Derived.ArgAppend
import Derived.Deep.Slices
import Derived.Laws.CopyOwn
import Derived.Lib.SliceRun
import Derived.SizedLaws
import Derived.Great.BuildSlice
namespace Go.Proofs.YtjgiacghlkkjfaaGreatDoor
set_option maxRecDepth 100000
section
open Go.RowKit
set_option linter.unusedVariables false
set_option linter.unusedSimpArgs false
theorem axesB_len {l : List Int} {r : Nat} (h : axesB l (r : Int) = true) : l.length ≤ r := by
  have ha : ∀ i, i < l.length → (0 ≤ l.getD i 0 ∧ l.getD i 0 < (r : Int)) ∧ (0 < i → l.getD (i - 1) 0 < l.getD i 0) := of_decide_eq_true h
  have hi : ∀ i, i < l.length → (i : Int) ≤ l.getD i 0 := fun i => by
    induction i with
    | zero => intro h; have := (ha 0 h).1.1; simpa using this
    | succ i ih =>
      intro h
      have h1 := ih (by omega)
      have h2 := (ha (i + 1) h).2 (by omega)
      rw [Nat.add_sub_cancel] at h2
      omega
  rcases Nat.eq_zero_or_pos l.length with h0 | h0
  · omega
  · have h1 := hi (l.length - 1) (by omega)
    have h2 := (ha (l.length - 1) (by omega)).1.2
    omega
theorem good_len {v o : Int} {n : Nat} {a : List Int} (g : GoodO v o n a) : a.length ≤ 8 := by
  have hf := g.fit
  unfold fitO at hf
  split at hf
  · have := (of_decide_eq_true hf).1; omega
  · split at hf
    · unfold fracB at hf
      rw [Bool.and_eq_true] at hf
      have := (of_decide_eq_true hf.1).1; omega
    · split at hf
      · unfold perB at hf
        rw [Bool.and_eq_true] at hf
        have := of_decide_eq_true hf.1; omega
      · split at hf
        · have := (mayC_zero.1 (of_decide_eq_true hf)).rank; omega
        · split at hf
          · have := axesB_len (r := 4) hf; omega
          · split at hf
            · have := (of_decide_eq_true hf).2.1; omega
            · split at hf
              · have := (of_decide_eq_true hf).2.1; omega
              · split at hf
                · have := (of_decide_eq_true hf).1; omega
                · have := of_decide_eq_true hf; omega
theorem valI_len {v o : Int} {n : Nat} {a : List Int} {ls : List (List Int)} (g : GoodO v o n a) (hn : ls.length = n) (hok : orL (ls.map mayC) = 0) : (valI o a ls).length ≤ 1000 := by
  have h1 := (ar_one g).1
  have ok0 := shp_ok hok (i := 0) (by omega)
  have h4 := ok0.rank
  have h8 := good_len g
  unfold valI
  split
  · simp
  split
  · unfold trS; rw [List.length_map]; omega
  split
  · omega
  split
  · have := (drop_ok a ok0).rank; omega
  split
  · rw [slS_len]; omega
  split
  · rw [padI_len]; omega
  split
  · unfold catS; rw [List.length_set]; omega
  · omega
def cntI (l n : Nat) : Int := if l = n then 0 else 10
theorem infC_or {v o : Int} {n : Nat} {xs : List Int} {ls : List (List Int)} (h : orL [chkO v o n xs, cntI ls.length n, orL (ls.map mayC)] ≠ 0) : infC v o n xs ls = orL [chkO v o n xs, cntI ls.length n, orL (ls.map mayC)] := by
  simp only [orL] at h ⊢
  by_cases h1 : chkO v o n xs = 0
  · rw [if_pos h1] at h ⊢
    by_cases h2 : ls.length = n
    · have e : cntI ls.length n = 0 := if_pos h2
      rw [if_pos e] at h ⊢
      by_cases h3 : orL (ls.map mayC) = 0
      · rw [if_pos h3] at h; exact absurd rfl h
      · rw [if_neg h3]; exact infC_may h1 h2 h3
    · have e : cntI ls.length n = 10 := if_neg h2
      rw [if_neg (by rw [e]; decide), e]
      exact infC_few h1 h2
  · rw [if_neg h1]; exact infC_chk h1
theorem infV_bad {v o : Int} {n : Nat} {xs : List Int} {ls : List (List Int)} (h : infC v o n xs ls ≠ 0) : infV v o n xs ls = [] := if_neg h
theorem or_three0 {x y z : Int} (h : orL [x, y, z] = 0) : x = 0 ∧ y = 0 ∧ z = 0 := by
  simp only [orL] at h
  split at h
  · split at h
    · split at h
      · exact ⟨by assumption, by assumption, by assumption⟩
      · exact absurd h (by assumption)
    · exact absurd h (by assumption)
  · exact absurd h (by assumption)
set_option maxRecDepth 100000 in
set_option maxHeartbeats 40000000 in
theorem shape_any (v : Int) {o : Int} {xs : List Int} {ls : List (List Int)} {a1 a2 al : Option Addr} {n1 c1 c2 cl : Nat} {w : World} (A : ArgS w (.slice a2 xs.length c2) xs a2 c2) (na : a2 = none → c2 = 0) (hx : xs.length ≤ 17592186044416) (L : RowL w (.slice al ls.length cl) ls al cl) (hlx : ∀ x ∈ ls, x.length ≤ 17592186044416) (hl : ls.length ≤ 17592186044416) :
    Calls Tryz.prog 114 #[.int .i64 v, .agg #[.int .i64 o, .slice a1 n1 c1, .slice a2 xs.length c2], .slice al ls.length cl] w fun e w' => ∃ r, e = .returned (.tuple #[r, .int .i64 (infC v o n1 xs ls)]) ∧ ResS w.heap.size w' r (infV v o n1 xs ls) ∧ Below w.heap.size w w' := by
  have HA := Lib.hid A
  have HL := Lib.hid L
  have HLX := Lib.hid hlx
  have HNA := Lib.hid na
  have HX0 := Lib.hid hx
  have hck0 := fun X (hX : Below w.heap.size w X) => check_any v (A.later hX) na hx (o := o) (a1 := a1) (n1 := n1) (c1 := c1)
  have hms0 := fun X (hX : Below w.heap.size w X) => mayShapes_any (L.later hX) hlx hl
  obtain ⟨m, hm⟩ : ∃ m, xs.length = m := ⟨_, rfl⟩
  obtain ⟨k, hk⟩ : ∃ k, ls.length = k := ⟨_, rfl⟩
  have HM := Lib.hid hm
  have HK := Lib.hid hk
  obtain ⟨IC, hic⟩ : ∃ c, infC v o n1 xs ls = c := ⟨_, rfl⟩
  obtain ⟨IV, hiv⟩ : ∃ c, infV v o n1 xs ls = c := ⟨_, rfl⟩
  have HIC := Lib.hid hic
  have HIV := Lib.hid hiv
  obtain ⟨e1, he1⟩ : ∃ c, chkO v o n1 xs = c := ⟨_, rfl⟩
  obtain ⟨e2, he2⟩ : ∃ c, cntI k n1 = c := ⟨_, rfl⟩
  obtain ⟨e3, he3⟩ : ∃ c, orL (ls.map mayC) = c := ⟨_, rfl⟩
  have hmc0 := fun X => mayCount_any (o := o) (a1 := a1) (a2 := a2) (al := al) (n1 := n1) (c1 := c1) (n2 := m) (c2 := c2) (nl := k) (cl := cl) X
  rw [show (if k = n1 then (0 : Int) else 10) = e2 from he2] at hmc0
  obtain ⟨d, hd⟩ : ∃ d, orL [e1, e2, e3] = d := ⟨_, rfl⟩
  have HE1 := Lib.hid he1
  have HE2 := Lib.hid he2
  have HE3 := Lib.hid he3
  have HD := Lib.hid hd
  have HDE := Lib.hid (show d ≠ 0 → IC = d from fun h => by
    rw [← hic, ← hd, ← he1, ← he2, ← he3, ← hk]
    exact infC_or (by rw [hk, he1, he2, he3, hd]; exact h))
  rw [hm, he1] at hck0
  rw [hk, he3] at hms0
  rw [hic, hiv, hm, hk]
  rw [hm] at hx
  rw [hk] at hl
  obtain ⟨W, hW⟩ : ∃ W, w.alloc (.cells #[.int .i64 o, .slice a1 n1 c1, .slice a2 m c2] 46) = W := ⟨_, rfl⟩
  have R0 : Row W w.heap.size 46 #[.int .i64 o, .slice a1 n1 c1, .slice a2 m c2] := by rw [← hW]; exact Row.new _ _ _
  have hbW : Below w.heap.size w W := by rw [← hW]; exact (Below.refl _ _).alloc (Nat.le_refl _) _
  have HCK := Lib.hid (fun X (hX : Below W.heap.size W X) => hck0 X (hbW.trans (hX.mono hbW.size)))
  have HMS := Lib.hid (fun X (hX : Below W.heap.size W X) => hms0 X (hbW.trans (hX.mono hbW.size)))
  have HMC := Lib.hid hmc0
  have MK := Lib.hid (show ∀ X, Below W.heap.size W X → (fun X => X.cell? ⟨w.heap.size, 0, none⟩ = some (.int .i64 o) ∧ X.cell? ⟨w.heap.size, 1, none⟩ = some (.slice a1 n1 c1) ∧ X.cell? ⟨w.heap.size, 2, none⟩ = some (.slice a2 m c2)) X from fun X h => by
    obtain ⟨g0, g1, g2, _⟩ := (R0.later h).three
    exact ⟨g0, g1, g2⟩)
  have B0 : Below W.heap.size W W.drew := (Below.refl _ _).drew
  clear hck0 hms0 hmc0 hm hk hic hiv he1 he2 he3 hd A L hlx na
  go_enter Tryz.func114, Tryz.ntmps114
  (try rw [hW])
  go_wp2_with fail
  (try rw [hW])
  clear hW
  refine wp_region_held_drew (S := fun X => X.cell? ⟨w.heap.size, 0, none⟩ = some (.int .i64 o) ∧ X.cell? ⟨w.heap.size, 1, none⟩ = some (.slice a1 n1 c1) ∧ X.cell? ⟨w.heap.size, 2, none⟩ = some (.slice a2 m c2)) (by kernel_rfl) (MK.out _ B0) (fun hHeld => ?_)
  obtain ⟨y0, hdrh⟩ : ∃ Y, W.drew = Y := ⟨_, rfl⟩
  rw [hdrh] at B0 hHeld ⊢
  clear hdrh
  refine todo [0, 1, 3, 4, 6] ?_
  iterate 5
   first
   | (refine todoH (v := ?_) rfl (by kernel_rfl) (fun _ _ _ h => h) (by assumption) (Or.inl ⟨by rfl, ?_⟩) ?_
      rotate_left
      · intro w hSw; (try dsimp only at hSw); go_simp; (try with_reducible rfl)
      try simp only [Act.put, List.getElem_toArray, List.getElem_cons_succ, List.getElem_cons_zero, List.setIfInBounds_toArray, List.set_cons_zero, List.set_cons_succ])
   | (refine todoH (v := undef) rfl (by kernel_rfl) (fun _ _ _ h => h) (by assumption) (Or.inr ⟨by rfl, rfl⟩) ?_
      try simp only [Act.put, List.getElem_toArray, List.getElem_cons_succ, List.getElem_cons_zero, List.setIfInBounds_toArray, List.set_cons_zero, List.set_cons_succ])
  refine todone ?_
  refine wpAnyH_ready (rs := [2]) (by kernel_rfl) (by simp) ?_
  refine AllReadyH.cons rfl (fun K hK => ?sh_2) AllReadyH.nil
  go_simp
  refine (HCK.out _ B0).mono ?_
  rintro e y1 ⟨rfl, hy⟩
  have B1 : Below W.heap.size W y1 := B0.trans (hy.mono B0.size)
  have Dh1 := hy
  clear hy
  go_simp
  refine hK.out _ _ (MK.out _ B1) (fun hHeld2 => ?mh_2)
  clear hK K hHeld
  have hHeld := hHeld2
  clear hHeld2
  try simp only [Act.put, List.getElem_toArray, List.getElem_cons_succ, List.getElem_cons_zero, List.setIfInBounds_toArray, List.set_cons_zero, List.set_cons_succ]
  refine wpAnyH_ready (rs := [5]) (by kernel_rfl) (by simp) ?_
  refine AllReadyH.cons rfl (fun K hK => ?sh_5) AllReadyH.nil
  go_simp
  refine (HMC.out _).mono ?_
  rintro e y2 ⟨rfl, hy⟩
  have B2 : Below W.heap.size W y2 := B1.trans (hy.mono B1.size)
  have Dh2 := hy
  clear hy
  go_simp
  refine hK.out _ _ (MK.out _ B2) (fun hHeld2 => ?mh_5)
  clear hK K hHeld
  have hHeld := hHeld2
  clear hHeld2
  try simp only [Act.put, List.getElem_toArray, List.getElem_cons_succ, List.getElem_cons_zero, List.setIfInBounds_toArray, List.set_cons_zero, List.set_cons_succ]
  refine wpAnyH_ready (rs := [7]) (by kernel_rfl) (by simp) ?_
  refine AllReadyH.cons rfl (fun K hK => ?sh_7) AllReadyH.nil
  go_simp
  refine (HMS.out _ B2).mono ?_
  rintro e y3 ⟨rfl, hy⟩
  have B3 : Below W.heap.size W y3 := B2.trans (hy.mono B2.size)
  have Dh3 := hy
  clear hy
  go_simp
  refine hK.out _ _ (MK.out _ B3) (fun hHeld2 => ?mh_7)
  clear hK K hHeld
  have hHeld := hHeld2
  clear hHeld2
  try simp only [Act.put, List.getElem_toArray, List.getElem_cons_succ, List.getElem_cons_zero, List.setIfInBounds_toArray, List.set_cons_zero, List.set_cons_succ]
  obtain ⟨y4, hh4⟩ : ∃ Y, y3.alloc (.cells #[.int .i64 e1, .int .i64 e2, .int .i64 e3] 32) = Y := ⟨_, rfl⟩
  have B4 : Below W.heap.size W y4 := by rw [← hh4]; exact B3.alloc B3.size _
  have Rh4 : Row y4 y3.heap.size 32 #[.int .i64 e1, .int .i64 e2, .int .i64 e3] := by rw [← hh4]; exact Row.new _ _ _
  refine wpAnyH_ready (rs := [8]) (by kernel_rfl) (by simp) ?_
  refine AllReadyH.cons rfl (fun K hK => ?sh_8) AllReadyH.nil
  go_simp
  (try rw [hh4])
  clear hh4
  refine hK.out _ _ (MK.out _ B4) (fun hHeld2 => ?mh_8)
  clear hK K hHeld
  have hHeld := hHeld2
  clear hHeld2
  try simp only [Act.put, List.getElem_toArray, List.getElem_cons_succ, List.getElem_cons_zero, List.setIfInBounds_toArray, List.set_cons_zero, List.set_cons_succ]
  refine wpAnyH_ready (rs := [9]) (by kernel_rfl) (by simp) ?_
  refine AllReadyH.cons rfl (fun K hK => ?sh_9) AllReadyH.nil
  go_simp
  refine (or_any (xs := [e1, e2, e3]) (b := y3.heap.size) (fun k hk => by
      simp only [List.length_cons, List.length_nil] at hk
      by_cases h0 : k = 0
      · subst h0; exact Rh4.cell 0
      by_cases h1 : k = 1
      · subst h1; exact Rh4.cell 1
      by_cases h2 : k = 2
      · subst h2; exact Rh4.cell 2
      omega) (by simp)).mono ?_
  rintro e yy ⟨rfl, rfl⟩
  go_simp
  rw [HD.out]
  refine hK.out _ _ (MK.out _ B4) (fun hHeld2 => ?mh_9)
  clear hK K hHeld
  have hHeld := hHeld2
  clear hHeld2
  try simp only [Act.put, List.getElem_toArray, List.getElem_cons_succ, List.getElem_cons_zero, List.setIfInBounds_toArray, List.set_cons_zero, List.set_cons_succ]
  refine todo [10] ?_
  iterate 1
   first
   | (refine todoH (v := ?_) rfl (by kernel_rfl) (fun _ _ _ h => h) (by assumption) (Or.inl ⟨by rfl, ?_⟩) ?_
      rotate_left
      · intro w hSw; (try dsimp only at hSw); go_simp; (try with_reducible rfl)
      try simp only [Act.put, List.getElem_toArray, List.getElem_cons_succ, List.getElem_cons_zero, List.setIfInBounds_toArray, List.set_cons_zero, List.set_cons_succ])
   | (refine todoH (v := undef) rfl (by kernel_rfl) (fun _ _ _ h => h) (by assumption) (Or.inr ⟨by rfl, rfl⟩) ?_
      try simp only [Act.put, List.getElem_toArray, List.getElem_cons_succ, List.getElem_cons_zero, List.setIfInBounds_toArray, List.set_cons_zero, List.set_cons_succ])
  refine todone ?_
  refine wpAnyH_done (by kernel_rfl) ?_ _
  (try dsimp only [Straight])
  clear hHeld Rh4
  by_cases hd0 : d = 0
  case neg =>
    have hdI : (d != 0) = true := by simpa using hd0
    have hbE : Below w.heap.size w y4 := hbW.trans (B4.mono hbW.size)
    obtain rfl : IC = d := HDE.out hd0
    obtain rfl : IV = [] := by rw [← HIV.out]; exact infV_bad (by rw [HIC.out]; exact hd0)
    clear hd0
    go_wp2_with fail
    go_ret2
    exact ⟨_, rfl, ResS.nil _ _, hbE⟩
  case pos =>
    have h3 := or_three0 (by rw [← hd0]; exact HD.out : orL [e1, e2, e3] = 0)
    have hchk : chkO v o n1 xs = 0 := by rw [HE1.out]; exact h3.1
    have hlen : ls.length = n1 := by
      have h5 : cntI k n1 = 0 := by rw [HE2.out]; exact h3.2.1
      rw [HK.out]
      unfold cntI at h5
      split at h5
      · assumption
      · cases h5
    have hmay : orL (ls.map mayC) = 0 := by rw [HE3.out]; exact h3.2.2
    have HCH := Lib.hid hchk
    have HLE := Lib.hid hlen
    have HMA := Lib.hid hmay
    have HOK := Lib.hid (allOk hmay)
    have hgd := good_of hchk (((shpI ls 0).length : Nat) : Int)
    have h81 := ar_one hgd
    have h82 := good_len hgd
    have hk18 : 1 ≤ k ∧ k ≤ 8 := by rw [← HK.out, hlen]; exact h81
    obtain ⟨att, hatt⟩ : ∃ l, attI v o n1 xs ls = l := ⟨_, rfl⟩
    rw [show expO v o n1 xs (((shpI ls 0).length : Nat) : Int) = att from hatt] at hgd h82
    have HGD := Lib.hid hgd
    obtain ⟨ea, hea⟩ : ∃ n, att.length = n := ⟨_, rfl⟩
    have HEA := Lib.hid hea
    have hbE : Below w.heap.size w y4 := hbW.trans (B4.mono hbW.size)
    obtain ⟨b, o0, ax, cx, rfl, hbl, hcx, hAx, hnx⟩ := (HL.out.later hbE).at (i := 0) (by rw [HK.out]; omega)
    rw [Nat.add_zero] at hcx
    have okx := HOK.out _ (shp_in (i := 0) (by rw [HK.out]; omega))
    have hrk := okx.rank
    obtain ⟨lx, hlx⟩ : ∃ l, (shpI ls 0).length = l := ⟨_, rfl⟩
    have HLX0 := Lib.hid hlx
    have HATT := Lib.hid (show expO v o n1 xs (lx : Int) = att by rw [← hatt, ← hlx]; rfl)
    have HATT0 := Lib.hid hatt
    rw [hlx] at hcx hrk
    rw [hea] at h82
    have MK2 := Lib.hid (show ∀ X, Below y4.heap.size y4 X → (fun X => X.cell? ⟨w.heap.size, 0, none⟩ = some (.int .i64 o) ∧ X.cell? ⟨w.heap.size, 1, none⟩ = some (.slice a1 n1 c1) ∧ X.cell? ⟨w.heap.size, 2, none⟩ = some (.slice a2 m c2) ∧ X.cell? ⟨b, o0, none⟩ = some (.slice ax lx cx)) X from fun X h => by
      obtain ⟨g0, g1, g2⟩ := MK.out _ (B4.trans (h.mono B4.size))
      exact ⟨g0, g1, g2, (h.cell hbl).trans hcx⟩)
    have hkI : (0 : Int) < (k : Int) := by omega
    have hkn : 0 < k := by omega
    clear h3 hchk hlen hmay hgd h81 hatt hea hcx hAx hnx okx hlx hd0
    have hd0I : (d != 0) = false := by rw [show d = 0 from by rw [← HD.out]; simp only [orL]; rw [if_pos (by rw [← HE1.out]; exact HCH.out), if_pos (by rw [← HE2.out]; exact if_pos (by rw [← HK.out]; exact HLE.out)), if_pos (by rw [← HE3.out]; exact HMA.out)]]; rfl
    go_wp2_with fail
    refine wp_region_held_drew (S := fun X => X.cell? ⟨w.heap.size, 0, none⟩ = some (.int .i64 o) ∧ X.cell? ⟨w.heap.size, 1, none⟩ = some (.slice a1 n1 c1) ∧ X.cell? ⟨w.heap.size, 2, none⟩ = some (.slice a2 m c2) ∧ X.cell? ⟨b, o0, none⟩ = some (.slice ax lx cx)) (by kernel_rfl) (MK2.out _ ((Below.refl _ _).drew)) (fun hHeld => ?_)
    obtain ⟨ps, hp⟩ : ∃ Y, y4.drew = Y := ⟨_, rfl⟩
    have bs : Below y4.heap.size y4 ps := by rw [← hp]; exact (Below.refl _ _).drew
    rw [hp] at hHeld ⊢
    clear hp
    refine todo [0, 1, 2, 3, 4, 5, 6, 7, 10] ?_
    iterate 9
     refine todoH (v := ?_) rfl (by kernel_rfl) (fun _ _ _ h => h) (by assumption) (Or.inl ⟨by rfl, ?_⟩) ?_
     rotate_left
     · intro w hSw; (try dsimp only at hSw); go_simp; (try with_reducible rfl)
     try simp only [Act.put, List.getElem_toArray, List.getElem_cons_succ, List.getElem_cons_zero, List.setIfInBounds_toArray, List.set_cons_zero, List.set_cons_succ]
    refine todone ?_
    have HPs := Lib.hid (fun (X : World) (h : Below ps.heap.size ps X) => (show X.cell? ⟨w.heap.size, 0, none⟩ = some (.int .i64 o) ∧ X.cell? ⟨w.heap.size, 1, none⟩ = some (.slice a1 n1 c1) ∧ X.cell? ⟨w.heap.size, 2, none⟩ = some (.slice a2 m c2) ∧ X.cell? ⟨b, o0, none⟩ = some (.slice ax lx cx) from MK2.out _ (bs.trans (h.mono bs.size))))
    refine pool_start (fs := [⟨12, 9, 189, #[.int .i64 0, .slice none 0 0, .slice none 0 0], fun g => .pointer (some ⟨g, 0, none⟩)⟩]) (us := [undef]) (n := 4) (F := fun _ => True) (by kernel_rfl) (by simp only [putF, Act.put, List.getElem_toArray, List.getElem_cons_succ, List.getElem_cons_zero, List.setIfInBounds_toArray, List.set_cons_zero, List.set_cons_succ]) rfl trivial ?_
    refine pool_step (α := Nat) (fun g => .slice (some ⟨g, 0, none⟩) 1 1) (c := 8) (dc := 33) (need := []) (F' := fun g X => Row X g 3 #[.int .i64 (lx : Int)]) rfl ?fls8 (by decide) (by decide) (by decide) (by decide) (by kernel_rfl) HPs.out (fun _ _ _ _ => trivial) ?sts8 ?nxs8
    case fls8 =>
      intro f hf
      simp only [List.mem_cons, List.not_mem_nil, or_false] at hf
      rcases hf with rfl
      all_goals exact ⟨fun g g' e => by simpa using e, _, rfl, fun a X K h => by unfold StepH; go_simp; exact h⟩
    case sts8 =>
      intro us X K hus _ hb _ hK
      obtain ⟨uF1, rfl⟩ := len_one10 hus
      simp only [putF, Act.put, List.getElem_toArray, List.getElem_cons_succ, List.getElem_cons_zero, List.setIfInBounds_toArray, List.set_cons_zero, List.set_cons_succ]
      unfold StepH
      go_simp
      have hal : Below X.heap.size X (X.alloc (.cells #[.int .i64 (lx : Int)] 3)) := (Below.refl _ _).alloc (Nat.le_refl _) _
      exact hK X.heap.size _ hal (Row.new _ _ _)
    rintro gr
    (try dsimp only)
    try simp only [Act.put, List.getElem_toArray, List.getElem_cons_succ, List.getElem_cons_zero, List.setIfInBounds_toArray, List.set_cons_zero, List.set_cons_succ]
    refine pool_step (α := Option Addr × Nat × Nat) (fun p => .slice p.1 ea p.2.1) (c := 9) (dc := 34) (need := []) (F' := fun p X => ResS p.2.2 X (.slice p.1 ea p.2.1) att ∧ w.heap.size ≤ p.2.2) rfl ?fls9 (by decide) (by decide) (by decide) (by decide) (by kernel_rfl) HPs.out (fun X Y h hF => Row.later hF h) ?sts9 ?nxs9
    case fls9 =>
      intro f hf
      simp only [List.mem_cons, List.not_mem_nil, or_false] at hf
      rcases hf with rfl
      all_goals exact ⟨fun g g' e => by simpa using e, _, rfl, fun a X K h => by unfold StepH; go_simp; exact h⟩
    case sts9 =>
      intro us X K hus _ hb hF hK
      obtain ⟨uF1, rfl⟩ := len_one10 hus
      simp only [putF, Act.put, List.getElem_toArray, List.getElem_cons_succ, List.getElem_cons_zero, List.setIfInBounds_toArray, List.set_cons_zero, List.set_cons_succ]
      unfold StepH
      go_simp
      have bX : Below w.heap.size w X := hbW.trans ((B4.trans ((bs.trans (hb.mono bs.size)).mono B4.size)).mono hbW.size)
      have hex := explicit_any v (HA.out.later bX) HNA.out HX0.out (Row.argS hF [(lx : Int)] rfl (Wid.one ⟨by omega, by omega⟩)) (by simp) (o := o) (a1 := a1) (n1 := n1) (c1 := c1)
      rw [show expO v o n1 xs (([(lx : Int)] : List Int).getD 0 0) = att from HATT.out, HM.out] at hex
      refine hex.mono ?_
      rintro e X' ⟨r, rfl, hr, hy⟩
      obtain ⟨ar, cr, rfl, hr2⟩ := res_slice11 hr
      rw [HEA.out] at hr2
      rw [HEA.out]
      go_simp
      exact hK (ar, cr, X.heap.size) _ hy ⟨hr2, bX.size⟩
    rintro ⟨ar, cr, bsr⟩
    (try dsimp only)
    try simp only [Act.put, List.getElem_toArray, List.getElem_cons_succ, List.getElem_cons_zero, List.setIfInBounds_toArray, List.set_cons_zero, List.set_cons_succ]
    refine pool_take (v := ?_) (i := 11) (di := 36) rfl rfl (by decide) (by decide) (by kernel_rfl) (fun _ _ _ h => h) HPs.out (fun us hus => ?_) ?_
    rotate_left
    · obtain ⟨uF1, rfl⟩ := len_one10 hus
      simp only [putF, Act.put, List.getElem_toArray, List.getElem_cons_succ, List.getElem_cons_zero, List.setIfInBounds_toArray, List.set_cons_zero, List.set_cons_succ]
      refine Or.inl ⟨by rfl, ?_⟩
      intro w hSw; (try dsimp only at hSw); go_simp; (try with_reducible rfl)
    try simp only [Act.put, List.getElem_toArray, List.getElem_cons_succ, List.getElem_cons_zero, List.setIfInBounds_toArray, List.set_cons_zero, List.set_cons_succ]
    refine pool_end ?flse (by decide) (by decide) (by kernel_rfl) HPs.out (fun X Y h hF => ⟨ResS.later hF.1 h, hF.2⟩) ?nxse
    case flse =>
      intro f hf
      simp only [List.mem_cons, List.not_mem_nil, or_false] at hf
      rcases hf with rfl
      all_goals exact ⟨fun g g' e => by simpa using e, _, rfl, fun a X K h => by unfold StepH; go_simp; exact h⟩
    intro us xs ok hb hF
    obtain ⟨gs, rfl, hgs, Rs⟩ := ok.one
    (try dsimp only at Rs hF)
    simp only [putF, Act.put, List.getElem_toArray, List.getElem_cons_succ, List.getElem_cons_zero, List.setIfInBounds_toArray, List.set_cons_zero, List.set_cons_succ]
    have Bs : Below y4.heap.size y4 xs := bs.trans (hb.mono bs.size)
    have hHeld := HPs.out xs hb
    clear ok
    obtain ⟨d0, d1, d2, d3, d4, d5⟩ := Rs.three
    refine wpAnyH_ready (rs := [13]) (by kernel_rfl) (by simp) ?_
    refine AllReadyH.cons rfl (fun K hK => ?ss1) AllReadyH.nil
    go_simp
    refine afterSet3 Rs (fun xs1 os1 zs1 => ?_)
    clear d0 d1 d2 d3 d4 d5
    have Bs1 : Below y4.heap.size y4 xs1 := Bs.trans (os1.below (Nat.le_trans bs.size hgs))
    replace hF := (⟨hF.1.far Rs (by decide) (fun k hk => os1.block k hk), hF.2⟩ : _ ∧ _)
    replace Rs := zs1
    refine hK.out _ _ (MK2.out _ Bs1) (fun hHeld2 => ?_)
    clear hK K hHeld
    have hHeld := hHeld2
    clear hHeld2
    try simp only [Act.put, List.getElem_toArray, List.getElem_cons_succ, List.getElem_cons_zero, List.setIfInBounds_toArray, List.set_cons_zero, List.set_cons_succ]
    refine wpAnyH_done (by kernel_rfl) ?_ _
    (try dsimp only [Straight])
    obtain ⟨V2, hV2⟩ : ∃ Y, xs1 = Y := ⟨_, rfl⟩
    rw [hV2] at Rs hF Bs1 ⊢
    have hb2 : Below w.heap.size w V2 := hbE.trans (Bs1.mono hbE.size)
    clear hV2
    have hat := hF.1.at_
    have hat1 := hat.2.1
    rw [← HEA.out] at hat1
    have HAR := Lib.hid hat1
    have HNR := Lib.hid hat.2.2
    have hho := fun X (hX : Below V2.heap.size V2 X) => holds_any (o := o) (HAR.out.later hX) HNR.out (by rw [HEA.out]; omega) (HL.out.later (hb2.trans (hX.mono hb2.size))) HOK.out (by rw [HK.out]; omega) HGD.out HLE.out
    have hre := fun (hh : holdI o att ls = true) X (hX : Below V2.heap.size V2 X) => result_any (o := o) (HAR.out.later hX) HNR.out (by rw [HEA.out]; omega) (HL.out.later (hb2.trans (hX.mono hb2.size))) HOK.out (by rw [HK.out]; omega) HGD.out HLE.out hh
    obtain ⟨hold, hhe⟩ : ∃ c, holdI o att ls = c := ⟨_, rfl⟩
    rw [HEA.out, HK.out, hhe] at hho
    rw [HEA.out, HK.out, hhe] at hre
    obtain ⟨vl, hvl⟩ : ∃ c, valI o att ls = c := ⟨_, rfl⟩
    rw [hvl] at hre
    have HHO := Lib.hid hho
    have HRE := Lib.hid hre
    have HHE := Lib.hid hhe
    have HVL := Lib.hid hvl
    obtain ⟨k0, k1, k2, _, _, _⟩ := Rs.three
    have HRS := Lib.hid Rs
    have HHF := Lib.hid hF
    clear hat hat1 hho hre hhe hvl hF Rs hHeld
    go_wp2_with fail
    refine (HHO.out _ (Below.refl _ _)).mono ?_
    rintro e V3 ⟨rfl, hy⟩
    have D3 : Below V2.heap.size V2 V3 := hy
    have hb3 : Below w.heap.size w V3 := hb2.trans (D3.mono hb2.size)
    clear hy k0 k1 k2
    cases hold with
    | false =>
      obtain rfl : IC = 13 := by rw [← HIC.out]; exact infC_hold HCH.out HLE.out HMA.out (by rw [HATT0.out]; exact HHE.out)
      obtain rfl : IV = [] := by rw [← HIV.out]; exact infV_bad (by rw [HIC.out]; decide)
      go_wp2_with fail
      go_ret2
      exact ⟨_, rfl, ResS.nil _ _, hb3⟩
    | true =>
      obtain ⟨k0, k1, k2, _, _, _⟩ := (HRS.out.later D3).three
      go_wp2_with fail
      refine (HRE.out (by first | rfl | trivial) _ D3).mono ?_
      rintro e V4 ⟨r, rfl, hr, hy⟩
      have D4 : Below V2.heap.size V2 V4 := D3.trans (hy.mono D3.size)
      have hb4 : Below w.heap.size w V4 := hb2.trans (D4.mono hb2.size)
      obtain ⟨rr, rc, rfl, hr2⟩ := res_slice11 hr
      obtain ⟨lv, hlv⟩ : ∃ n, vl.length = n := ⟨_, rfl⟩
      have HLV := Lib.hid hlv
      have hr3 := hr2.mono hb3.size
      have hps := val_pos HGD.out HLE.out HMA.out HHE.out
      rw [HVL.out] at hps
      have hvb : vl.length ≤ 1000 := by
        rw [← HVL.out]
        exact valI_len HGD.out HLE.out HMA.out
      have hat := hr2.at_
      have hmy := fun X (hX : Below V4.heap.size V4 X) => mayS_any (hat.2.1.later hX) (by omega)
      have had := fun X (hX : Below V4.heap.size V4 X) => mayAdd_any (o := o) (HAR.out.later (D4.trans (hX.mono D4.size))) HNR.out (by rw [HEA.out]; omega) (HL.out.later (hb4.trans (hX.mono hb4.size))) HOK.out (by rw [HK.out]; omega) (hat.2.1.later hX) hat.2.2 hvb (fun h => by subst h; rw [HLE.out]; exact ar_three HGD.out)
      obtain ⟨f1, hf1⟩ : ∃ c, mayC vl = c := ⟨_, rfl⟩
      obtain ⟨f2, hf2⟩ : ∃ c, addC o (shpI ls 2) vl = c := ⟨_, rfl⟩
      obtain ⟨ff, hff⟩ : ∃ c, orL [f1, f2] = c := ⟨_, rfl⟩
      rw [hlv, hf1] at hmy
      rw [hlv, hf2, HEA.out, HK.out] at had
      rw [hlv] at hr3 hvb ⊢
      obtain rfl : IC = ff := by
        rw [← HIC.out, infC_val HCH.out HLE.out HMA.out (by rw [HATT0.out]; exact HHE.out), HATT0.out, HVL.out, hf1, hf2, hff]
      have HFF := Lib.hid hff
      have HMY := Lib.hid hmy
      have HAD := Lib.hid had
      have HR3 := Lib.hid hr3
      have MK3 := Lib.hid (show ∀ X, Below V4.heap.size V4 X → (fun X => X.cell? ⟨gs, 0, none⟩ = some (.int .i64 o) ∧ X.cell? ⟨gs, 1, none⟩ = some (.slice ar ea cr) ∧ X.cell? ⟨gs, 2, none⟩ = some (.slice (some ⟨b, o0, none⟩) k cl)) X from fun X h => by
        obtain ⟨g0, g1, g2, _⟩ := (HRS.out.later (D4.trans (h.mono D4.size))).three
        exact ⟨g0, g1, g2⟩)
      have Z0 : Below V4.heap.size V4 V4.drew := (Below.refl _ _).drew
      clear hy hr hr2 hlv hat hmy had hf1 hf2 hff hr3 hps k0 k1 k2
      go_wp2_with fail
      refine wp_region_held_drew (S := fun X => X.cell? ⟨gs, 0, none⟩ = some (.int .i64 o) ∧ X.cell? ⟨gs, 1, none⟩ = some (.slice ar ea cr) ∧ X.cell? ⟨gs, 2, none⟩ = some (.slice (some ⟨b, o0, none⟩) k cl)) (by kernel_rfl) (MK3.out _ Z0) (fun hHeld => ?_)
      obtain ⟨z0, hdrg⟩ : ∃ Y, V4.drew = Y := ⟨_, rfl⟩
      rw [hdrg] at Z0 hHeld ⊢
      clear hdrg
      refine todo [0, 2, 3] ?_
      iterate 3
       first
       | (refine todoH (v := ?_) rfl (by kernel_rfl) (fun _ _ _ h => h) (by assumption) (Or.inl ⟨by rfl, ?_⟩) ?_
          rotate_left
          · intro w hSw; (try dsimp only at hSw); go_simp; (try with_reducible rfl)
          try simp only [Act.put, List.getElem_toArray, List.getElem_cons_succ, List.getElem_cons_zero, List.setIfInBounds_toArray, List.set_cons_zero, List.set_cons_succ])
       | (refine todoH (v := undef) rfl (by kernel_rfl) (fun _ _ _ h => h) (by assumption) (Or.inr ⟨by rfl, rfl⟩) ?_
          try simp only [Act.put, List.getElem_toArray, List.getElem_cons_succ, List.getElem_cons_zero, List.setIfInBounds_toArray, List.set_cons_zero, List.set_cons_succ])
      refine todone ?_
      refine wpAnyH_ready (rs := [1]) (by kernel_rfl) (by simp) ?_
      refine AllReadyH.cons rfl (fun K hK => ?sg_1) AllReadyH.nil
      go_simp
      refine (HMY.out _ Z0).mono ?_
      rintro e z1 ⟨rfl, hy⟩
      have Z1 : Below V4.heap.size V4 z1 := Z0.trans (hy.mono Z0.size)
      have Dg1 := hy
      clear hy
      go_simp
      refine hK.out _ _ (MK3.out _ Z1) (fun hHeld2 => ?mg_1)
      clear hK K hHeld
      have hHeld := hHeld2
      clear hHeld2
      try simp only [Act.put, List.getElem_toArray, List.getElem_cons_succ, List.getElem_cons_zero, List.setIfInBounds_toArray, List.set_cons_zero, List.set_cons_succ]
      refine wpAnyH_ready (rs := [4]) (by kernel_rfl) (by simp) ?_
      refine AllReadyH.cons rfl (fun K hK => ?sg_4) AllReadyH.nil
      go_simp
      refine (HAD.out _ Z1).mono ?_
      rintro e z2 ⟨rfl, hy⟩
      have Z2 : Below V4.heap.size V4 z2 := Z1.trans (hy.mono Z1.size)
      have Dg2 := hy
      clear hy
      go_simp
      refine hK.out _ _ (MK3.out _ Z2) (fun hHeld2 => ?mg_4)
      clear hK K hHeld
      have hHeld := hHeld2
      clear hHeld2
      try simp only [Act.put, List.getElem_toArray, List.getElem_cons_succ, List.getElem_cons_zero, List.setIfInBounds_toArray, List.set_cons_zero, List.set_cons_succ]
      obtain ⟨z3, hg3⟩ : ∃ Y, z2.alloc (.cells #[.int .i64 f1, .int .i64 f2] 32) = Y := ⟨_, rfl⟩
      have Z3 : Below V4.heap.size V4 z3 := by rw [← hg3]; exact Z2.alloc Z2.size _
      have Rg3 : Row z3 z2.heap.size 32 #[.int .i64 f1, .int .i64 f2] := by rw [← hg3]; exact Row.new _ _ _
      refine wpAnyH_ready (rs := [5]) (by kernel_rfl) (by simp) ?_
      refine AllReadyH.cons rfl (fun K hK => ?sg_5) AllReadyH.nil
      go_simp
      (try rw [hg3])
      clear hg3
      refine hK.out _ _ (MK3.out _ Z3) (fun hHeld2 => ?mg_5)
      clear hK K hHeld
      have hHeld := hHeld2
      clear hHeld2
      try simp only [Act.put, List.getElem_toArray, List.getElem_cons_succ, List.getElem_cons_zero, List.setIfInBounds_toArray, List.set_cons_zero, List.set_cons_succ]
      refine wpAnyH_ready (rs := [6]) (by kernel_rfl) (by simp) ?_
      refine AllReadyH.cons rfl (fun K hK => ?sg_6) AllReadyH.nil
      go_simp
      refine (or_any (xs := [f1, f2]) (b := z2.heap.size) (fun k hk => by
          simp only [List.length_cons, List.length_nil] at hk
          by_cases h0 : k = 0
          · subst h0; exact Rg3.cell 0
          by_cases h1 : k = 1
          · subst h1; exact Rg3.cell 1
          omega) (by simp)).mono ?_
      rintro e yy ⟨rfl, rfl⟩
      go_simp
      rw [HFF.out]
      refine hK.out _ _ (MK3.out _ Z3) (fun hHeld2 => ?mg_6)
      clear hK K hHeld
      have hHeld := hHeld2
      clear hHeld2
      try simp only [Act.put, List.getElem_toArray, List.getElem_cons_succ, List.getElem_cons_zero, List.setIfInBounds_toArray, List.set_cons_zero, List.set_cons_succ]
      refine todo [7] ?_
      iterate 1
       first
       | (refine todoH (v := ?_) rfl (by kernel_rfl) (fun _ _ _ h => h) (by assumption) (Or.inl ⟨by rfl, ?_⟩) ?_
          rotate_left
          · intro w hSw; (try dsimp only at hSw); go_simp; (try with_reducible rfl)
          try simp only [Act.put, List.getElem_toArray, List.getElem_cons_succ, List.getElem_cons_zero, List.setIfInBounds_toArray, List.set_cons_zero, List.set_cons_succ])
       | (refine todoH (v := undef) rfl (by kernel_rfl) (fun _ _ _ h => h) (by assumption) (Or.inr ⟨by rfl, rfl⟩) ?_
          try simp only [Act.put, List.getElem_toArray, List.getElem_cons_succ, List.getElem_cons_zero, List.setIfInBounds_toArray, List.set_cons_zero, List.set_cons_succ])
      refine todone ?_
      refine wpAnyH_done (by kernel_rfl) ?_ _
      (try dsimp only [Straight])
      have hbF : Below w.heap.size w z3 := hb4.trans (Z3.mono hb4.size)
      have HRF := Lib.hid (HR3.out.later Z3)
      clear hHeld Rg3
      by_cases hf0 : IC = 0
      · subst hf0
        obtain rfl : IV = vl := by rw [← HIV.out]; unfold infV; rw [if_pos HIC.out, HATT0.out]; exact HVL.out
        go_wp2_with fail
        go_ret2
        exact ⟨_, rfl, HRF.out, hbF⟩
      · have hfI : (IC != 0) = true := by simpa using hf0
        obtain rfl : IV = [] := by rw [← HIV.out]; exact infV_bad (by rw [HIC.out]; exact hf0)
        clear hf0
        go_wp2_with fail
        go_ret2
        exact ⟨_, rfl, ResS.nil _ _, hbF⟩
/-- what is answered may be -/
theorem inf_ok {v o : Int} {n : Nat} {xs : List Int} {ls : List (List Int)} (h : infC v o n xs ls = 0) : OkS (infV v o n xs ls) := by
  unfold infV
  rw [if_pos h]
  have h' := h
  unfold infC at h
  split at h
  · contradiction
  split at h
  · cases h
  split at h
  · contradiction
  split at h
  · cases h
  split at h
  · contradiction
  · rename_i h5
    exact mayC_zero.1 (Classical.not_not.1 h5)
end
end Go.Proofs.YtjgiacghlkkjfaaGreatDoor
