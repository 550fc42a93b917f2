/-
  Part 3 of 5: contracts and what they rest on (IRef3).
-/
import Derived.Test.YtdcggcfgkhlblaaM1
import Derived.Test.YtdcggcfgkhlblaaM2
import Derived.Test.YtdcggcfgkhlblaaL21
import Derived.WalkKit
import Derived.Test.YtdcggcfgkhlblaaRows
import Derived.OrdersHeld
import Derived.Deep.RegionHeld
import Derived.BigQuiet
import Derived.Deep.QuietTactic
import Derived.Lib.Hide
import Derived.Lib.Small
import Derived.Lib.Walk
import Derived.Lib.BitFns
import Derived.Maps.AppendAt
import Derived.RangeFuncNested
import Derived.RangeFuncBound
import Derived.RangeFuncCalls
import Derived.RangeFuncLeaves
import Derived.Shelf.Abstract
import Derived.OwnWalkIn
import Derived.TacticsInMore
import Derived.LoopNIn
import Derived.LoopIn
import Derived.RangeFuncBox
import Derived.Deep.RegionHeld3
import Derived.OrdersIn
import Derived.StillTailTactics
import Derived.RangeFuncFrom
import Derived.Laws.EntriesVeiled
import Derived.ProofKit
import Derived.OpenShut
import Derived.JoinedCond
import Derived.Carry
import Derived.Laws.AppendOwnNone
import Derived.Lib.ItoaNum
import Derived.Deep.RegionLaw
import Derived.WalkMore
import Derived.Lib.SmallJoins
import Derived.IntWalk
import Derived.Deep.DeepCutAuto
import Derived.Laws.OwnMore
import Derived.ArgAppend
import Derived.Deep.Slices
import Derived.Laws.CopyOwn
import Derived.Lib.SliceRun
import Derived.SizedLaws
import Derived.Great.BuildSlice
namespace Go.Proofs.Ytdcggcfgkhlblaa
set_option maxRecDepth 100000
section
open Go.RowKit
set_option linter.unusedVariables false
set_option linter.unusedSimpArgs false
def comC (o : Int) (a : List Int) (ls : List (List Int)) : Int :=
  if holdI o a ls = false then 13 else if o = 19 then (if mayC (valI o a ls) ≠ 0 then 14 else if fitC (shpI ls 2) (valI o a ls) ≠ 0 then 13 else 0) else 0
theorem ax_last {a : List Int} {r : Nat} (h : axesB a 4 = true) : axesB a (r : Int) = true ↔ (a.length = 0 ∨ a.getD (a.length - 1) 0 < (r : Int)) := by
  have ha : ∀ i, i < a.length → (0 ≤ a.getD i 0 ∧ a.getD i 0 < 4) ∧ (0 < i → a.getD (i - 1) 0 < a.getD i 0) := of_decide_eq_true h
  have up : ∀ n i, i + n < a.length → a.getD i 0 ≤ a.getD (i + n) 0 := fun n => by
    induction n with
    | zero => intro i _; exact Int.le_refl _
    | succ n ih =>
      intro i hi
      have h1 := ih i (by omega)
      have h2 := (ha (i + (n + 1)) hi).2 (by omega)
      rw [show i + (n + 1) - 1 = i + n by omega] at h2
      omega
  constructor
  · intro h1
    have hb : ∀ i, i < a.length → (0 ≤ a.getD i 0 ∧ a.getD i 0 < (r : Int)) ∧ (0 < i → a.getD (i - 1) 0 < a.getD i 0) := of_decide_eq_true h1
    rcases Nat.eq_zero_or_pos a.length with h0 | h0
    · exact .inl h0
    · exact .inr (hb (a.length - 1) (by omega)).1.2
  · intro h1
    refine decide_eq_true fun i hi => ?_
    obtain ⟨⟨p, q⟩, s⟩ := ha i hi
    refine ⟨⟨p, ?_⟩, s⟩
    rcases h1 with h1 | h1
    · omega
    · have h2 := up (a.length - 1 - i) i (by omega)
      rw [show i + (a.length - 1 - i) = a.length - 1 by omega] at h2
      omega
theorem com_inf {v o : Int} {n : Nat} {xs : List Int} {ls : List (List Int)} (h1 : chkO v o n xs = 0) (h2 : ls.length = n) (h3 : orL (ls.map mayC) = 0) : infC v o n xs ls = if comC o (attI v o n xs ls) ls ≠ 0 then comC o (attI v o n xs ls) ls else if mayC (valI o (attI v o n xs ls) ls) ≠ 0 then 14 else 0 := by
  have hg : GoodO v o n (attI v o n xs ls) := good_of h1 _
  cases hh : holdI o (attI v o n xs ls) ls with
  | false =>
    rw [infC_hold h1 h2 h3 hh]
    unfold comC
    rw [if_pos hh, if_pos (by decide)]
  | true =>
    have hp := val_pos hg h2 h3 hh
    rw [infC_val h1 h2 h3 hh]
    obtain ⟨vl, hvl⟩ : ∃ l, valI o (attI v o n xs ls) ls = l := ⟨_, rfl⟩
    have hc : comC o (attI v o n xs ls) ls = if o = 19 then (if mayC vl ≠ 0 then 14 else if fitC (shpI ls 2) vl ≠ 0 then 13 else 0) else 0 := by
      unfold comC
      rw [if_neg (by rw [hh]; decide), hvl]
    rw [hvl] at hp ⊢
    rw [hc]
    simp only [orL]
    unfold addC
    rcases pos_may hp with h4 | h4
    · by_cases ho : o = 19
      · have h19 : n = 3 := by subst ho; exact ar_three hg
        have okz := shp_ok h3 (i := 2) (by omega)
        rw [h4]
        simp only [ho, if_true, ne_eq, not_true_eq_false, if_false]
        by_cases hf : fitC (shpI ls 2) vl = 0
        · rw [hf]; simp
        · have hf13 : fitC (shpI ls 2) vl = 13 := by
            unfold fitC at hf ⊢
            rw [if_neg (by rw [mayC_ok okz]; simp), if_neg (by rw [h4]; simp)] at hf ⊢
            split
            · rename_i hu; rw [if_pos hu] at hf; exact absurd rfl hf
            · rfl
          rw [hf13]; simp
      · rw [h4]
        simp [ho]
    · rw [h4]
      by_cases ho : o = 19
      · simp [ho]
      · simp [ho]
set_option maxRecDepth 100000 in
set_option maxHeartbeats 8000000 in
theorem come1_any {xs : List Int} {ls : List (List Int)} {a2 al : Option Addr} {c2 cl : Nat} {w : World} (A : ArgS w (.slice a2 xs.length c2) xs a2 c2) (L : RowL w (.slice al ls.length cl) ls al cl) (ok : orL (ls.map mayC) = 0) {v : Int} {n : Nat} (g : GoodO v 1 n xs) (hn : ls.length = n) : Calls Try.prog 31 #[.int .i64 1, .slice a2 xs.length c2, .slice al ls.length cl] w fun e w' => ∃ ad q cap, e = .returned (.tuple #[.slice ad q cap, .int .i64 (comC 1 xs ls)]) ∧ (comC 1 xs ls = 0 → ArgS w' (.slice ad q cap) (valI 1 xs ls) ad cap) ∧ Below w.heap.size w w' := by
  have HA := Lib.hid A
  have HL := Lib.hid L
  have HMY := Lib.hid ok
  have HOK := Lib.hid (allOk ok)
  obtain ⟨m, hm⟩ : ∃ m, xs.length = m := ⟨_, rfl⟩
  obtain ⟨k, hk⟩ : ∃ k, ls.length = k := ⟨_, rfl⟩
  have HM := Lib.hid hm
  have HK := Lib.hid hk
  have hm8 := good_len g
  have h18 := ar_one g
  have HG := Lib.hid g
  have HN := Lib.hid hn
  rw [hm] at hm8 ⊢
  rw [hk] at hn ⊢
  have hk1 : 0 < k := by omega
  have hk8 : k ≤ 8 := by omega
  have hk1I : (0 : Int) < (k : Int) := by omega
  have okx := HOK.out _ (shp_in (i := 0) (by rw [HK.out]; omega))
  obtain ⟨b, o0, ax, cx, rfl, hbl, hcx, hAx, hnx⟩ := L.at (i := 0) (by rw [HK.out]; omega)
  rw [Nat.add_zero] at hcx
  obtain ⟨x, hxe⟩ : ∃ x, shpI ls 0 = x := ⟨_, rfl⟩
  rw [hxe] at okx hcx hAx
  have hrk := okx.rank
  obtain ⟨lx, hlx⟩ : ∃ l, x.length = l := ⟨_, rfl⟩
  rw [hlx] at hcx hrk
  have HXE := Lib.hid hxe
  have HLX := Lib.hid hlx
  have HAX := Lib.hid hAx
  have HOX := Lib.hid okx
  obtain ⟨cd, hcd⟩ : ∃ c, comC 1 xs ls = c := ⟨_, rfl⟩
  obtain ⟨vl, hvl⟩ : ∃ c, valI 1 xs ls = c := ⟨_, rfl⟩
  obtain ⟨hh, hhe⟩ : ∃ c, holdI 1 xs ls = c := ⟨_, rfl⟩
  rw [hcd, hvl]
  have HCD := Lib.hid hcd
  have HVL := Lib.hid hvl
  have HHO := Lib.hid hhe
  have bE := Below.refl w.heap.size w
  have HAXL := Lib.hid (show ArgS w (.slice ax lx cx) x ax cx by rw [← hlx]; exact hAx)
  have HAL := Lib.hid (show ArgS w (.slice a2 m c2) xs a2 c2 by rw [← hm]; exact A)
  clear hxe hlx hAx okx hm hk A L ok g hn hcd hvl hhe h18
  have hk2 : 1 < k := by rw [← HK.out, HN.out]; have := ar_two HG.out (by simp); omega
  have hk2I : (1 : Int) < (k : Int) := by omega
  have oky := HOK.out _ (shp_in (i := 1) (by rw [HK.out]; omega))
  obtain ⟨b', o', ay, cy, he, hbl2, hcy, hAy, hny⟩ := HL.out.at (i := 1) (by rw [HK.out]; omega)
  cases he
  obtain ⟨y, hye⟩ : ∃ y, shpI ls 1 = y := ⟨_, rfl⟩
  rw [hye] at oky hcy hAy
  have hrky := oky.rank
  obtain ⟨ly, hly⟩ : ∃ l, y.length = l := ⟨_, rfl⟩
  rw [hly] at hcy hrky
  have HYE := Lib.hid hye
  have HLY := Lib.hid hly
  have HAY := Lib.hid hAy
  have HOY := Lib.hid oky
  clear hye hly hAy oky
  have hss := sameL_any HAX.out HAY.out (by rw [HLX.out]; omega)
  rw [HLX.out, HLY.out] at hss
  have hq : decide (x = y) = hh := by
    rw [← HHO.out, ← HXE.out, ← HYE.out]
    show _ = decide (shpI ls 1 = shpI ls 0)
    exact decide_eq_decide.2 ⟨fun h => h.symm, fun h => h.symm⟩
  rw [hq] at hss
  have HSS := Lib.hid hss
  clear hss hq
  go_enter Try.func31, Try.ntmps31
  go_wp2_with fail
  refine HSS.out.mono ?_
  rintro e w2 ⟨rfl, hy⟩
  have B2 := hy
  clear hy
  cases hh with
  | false =>
    obtain rfl : cd = 13 := by rw [← HCD.out]; unfold comC; rw [HHO.out]; rfl
    go_wp2_with fail
    go_ret2
    exact ⟨none, 0, 0, rfl, fun h => absurd h (by decide), B2⟩
  | true =>
    obtain rfl : cd = 0 := by rw [← HCD.out]; unfold comC; rw [HHO.out]; rfl
    obtain rfl : x = vl := by rw [← HVL.out, ← HXE.out]; rfl
    go_wp2_with fail
    go_ret2
    exact ⟨_, _, _, rfl, (by first | exact HAXL.out.later B2 | exact fun _ => HAXL.out.later B2), B2⟩
set_option maxRecDepth 100000 in
set_option maxHeartbeats 8000000 in
theorem come2_any {xs : List Int} {ls : List (List Int)} {a2 al : Option Addr} {c2 cl : Nat} {w : World} (A : ArgS w (.slice a2 xs.length c2) xs a2 c2) (L : RowL w (.slice al ls.length cl) ls al cl) (ok : orL (ls.map mayC) = 0) {v : Int} {n : Nat} (g : GoodO v 2 n xs) (hn : ls.length = n) : Calls Try.prog 31 #[.int .i64 2, .slice a2 xs.length c2, .slice al ls.length cl] w fun e w' => ∃ ad q cap, e = .returned (.tuple #[.slice ad q cap, .int .i64 (comC 2 xs ls)]) ∧ (comC 2 xs ls = 0 → ArgS w' (.slice ad q cap) (valI 2 xs ls) ad cap) ∧ Below w.heap.size w w' := by
  have HA := Lib.hid A
  have HL := Lib.hid L
  have HMY := Lib.hid ok
  have HOK := Lib.hid (allOk ok)
  obtain ⟨m, hm⟩ : ∃ m, xs.length = m := ⟨_, rfl⟩
  obtain ⟨k, hk⟩ : ∃ k, ls.length = k := ⟨_, rfl⟩
  have HM := Lib.hid hm
  have HK := Lib.hid hk
  have hm8 := good_len g
  have h18 := ar_one g
  have HG := Lib.hid g
  have HN := Lib.hid hn
  rw [hm] at hm8 ⊢
  rw [hk] at hn ⊢
  have hk1 : 0 < k := by omega
  have hk8 : k ≤ 8 := by omega
  have hk1I : (0 : Int) < (k : Int) := by omega
  have okx := HOK.out _ (shp_in (i := 0) (by rw [HK.out]; omega))
  obtain ⟨b, o0, ax, cx, rfl, hbl, hcx, hAx, hnx⟩ := L.at (i := 0) (by rw [HK.out]; omega)
  rw [Nat.add_zero] at hcx
  obtain ⟨x, hxe⟩ : ∃ x, shpI ls 0 = x := ⟨_, rfl⟩
  rw [hxe] at okx hcx hAx
  have hrk := okx.rank
  obtain ⟨lx, hlx⟩ : ∃ l, x.length = l := ⟨_, rfl⟩
  rw [hlx] at hcx hrk
  have HXE := Lib.hid hxe
  have HLX := Lib.hid hlx
  have HAX := Lib.hid hAx
  have HOX := Lib.hid okx
  obtain ⟨cd, hcd⟩ : ∃ c, comC 2 xs ls = c := ⟨_, rfl⟩
  obtain ⟨vl, hvl⟩ : ∃ c, valI 2 xs ls = c := ⟨_, rfl⟩
  obtain ⟨hh, hhe⟩ : ∃ c, holdI 2 xs ls = c := ⟨_, rfl⟩
  rw [hcd, hvl]
  have HCD := Lib.hid hcd
  have HVL := Lib.hid hvl
  have HHO := Lib.hid hhe
  have bE := Below.refl w.heap.size w
  have HAXL := Lib.hid (show ArgS w (.slice ax lx cx) x ax cx by rw [← hlx]; exact hAx)
  have HAL := Lib.hid (show ArgS w (.slice a2 m c2) xs a2 c2 by rw [← hm]; exact A)
  clear hxe hlx hAx okx hm hk A L ok g hn hcd hvl hhe h18
  have hk2 : 1 < k := by rw [← HK.out, HN.out]; have := ar_two HG.out (by simp); omega
  have hk2I : (1 : Int) < (k : Int) := by omega
  have oky := HOK.out _ (shp_in (i := 1) (by rw [HK.out]; omega))
  obtain ⟨b', o', ay, cy, he, hbl2, hcy, hAy, hny⟩ := HL.out.at (i := 1) (by rw [HK.out]; omega)
  cases he
  obtain ⟨y, hye⟩ : ∃ y, shpI ls 1 = y := ⟨_, rfl⟩
  rw [hye] at oky hcy hAy
  have hrky := oky.rank
  obtain ⟨ly, hly⟩ : ∃ l, y.length = l := ⟨_, rfl⟩
  rw [hly] at hcy hrky
  have HYE := Lib.hid hye
  have HLY := Lib.hid hly
  have HAY := Lib.hid hAy
  have HOY := Lib.hid oky
  clear hye hly hAy oky
  have hss := sameL_any HAX.out HAY.out (by rw [HLX.out]; omega)
  rw [HLX.out, HLY.out] at hss
  have hq : decide (x = y) = hh := by
    rw [← HHO.out, ← HXE.out, ← HYE.out]
    show _ = decide (shpI ls 1 = shpI ls 0)
    exact decide_eq_decide.2 ⟨fun h => h.symm, fun h => h.symm⟩
  rw [hq] at hss
  have HSS := Lib.hid hss
  clear hss hq
  go_enter Try.func31, Try.ntmps31
  go_wp2_with fail
  refine HSS.out.mono ?_
  rintro e w2 ⟨rfl, hy⟩
  have B2 := hy
  clear hy
  cases hh with
  | false =>
    obtain rfl : cd = 13 := by rw [← HCD.out]; unfold comC; rw [HHO.out]; rfl
    go_wp2_with fail
    go_ret2
    exact ⟨none, 0, 0, rfl, fun h => absurd h (by decide), B2⟩
  | true =>
    obtain rfl : cd = 0 := by rw [← HCD.out]; unfold comC; rw [HHO.out]; rfl
    obtain rfl : x = vl := by rw [← HVL.out, ← HXE.out]; rfl
    go_wp2_with fail
    go_ret2
    exact ⟨_, _, _, rfl, (by first | exact HAXL.out.later B2 | exact fun _ => HAXL.out.later B2), B2⟩
set_option maxRecDepth 100000 in
set_option maxHeartbeats 8000000 in
theorem come3_any {xs : List Int} {ls : List (List Int)} {a2 al : Option Addr} {c2 cl : Nat} {w : World} (A : ArgS w (.slice a2 xs.length c2) xs a2 c2) (L : RowL w (.slice al ls.length cl) ls al cl) (ok : orL (ls.map mayC) = 0) {v : Int} {n : Nat} (g : GoodO v 3 n xs) (hn : ls.length = n) : Calls Try.prog 31 #[.int .i64 3, .slice a2 xs.length c2, .slice al ls.length cl] w fun e w' => ∃ ad q cap, e = .returned (.tuple #[.slice ad q cap, .int .i64 (comC 3 xs ls)]) ∧ (comC 3 xs ls = 0 → ArgS w' (.slice ad q cap) (valI 3 xs ls) ad cap) ∧ Below w.heap.size w w' := by
  have HA := Lib.hid A
  have HL := Lib.hid L
  have HMY := Lib.hid ok
  have HOK := Lib.hid (allOk ok)
  obtain ⟨m, hm⟩ : ∃ m, xs.length = m := ⟨_, rfl⟩
  obtain ⟨k, hk⟩ : ∃ k, ls.length = k := ⟨_, rfl⟩
  have HM := Lib.hid hm
  have HK := Lib.hid hk
  have hm8 := good_len g
  have h18 := ar_one g
  have HG := Lib.hid g
  have HN := Lib.hid hn
  rw [hm] at hm8 ⊢
  rw [hk] at hn ⊢
  have hk1 : 0 < k := by omega
  have hk8 : k ≤ 8 := by omega
  have hk1I : (0 : Int) < (k : Int) := by omega
  have okx := HOK.out _ (shp_in (i := 0) (by rw [HK.out]; omega))
  obtain ⟨b, o0, ax, cx, rfl, hbl, hcx, hAx, hnx⟩ := L.at (i := 0) (by rw [HK.out]; omega)
  rw [Nat.add_zero] at hcx
  obtain ⟨x, hxe⟩ : ∃ x, shpI ls 0 = x := ⟨_, rfl⟩
  rw [hxe] at okx hcx hAx
  have hrk := okx.rank
  obtain ⟨lx, hlx⟩ : ∃ l, x.length = l := ⟨_, rfl⟩
  rw [hlx] at hcx hrk
  have HXE := Lib.hid hxe
  have HLX := Lib.hid hlx
  have HAX := Lib.hid hAx
  have HOX := Lib.hid okx
  obtain ⟨cd, hcd⟩ : ∃ c, comC 3 xs ls = c := ⟨_, rfl⟩
  obtain ⟨vl, hvl⟩ : ∃ c, valI 3 xs ls = c := ⟨_, rfl⟩
  obtain ⟨hh, hhe⟩ : ∃ c, holdI 3 xs ls = c := ⟨_, rfl⟩
  rw [hcd, hvl]
  have HCD := Lib.hid hcd
  have HVL := Lib.hid hvl
  have HHO := Lib.hid hhe
  have bE := Below.refl w.heap.size w
  have HAXL := Lib.hid (show ArgS w (.slice ax lx cx) x ax cx by rw [← hlx]; exact hAx)
  have HAL := Lib.hid (show ArgS w (.slice a2 m c2) xs a2 c2 by rw [← hm]; exact A)
  clear hxe hlx hAx okx hm hk A L ok g hn hcd hvl hhe h18
  have hk2 : 1 < k := by rw [← HK.out, HN.out]; have := ar_two HG.out (by simp); omega
  have hk2I : (1 : Int) < (k : Int) := by omega
  have oky := HOK.out _ (shp_in (i := 1) (by rw [HK.out]; omega))
  obtain ⟨b', o', ay, cy, he, hbl2, hcy, hAy, hny⟩ := HL.out.at (i := 1) (by rw [HK.out]; omega)
  cases he
  obtain ⟨y, hye⟩ : ∃ y, shpI ls 1 = y := ⟨_, rfl⟩
  rw [hye] at oky hcy hAy
  have hrky := oky.rank
  obtain ⟨ly, hly⟩ : ∃ l, y.length = l := ⟨_, rfl⟩
  rw [hly] at hcy hrky
  have HYE := Lib.hid hye
  have HLY := Lib.hid hly
  have HAY := Lib.hid hAy
  have HOY := Lib.hid oky
  clear hye hly hAy oky
  have hss := sameL_any HAX.out HAY.out (by rw [HLX.out]; omega)
  rw [HLX.out, HLY.out] at hss
  have hq : decide (x = y) = hh := by
    rw [← HHO.out, ← HXE.out, ← HYE.out]
    show _ = decide (shpI ls 1 = shpI ls 0)
    exact decide_eq_decide.2 ⟨fun h => h.symm, fun h => h.symm⟩
  rw [hq] at hss
  have HSS := Lib.hid hss
  clear hss hq
  go_enter Try.func31, Try.ntmps31
  go_wp2_with fail
  refine HSS.out.mono ?_
  rintro e w2 ⟨rfl, hy⟩
  have B2 := hy
  clear hy
  cases hh with
  | false =>
    obtain rfl : cd = 13 := by rw [← HCD.out]; unfold comC; rw [HHO.out]; rfl
    go_wp2_with fail
    go_ret2
    exact ⟨none, 0, 0, rfl, fun h => absurd h (by decide), B2⟩
  | true =>
    obtain rfl : cd = 0 := by rw [← HCD.out]; unfold comC; rw [HHO.out]; rfl
    obtain rfl : x = vl := by rw [← HVL.out, ← HXE.out]; rfl
    go_wp2_with fail
    go_ret2
    exact ⟨_, _, _, rfl, (by first | exact HAXL.out.later B2 | exact fun _ => HAXL.out.later B2), B2⟩
set_option maxRecDepth 100000 in
set_option maxHeartbeats 8000000 in
theorem come4_any {xs : List Int} {ls : List (List Int)} {a2 al : Option Addr} {c2 cl : Nat} {w : World} (A : ArgS w (.slice a2 xs.length c2) xs a2 c2) (L : RowL w (.slice al ls.length cl) ls al cl) (ok : orL (ls.map mayC) = 0) {v : Int} {n : Nat} (g : GoodO v 4 n xs) (hn : ls.length = n) : Calls Try.prog 31 #[.int .i64 4, .slice a2 xs.length c2, .slice al ls.length cl] w fun e w' => ∃ ad q cap, e = .returned (.tuple #[.slice ad q cap, .int .i64 (comC 4 xs ls)]) ∧ (comC 4 xs ls = 0 → ArgS w' (.slice ad q cap) (valI 4 xs ls) ad cap) ∧ Below w.heap.size w w' := by
  have HA := Lib.hid A
  have HL := Lib.hid L
  have HMY := Lib.hid ok
  have HOK := Lib.hid (allOk ok)
  obtain ⟨m, hm⟩ : ∃ m, xs.length = m := ⟨_, rfl⟩
  obtain ⟨k, hk⟩ : ∃ k, ls.length = k := ⟨_, rfl⟩
  have HM := Lib.hid hm
  have HK := Lib.hid hk
  have hm8 := good_len g
  have h18 := ar_one g
  have HG := Lib.hid g
  have HN := Lib.hid hn
  rw [hm] at hm8 ⊢
  rw [hk] at hn ⊢
  have hk1 : 0 < k := by omega
  have hk8 : k ≤ 8 := by omega
  have hk1I : (0 : Int) < (k : Int) := by omega
  have okx := HOK.out _ (shp_in (i := 0) (by rw [HK.out]; omega))
  obtain ⟨b, o0, ax, cx, rfl, hbl, hcx, hAx, hnx⟩ := L.at (i := 0) (by rw [HK.out]; omega)
  rw [Nat.add_zero] at hcx
  obtain ⟨x, hxe⟩ : ∃ x, shpI ls 0 = x := ⟨_, rfl⟩
  rw [hxe] at okx hcx hAx
  have hrk := okx.rank
  obtain ⟨lx, hlx⟩ : ∃ l, x.length = l := ⟨_, rfl⟩
  rw [hlx] at hcx hrk
  have HXE := Lib.hid hxe
  have HLX := Lib.hid hlx
  have HAX := Lib.hid hAx
  have HOX := Lib.hid okx
  obtain ⟨cd, hcd⟩ : ∃ c, comC 4 xs ls = c := ⟨_, rfl⟩
  obtain ⟨vl, hvl⟩ : ∃ c, valI 4 xs ls = c := ⟨_, rfl⟩
  obtain ⟨hh, hhe⟩ : ∃ c, holdI 4 xs ls = c := ⟨_, rfl⟩
  rw [hcd, hvl]
  have HCD := Lib.hid hcd
  have HVL := Lib.hid hvl
  have HHO := Lib.hid hhe
  have bE := Below.refl w.heap.size w
  have HAXL := Lib.hid (show ArgS w (.slice ax lx cx) x ax cx by rw [← hlx]; exact hAx)
  have HAL := Lib.hid (show ArgS w (.slice a2 m c2) xs a2 c2 by rw [← hm]; exact A)
  clear hxe hlx hAx okx hm hk A L ok g hn hcd hvl hhe h18
  have hk2 : 1 < k := by rw [← HK.out, HN.out]; have := ar_two HG.out (by simp); omega
  have hk2I : (1 : Int) < (k : Int) := by omega
  have oky := HOK.out _ (shp_in (i := 1) (by rw [HK.out]; omega))
  obtain ⟨b', o', ay, cy, he, hbl2, hcy, hAy, hny⟩ := HL.out.at (i := 1) (by rw [HK.out]; omega)
  cases he
  obtain ⟨y, hye⟩ : ∃ y, shpI ls 1 = y := ⟨_, rfl⟩
  rw [hye] at oky hcy hAy
  have hrky := oky.rank
  obtain ⟨ly, hly⟩ : ∃ l, y.length = l := ⟨_, rfl⟩
  rw [hly] at hcy hrky
  have HYE := Lib.hid hye
  have HLY := Lib.hid hly
  have HAY := Lib.hid hAy
  have HOY := Lib.hid oky
  clear hye hly hAy oky
  have hss := sameL_any HAX.out HAY.out (by rw [HLX.out]; omega)
  rw [HLX.out, HLY.out] at hss
  have hq : decide (x = y) = hh := by
    rw [← HHO.out, ← HXE.out, ← HYE.out]
    show _ = decide (shpI ls 1 = shpI ls 0)
    exact decide_eq_decide.2 ⟨fun h => h.symm, fun h => h.symm⟩
  rw [hq] at hss
  have HSS := Lib.hid hss
  clear hss hq
  go_enter Try.func31, Try.ntmps31
  go_wp2_with fail
  refine HSS.out.mono ?_
  rintro e w2 ⟨rfl, hy⟩
  have B2 := hy
  clear hy
  cases hh with
  | false =>
    obtain rfl : cd = 13 := by rw [← HCD.out]; unfold comC; rw [HHO.out]; rfl
    go_wp2_with fail
    go_ret2
    exact ⟨none, 0, 0, rfl, fun h => absurd h (by decide), B2⟩
  | true =>
    obtain rfl : cd = 0 := by rw [← HCD.out]; unfold comC; rw [HHO.out]; rfl
    obtain rfl : x = vl := by rw [← HVL.out, ← HXE.out]; rfl
    go_wp2_with fail
    go_ret2
    exact ⟨_, _, _, rfl, (by first | exact HAXL.out.later B2 | exact fun _ => HAXL.out.later B2), B2⟩
set_option maxRecDepth 100000 in
set_option maxHeartbeats 8000000 in
theorem come5_any {xs : List Int} {ls : List (List Int)} {a2 al : Option Addr} {c2 cl : Nat} {w : World} (A : ArgS w (.slice a2 xs.length c2) xs a2 c2) (L : RowL w (.slice al ls.length cl) ls al cl) (ok : orL (ls.map mayC) = 0) {v : Int} {n : Nat} (g : GoodO v 5 n xs) (hn : ls.length = n) : Calls Try.prog 31 #[.int .i64 5, .slice a2 xs.length c2, .slice al ls.length cl] w fun e w' => ∃ ad q cap, e = .returned (.tuple #[.slice ad q cap, .int .i64 (comC 5 xs ls)]) ∧ (comC 5 xs ls = 0 → ArgS w' (.slice ad q cap) (valI 5 xs ls) ad cap) ∧ Below w.heap.size w w' := by
  have HA := Lib.hid A
  have HL := Lib.hid L
  have HMY := Lib.hid ok
  have HOK := Lib.hid (allOk ok)
  obtain ⟨m, hm⟩ : ∃ m, xs.length = m := ⟨_, rfl⟩
  obtain ⟨k, hk⟩ : ∃ k, ls.length = k := ⟨_, rfl⟩
  have HM := Lib.hid hm
  have HK := Lib.hid hk
  have hm8 := good_len g
  have h18 := ar_one g
  have HG := Lib.hid g
  have HN := Lib.hid hn
  rw [hm] at hm8 ⊢
  rw [hk] at hn ⊢
  have hk1 : 0 < k := by omega
  have hk8 : k ≤ 8 := by omega
  have hk1I : (0 : Int) < (k : Int) := by omega
  have okx := HOK.out _ (shp_in (i := 0) (by rw [HK.out]; omega))
  obtain ⟨b, o0, ax, cx, rfl, hbl, hcx, hAx, hnx⟩ := L.at (i := 0) (by rw [HK.out]; omega)
  rw [Nat.add_zero] at hcx
  obtain ⟨x, hxe⟩ : ∃ x, shpI ls 0 = x := ⟨_, rfl⟩
  rw [hxe] at okx hcx hAx
  have hrk := okx.rank
  obtain ⟨lx, hlx⟩ : ∃ l, x.length = l := ⟨_, rfl⟩
  rw [hlx] at hcx hrk
  have HXE := Lib.hid hxe
  have HLX := Lib.hid hlx
  have HAX := Lib.hid hAx
  have HOX := Lib.hid okx
  obtain ⟨cd, hcd⟩ : ∃ c, comC 5 xs ls = c := ⟨_, rfl⟩
  obtain ⟨vl, hvl⟩ : ∃ c, valI 5 xs ls = c := ⟨_, rfl⟩
  obtain ⟨hh, hhe⟩ : ∃ c, holdI 5 xs ls = c := ⟨_, rfl⟩
  rw [hcd, hvl]
  have HCD := Lib.hid hcd
  have HVL := Lib.hid hvl
  have HHO := Lib.hid hhe
  have bE := Below.refl w.heap.size w
  have HAXL := Lib.hid (show ArgS w (.slice ax lx cx) x ax cx by rw [← hlx]; exact hAx)
  have HAL := Lib.hid (show ArgS w (.slice a2 m c2) xs a2 c2 by rw [← hm]; exact A)
  clear hxe hlx hAx okx hm hk A L ok g hn hcd hvl hhe h18
  obtain rfl : hh = true := by rw [← HHO.out]; rfl
  obtain rfl : cd = 0 := by rw [← HCD.out]; unfold comC; rw [HHO.out]; rfl
  obtain rfl : x = vl := by rw [← HVL.out, ← HXE.out]; rfl
  go_enter Try.func31, Try.ntmps31
  go_wp2_with fail
  go_ret2
  exact ⟨_, _, _, rfl, (by first | exact HAXL.out | exact fun _ => HAXL.out), bE⟩
set_option maxRecDepth 100000 in
set_option maxHeartbeats 8000000 in
theorem come6_any {xs : List Int} {ls : List (List Int)} {a2 al : Option Addr} {c2 cl : Nat} {w : World} (A : ArgS w (.slice a2 xs.length c2) xs a2 c2) (L : RowL w (.slice al ls.length cl) ls al cl) (ok : orL (ls.map mayC) = 0) {v : Int} {n : Nat} (g : GoodO v 6 n xs) (hn : ls.length = n) : Calls Try.prog 31 #[.int .i64 6, .slice a2 xs.length c2, .slice al ls.length cl] w fun e w' => ∃ ad q cap, e = .returned (.tuple #[.slice ad q cap, .int .i64 (comC 6 xs ls)]) ∧ (comC 6 xs ls = 0 → ArgS w' (.slice ad q cap) (valI 6 xs ls) ad cap) ∧ Below w.heap.size w w' := by
  have HA := Lib.hid A
  have HL := Lib.hid L
  have HMY := Lib.hid ok
  have HOK := Lib.hid (allOk ok)
  obtain ⟨m, hm⟩ : ∃ m, xs.length = m := ⟨_, rfl⟩
  obtain ⟨k, hk⟩ : ∃ k, ls.length = k := ⟨_, rfl⟩
  have HM := Lib.hid hm
  have HK := Lib.hid hk
  have hm8 := good_len g
  have h18 := ar_one g
  have HG := Lib.hid g
  have HN := Lib.hid hn
  rw [hm] at hm8 ⊢
  rw [hk] at hn ⊢
  have hk1 : 0 < k := by omega
  have hk8 : k ≤ 8 := by omega
  have hk1I : (0 : Int) < (k : Int) := by omega
  have okx := HOK.out _ (shp_in (i := 0) (by rw [HK.out]; omega))
  obtain ⟨b, o0, ax, cx, rfl, hbl, hcx, hAx, hnx⟩ := L.at (i := 0) (by rw [HK.out]; omega)
  rw [Nat.add_zero] at hcx
  obtain ⟨x, hxe⟩ : ∃ x, shpI ls 0 = x := ⟨_, rfl⟩
  rw [hxe] at okx hcx hAx
  have hrk := okx.rank
  obtain ⟨lx, hlx⟩ : ∃ l, x.length = l := ⟨_, rfl⟩
  rw [hlx] at hcx hrk
  have HXE := Lib.hid hxe
  have HLX := Lib.hid hlx
  have HAX := Lib.hid hAx
  have HOX := Lib.hid okx
  obtain ⟨cd, hcd⟩ : ∃ c, comC 6 xs ls = c := ⟨_, rfl⟩
  obtain ⟨vl, hvl⟩ : ∃ c, valI 6 xs ls = c := ⟨_, rfl⟩
  obtain ⟨hh, hhe⟩ : ∃ c, holdI 6 xs ls = c := ⟨_, rfl⟩
  rw [hcd, hvl]
  have HCD := Lib.hid hcd
  have HVL := Lib.hid hvl
  have HHO := Lib.hid hhe
  have bE := Below.refl w.heap.size w
  have HAXL := Lib.hid (show ArgS w (.slice ax lx cx) x ax cx by rw [← hlx]; exact hAx)
  have HAL := Lib.hid (show ArgS w (.slice a2 m c2) xs a2 c2 by rw [← hm]; exact A)
  clear hxe hlx hAx okx hm hk A L ok g hn hcd hvl hhe h18
  obtain rfl : hh = true := by rw [← HHO.out]; rfl
  obtain rfl : cd = 0 := by rw [← HCD.out]; unfold comC; rw [HHO.out]; rfl
  obtain rfl : x = vl := by rw [← HVL.out, ← HXE.out]; rfl
  go_enter Try.func31, Try.ntmps31
  go_wp2_with fail
  go_ret2
  exact ⟨_, _, _, rfl, (by first | exact HAXL.out | exact fun _ => HAXL.out), bE⟩
set_option maxRecDepth 100000 in
set_option maxHeartbeats 8000000 in
theorem come7_any {xs : List Int} {ls : List (List Int)} {a2 al : Option Addr} {c2 cl : Nat} {w : World} (A : ArgS w (.slice a2 xs.length c2) xs a2 c2) (L : RowL w (.slice al ls.length cl) ls al cl) (ok : orL (ls.map mayC) = 0) {v : Int} {n : Nat} (g : GoodO v 7 n xs) (hn : ls.length = n) : Calls Try.prog 31 #[.int .i64 7, .slice a2 xs.length c2, .slice al ls.length cl] w fun e w' => ∃ ad q cap, e = .returned (.tuple #[.slice ad q cap, .int .i64 (comC 7 xs ls)]) ∧ (comC 7 xs ls = 0 → ArgS w' (.slice ad q cap) (valI 7 xs ls) ad cap) ∧ Below w.heap.size w w' := by
  have HA := Lib.hid A
  have HL := Lib.hid L
  have HMY := Lib.hid ok
  have HOK := Lib.hid (allOk ok)
  obtain ⟨m, hm⟩ : ∃ m, xs.length = m := ⟨_, rfl⟩
  obtain ⟨k, hk⟩ : ∃ k, ls.length = k := ⟨_, rfl⟩
  have HM := Lib.hid hm
  have HK := Lib.hid hk
  have hm8 := good_len g
  have h18 := ar_one g
  have HG := Lib.hid g
  have HN := Lib.hid hn
  rw [hm] at hm8 ⊢
  rw [hk] at hn ⊢
  have hk1 : 0 < k := by omega
  have hk8 : k ≤ 8 := by omega
  have hk1I : (0 : Int) < (k : Int) := by omega
  have okx := HOK.out _ (shp_in (i := 0) (by rw [HK.out]; omega))
  obtain ⟨b, o0, ax, cx, rfl, hbl, hcx, hAx, hnx⟩ := L.at (i := 0) (by rw [HK.out]; omega)
  rw [Nat.add_zero] at hcx
  obtain ⟨x, hxe⟩ : ∃ x, shpI ls 0 = x := ⟨_, rfl⟩
  rw [hxe] at okx hcx hAx
  have hrk := okx.rank
  obtain ⟨lx, hlx⟩ : ∃ l, x.length = l := ⟨_, rfl⟩
  rw [hlx] at hcx hrk
  have HXE := Lib.hid hxe
  have HLX := Lib.hid hlx
  have HAX := Lib.hid hAx
  have HOX := Lib.hid okx
  obtain ⟨cd, hcd⟩ : ∃ c, comC 7 xs ls = c := ⟨_, rfl⟩
  obtain ⟨vl, hvl⟩ : ∃ c, valI 7 xs ls = c := ⟨_, rfl⟩
  obtain ⟨hh, hhe⟩ : ∃ c, holdI 7 xs ls = c := ⟨_, rfl⟩
  rw [hcd, hvl]
  have HCD := Lib.hid hcd
  have HVL := Lib.hid hvl
  have HHO := Lib.hid hhe
  have bE := Below.refl w.heap.size w
  have HAXL := Lib.hid (show ArgS w (.slice ax lx cx) x ax cx by rw [← hlx]; exact hAx)
  have HAL := Lib.hid (show ArgS w (.slice a2 m c2) xs a2 c2 by rw [← hm]; exact A)
  clear hxe hlx hAx okx hm hk A L ok g hn hcd hvl hhe h18
  obtain rfl : hh = true := by rw [← HHO.out]; rfl
  obtain rfl : cd = 0 := by rw [← HCD.out]; unfold comC; rw [HHO.out]; rfl
  obtain rfl : x = vl := by rw [← HVL.out, ← HXE.out]; rfl
  go_enter Try.func31, Try.ntmps31
  go_wp2_with fail
  go_ret2
  exact ⟨_, _, _, rfl, (by first | exact HAXL.out | exact fun _ => HAXL.out), bE⟩
set_option maxRecDepth 100000 in
set_option maxHeartbeats 8000000 in
theorem come8_any {xs : List Int} {ls : List (List Int)} {a2 al : Option Addr} {c2 cl : Nat} {w : World} (A : ArgS w (.slice a2 xs.length c2) xs a2 c2) (L : RowL w (.slice al ls.length cl) ls al cl) (ok : orL (ls.map mayC) = 0) {v : Int} {n : Nat} (g : GoodO v 8 n xs) (hn : ls.length = n) : Calls Try.prog 31 #[.int .i64 8, .slice a2 xs.length c2, .slice al ls.length cl] w fun e w' => ∃ ad q cap, e = .returned (.tuple #[.slice ad q cap, .int .i64 (comC 8 xs ls)]) ∧ (comC 8 xs ls = 0 → ArgS w' (.slice ad q cap) (valI 8 xs ls) ad cap) ∧ Below w.heap.size w w' := by
  have HA := Lib.hid A
  have HL := Lib.hid L
  have HMY := Lib.hid ok
  have HOK := Lib.hid (allOk ok)
  obtain ⟨m, hm⟩ : ∃ m, xs.length = m := ⟨_, rfl⟩
  obtain ⟨k, hk⟩ : ∃ k, ls.length = k := ⟨_, rfl⟩
  have HM := Lib.hid hm
  have HK := Lib.hid hk
  have hm8 := good_len g
  have h18 := ar_one g
  have HG := Lib.hid g
  have HN := Lib.hid hn
  rw [hm] at hm8 ⊢
  rw [hk] at hn ⊢
  have hk1 : 0 < k := by omega
  have hk8 : k ≤ 8 := by omega
  have hk1I : (0 : Int) < (k : Int) := by omega
  have okx := HOK.out _ (shp_in (i := 0) (by rw [HK.out]; omega))
  obtain ⟨b, o0, ax, cx, rfl, hbl, hcx, hAx, hnx⟩ := L.at (i := 0) (by rw [HK.out]; omega)
  rw [Nat.add_zero] at hcx
  obtain ⟨x, hxe⟩ : ∃ x, shpI ls 0 = x := ⟨_, rfl⟩
  rw [hxe] at okx hcx hAx
  have hrk := okx.rank
  obtain ⟨lx, hlx⟩ : ∃ l, x.length = l := ⟨_, rfl⟩
  rw [hlx] at hcx hrk
  have HXE := Lib.hid hxe
  have HLX := Lib.hid hlx
  have HAX := Lib.hid hAx
  have HOX := Lib.hid okx
  obtain ⟨cd, hcd⟩ : ∃ c, comC 8 xs ls = c := ⟨_, rfl⟩
  obtain ⟨vl, hvl⟩ : ∃ c, valI 8 xs ls = c := ⟨_, rfl⟩
  obtain ⟨hh, hhe⟩ : ∃ c, holdI 8 xs ls = c := ⟨_, rfl⟩
  rw [hcd, hvl]
  have HCD := Lib.hid hcd
  have HVL := Lib.hid hvl
  have HHO := Lib.hid hhe
  have bE := Below.refl w.heap.size w
  have HAXL := Lib.hid (show ArgS w (.slice ax lx cx) x ax cx by rw [← hlx]; exact hAx)
  have HAL := Lib.hid (show ArgS w (.slice a2 m c2) xs a2 c2 by rw [← hm]; exact A)
  clear hxe hlx hAx okx hm hk A L ok g hn hcd hvl hhe h18
  obtain rfl : hh = true := by rw [← HHO.out]; rfl
  obtain rfl : cd = 0 := by rw [← HCD.out]; unfold comC; rw [HHO.out]; rfl
  obtain rfl : x = vl := by rw [← HVL.out, ← HXE.out]; rfl
  go_enter Try.func31, Try.ntmps31
  go_wp2_with fail
  go_ret2
  exact ⟨_, _, _, rfl, (by first | exact HAXL.out | exact fun _ => HAXL.out), bE⟩
set_option maxRecDepth 100000 in
set_option maxHeartbeats 8000000 in
theorem come9_any {xs : List Int} {ls : List (List Int)} {a2 al : Option Addr} {c2 cl : Nat} {w : World} (A : ArgS w (.slice a2 xs.length c2) xs a2 c2) (L : RowL w (.slice al ls.length cl) ls al cl) (ok : orL (ls.map mayC) = 0) {v : Int} {n : Nat} (g : GoodO v 9 n xs) (hn : ls.length = n) : Calls Try.prog 31 #[.int .i64 9, .slice a2 xs.length c2, .slice al ls.length cl] w fun e w' => ∃ ad q cap, e = .returned (.tuple #[.slice ad q cap, .int .i64 (comC 9 xs ls)]) ∧ (comC 9 xs ls = 0 → ArgS w' (.slice ad q cap) (valI 9 xs ls) ad cap) ∧ Below w.heap.size w w' := by
  have HA := Lib.hid A
  have HL := Lib.hid L
  have HMY := Lib.hid ok
  have HOK := Lib.hid (allOk ok)
  obtain ⟨m, hm⟩ : ∃ m, xs.length = m := ⟨_, rfl⟩
  obtain ⟨k, hk⟩ : ∃ k, ls.length = k := ⟨_, rfl⟩
  have HM := Lib.hid hm
  have HK := Lib.hid hk
  have hm8 := good_len g
  have h18 := ar_one g
  have HG := Lib.hid g
  have HN := Lib.hid hn
  rw [hm] at hm8 ⊢
  rw [hk] at hn ⊢
  have hk1 : 0 < k := by omega
  have hk8 : k ≤ 8 := by omega
  have hk1I : (0 : Int) < (k : Int) := by omega
  have okx := HOK.out _ (shp_in (i := 0) (by rw [HK.out]; omega))
  obtain ⟨b, o0, ax, cx, rfl, hbl, hcx, hAx, hnx⟩ := L.at (i := 0) (by rw [HK.out]; omega)
  rw [Nat.add_zero] at hcx
  obtain ⟨x, hxe⟩ : ∃ x, shpI ls 0 = x := ⟨_, rfl⟩
  rw [hxe] at okx hcx hAx
  have hrk := okx.rank
  obtain ⟨lx, hlx⟩ : ∃ l, x.length = l := ⟨_, rfl⟩
  rw [hlx] at hcx hrk
  have HXE := Lib.hid hxe
  have HLX := Lib.hid hlx
  have HAX := Lib.hid hAx
  have HOX := Lib.hid okx
  obtain ⟨cd, hcd⟩ : ∃ c, comC 9 xs ls = c := ⟨_, rfl⟩
  obtain ⟨vl, hvl⟩ : ∃ c, valI 9 xs ls = c := ⟨_, rfl⟩
  obtain ⟨hh, hhe⟩ : ∃ c, holdI 9 xs ls = c := ⟨_, rfl⟩
  rw [hcd, hvl]
  have HCD := Lib.hid hcd
  have HVL := Lib.hid hvl
  have HHO := Lib.hid hhe
  have bE := Below.refl w.heap.size w
  have HAXL := Lib.hid (show ArgS w (.slice ax lx cx) x ax cx by rw [← hlx]; exact hAx)
  have HAL := Lib.hid (show ArgS w (.slice a2 m c2) xs a2 c2 by rw [← hm]; exact A)
  clear hxe hlx hAx okx hm hk A L ok g hn hcd hvl hhe h18
  obtain rfl : hh = true := by rw [← HHO.out]; rfl
  obtain rfl : cd = 0 := by rw [← HCD.out]; unfold comC; rw [HHO.out]; rfl
  obtain rfl : x = vl := by rw [← HVL.out, ← HXE.out]; rfl
  go_enter Try.func31, Try.ntmps31
  go_wp2_with fail
  go_ret2
  exact ⟨_, _, _, rfl, (by first | exact HAXL.out | exact fun _ => HAXL.out), bE⟩
set_option maxRecDepth 100000 in
set_option maxHeartbeats 8000000 in
theorem come10_any {xs : List Int} {ls : List (List Int)} {a2 al : Option Addr} {c2 cl : Nat} {w : World} (A : ArgS w (.slice a2 xs.length c2) xs a2 c2) (L : RowL w (.slice al ls.length cl) ls al cl) (ok : orL (ls.map mayC) = 0) {v : Int} {n : Nat} (g : GoodO v 10 n xs) (hn : ls.length = n) : Calls Try.prog 31 #[.int .i64 10, .slice a2 xs.length c2, .slice al ls.length cl] w fun e w' => ∃ ad q cap, e = .returned (.tuple #[.slice ad q cap, .int .i64 (comC 10 xs ls)]) ∧ (comC 10 xs ls = 0 → ArgS w' (.slice ad q cap) (valI 10 xs ls) ad cap) ∧ Below w.heap.size w w' := by
  have HA := Lib.hid A
  have HL := Lib.hid L
  have HMY := Lib.hid ok
  have HOK := Lib.hid (allOk ok)
  obtain ⟨m, hm⟩ : ∃ m, xs.length = m := ⟨_, rfl⟩
  obtain ⟨k, hk⟩ : ∃ k, ls.length = k := ⟨_, rfl⟩
  have HM := Lib.hid hm
  have HK := Lib.hid hk
  have hm8 := good_len g
  have h18 := ar_one g
  have HG := Lib.hid g
  have HN := Lib.hid hn
  rw [hm] at hm8 ⊢
  rw [hk] at hn ⊢
  have hk1 : 0 < k := by omega
  have hk8 : k ≤ 8 := by omega
  have hk1I : (0 : Int) < (k : Int) := by omega
  have okx := HOK.out _ (shp_in (i := 0) (by rw [HK.out]; omega))
  obtain ⟨b, o0, ax, cx, rfl, hbl, hcx, hAx, hnx⟩ := L.at (i := 0) (by rw [HK.out]; omega)
  rw [Nat.add_zero] at hcx
  obtain ⟨x, hxe⟩ : ∃ x, shpI ls 0 = x := ⟨_, rfl⟩
  rw [hxe] at okx hcx hAx
  have hrk := okx.rank
  obtain ⟨lx, hlx⟩ : ∃ l, x.length = l := ⟨_, rfl⟩
  rw [hlx] at hcx hrk
  have HXE := Lib.hid hxe
  have HLX := Lib.hid hlx
  have HAX := Lib.hid hAx
  have HOX := Lib.hid okx
  obtain ⟨cd, hcd⟩ : ∃ c, comC 10 xs ls = c := ⟨_, rfl⟩
  obtain ⟨vl, hvl⟩ : ∃ c, valI 10 xs ls = c := ⟨_, rfl⟩
  obtain ⟨hh, hhe⟩ : ∃ c, holdI 10 xs ls = c := ⟨_, rfl⟩
  rw [hcd, hvl]
  have HCD := Lib.hid hcd
  have HVL := Lib.hid hvl
  have HHO := Lib.hid hhe
  have bE := Below.refl w.heap.size w
  have HAXL := Lib.hid (show ArgS w (.slice ax lx cx) x ax cx by rw [← hlx]; exact hAx)
  have HAL := Lib.hid (show ArgS w (.slice a2 m c2) xs a2 c2 by rw [← hm]; exact A)
  clear hxe hlx hAx okx hm hk A L ok g hn hcd hvl hhe h18
  have hk2 : 1 < k := by rw [← HK.out, HN.out]; have := ar_two HG.out (by simp); omega
  have hk2I : (1 : Int) < (k : Int) := by omega
  have oky := HOK.out _ (shp_in (i := 1) (by rw [HK.out]; omega))
  obtain ⟨b', o', ay, cy, he, hbl2, hcy, hAy, hny⟩ := HL.out.at (i := 1) (by rw [HK.out]; omega)
  cases he
  obtain ⟨y, hye⟩ : ∃ y, shpI ls 1 = y := ⟨_, rfl⟩
  rw [hye] at oky hcy hAy
  have hrky := oky.rank
  obtain ⟨ly, hly⟩ : ∃ l, y.length = l := ⟨_, rfl⟩
  rw [hly] at hcy hrky
  have HYE := Lib.hid hye
  have HLY := Lib.hid hly
  have HAY := Lib.hid hAy
  have HOY := Lib.hid oky
  clear hye hly hAy oky
  have hmx := matrixR_any HAX.out HAY.out (by rw [HLX.out]; omega) (by rw [HLY.out]; omega)
  have hmb : matB x y = hh := by rw [← HHO.out, ← HXE.out, ← HYE.out]; rfl
  rw [hmb, HLX.out, HLY.out] at hmx
  have HMX := Lib.hid hmx
  clear hmx hmb
  cases hh with
  | false =>
    obtain rfl : cd = 13 := by rw [← HCD.out]; unfold comC; rw [HHO.out]; rfl
    have hmx := HMX.out
    simp only [Bool.false_eq_true, if_false] at hmx
    go_enter Try.func31, Try.ntmps31
    go_wp2_with fail
    refine hmx.mono ?_
    rintro e w2 ⟨r, rfl, hr, hy⟩
    obtain ⟨ar_, cr_, rfl, hr2⟩ := res_slice11 hr
    go_wp2_with fail
    go_ret2
    exact ⟨_, _, _, rfl, fun h => absurd h (by decide), hy⟩
  | true =>
    obtain rfl : cd = 0 := by rw [← HCD.out]; unfold comC; rw [HHO.out]; rfl
    have hmx := HMX.out
    simp only [if_true] at hmx
    obtain rfl : [x.getD 0 0, y.getD 1 0] = vl := by rw [← HVL.out, ← HXE.out, ← HYE.out]; rfl
    go_enter Try.func31, Try.ntmps31
    go_wp2_with fail
    refine hmx.mono ?_
    rintro e w2 ⟨r, rfl, hr, hy⟩
    obtain ⟨ar_, cr_, rfl, hr2⟩ := res_slice11 hr
    have hat := Lib.hid hr2.at_.2.1
    clear hr hr2
    go_wp2_with fail
    go_ret2
    exact ⟨_, _, _, rfl, (by first | exact hat.out | exact fun _ => hat.out), hy⟩
set_option maxRecDepth 100000 in
set_option maxHeartbeats 8000000 in
theorem come11_any {xs : List Int} {ls : List (List Int)} {a2 al : Option Addr} {c2 cl : Nat} {w : World} (A : ArgS w (.slice a2 xs.length c2) xs a2 c2) (L : RowL w (.slice al ls.length cl) ls al cl) (ok : orL (ls.map mayC) = 0) {v : Int} {n : Nat} (g : GoodO v 11 n xs) (hn : ls.length = n) : Calls Try.prog 31 #[.int .i64 11, .slice a2 xs.length c2, .slice al ls.length cl] w fun e w' => ∃ ad q cap, e = .returned (.tuple #[.slice ad q cap, .int .i64 (comC 11 xs ls)]) ∧ (comC 11 xs ls = 0 → ArgS w' (.slice ad q cap) (valI 11 xs ls) ad cap) ∧ Below w.heap.size w w' := by
  have HA := Lib.hid A
  have HL := Lib.hid L
  have HMY := Lib.hid ok
  have HOK := Lib.hid (allOk ok)
  obtain ⟨m, hm⟩ : ∃ m, xs.length = m := ⟨_, rfl⟩
  obtain ⟨k, hk⟩ : ∃ k, ls.length = k := ⟨_, rfl⟩
  have HM := Lib.hid hm
  have HK := Lib.hid hk
  have hm8 := good_len g
  have h18 := ar_one g
  have HG := Lib.hid g
  have HN := Lib.hid hn
  rw [hm] at hm8 ⊢
  rw [hk] at hn ⊢
  have hk1 : 0 < k := by omega
  have hk8 : k ≤ 8 := by omega
  have hk1I : (0 : Int) < (k : Int) := by omega
  have okx := HOK.out _ (shp_in (i := 0) (by rw [HK.out]; omega))
  obtain ⟨b, o0, ax, cx, rfl, hbl, hcx, hAx, hnx⟩ := L.at (i := 0) (by rw [HK.out]; omega)
  rw [Nat.add_zero] at hcx
  obtain ⟨x, hxe⟩ : ∃ x, shpI ls 0 = x := ⟨_, rfl⟩
  rw [hxe] at okx hcx hAx
  have hrk := okx.rank
  obtain ⟨lx, hlx⟩ : ∃ l, x.length = l := ⟨_, rfl⟩
  rw [hlx] at hcx hrk
  have HXE := Lib.hid hxe
  have HLX := Lib.hid hlx
  have HAX := Lib.hid hAx
  have HOX := Lib.hid okx
  obtain ⟨cd, hcd⟩ : ∃ c, comC 11 xs ls = c := ⟨_, rfl⟩
  obtain ⟨vl, hvl⟩ : ∃ c, valI 11 xs ls = c := ⟨_, rfl⟩
  obtain ⟨hh, hhe⟩ : ∃ c, holdI 11 xs ls = c := ⟨_, rfl⟩
  rw [hcd, hvl]
  have HCD := Lib.hid hcd
  have HVL := Lib.hid hvl
  have HHO := Lib.hid hhe
  have bE := Below.refl w.heap.size w
  have HAXL := Lib.hid (show ArgS w (.slice ax lx cx) x ax cx by rw [← hlx]; exact hAx)
  have HAL := Lib.hid (show ArgS w (.slice a2 m c2) xs a2 c2 by rw [← hm]; exact A)
  clear hxe hlx hAx okx hm hk A L ok g hn hcd hvl hhe h18
  obtain ⟨iS, hiS, hzA, hzB, hzC⟩ := info_parts infoS
  have hq : decide (m = lx) = hh := by rw [← HHO.out, ← HM.out, ← HLX.out, ← HXE.out]; rfl
  by_cases hml : m = lx
  case neg =>
    obtain rfl : hh = false := by rw [← hq]; exact decide_eq_false hml
    have hI : ((m : Int) != (lx : Int)) = true := by simp; omega
    clear hml hq
    obtain rfl : cd = 13 := by rw [← HCD.out]; unfold comC; rw [HHO.out]; rfl
    go_enter Try.func31, Try.ntmps31
    go_wp2_with fail
    go_ret2
    exact ⟨none, 0, 0, rfl, fun h => absurd h (by decide), bE⟩
  case pos =>
    subst hml
    obtain rfl : hh = true := by rw [← hq]; exact decide_eq_true rfl
    obtain rfl : cd = 0 := by rw [← HCD.out]; unfold comC; rw [HHO.out]; rfl
    obtain rfl : trS x xs = vl := by rw [← HVL.out, ← HXE.out]; rfl
    have hpp := fit_tr HG.out.fit
    have HPP := Lib.hid (show ∀ j, j < m → 0 ≤ xs.getD j 0 ∧ xs.getD j 0 < (m : Int) from fun j hj => by
      have h5 := (hpp.2.mem (xs.getD j 0)).1 (by rw [getD_elem (by rw [HM.out]; exact hj)]; exact List.getElem_mem _)
      rw [HM.out] at h5
      exact h5)
    clear hq hpp
    go_enter Try.func31, Try.ntmps31
    go_wp2_with fail
    go_loopw [11, 12] (fun u ii wi => ∃ j : Nat, ii = .int .i64 (j : Int) ∧ j ≤ m ∧ NumS w.heap.size wi u ((xs.take j).map fun n : Int => x.getD n.toNat 0) ∧ Below w.heap.size w wi) (fun _ ii _ => m - (intOf ii).toNat)
    case atStart => exact ⟨0, rfl, Nat.zero_le _, World.ownsRow_nil _ _ _ _, bE⟩
    case round =>
      rename World => wi
      obtain ⟨j, rfl, hj, hown, bwi⟩ := hrel
      have hszi := bwi.size
      obtain ⟨zs, hzs⟩ : ∃ zs, ((xs.take j).map fun n : Int => x.getD n.toNat 0) = zs := ⟨_, rfl⟩
      have hzl : zs.length = j := by rw [← hzs, List.length_map, List.length_take, HM.out]; omega
      have hzb : zs.length ≤ 1000 := by rw [hzl]; omega
      rw [hzs] at hown
      have HZS := Lib.hid hzs
      obtain ⟨au0, cu0, rfl⟩ := ownT_slice11 hown
      have HOWN := Lib.hid hown
      have HZL := Lib.hid hzl
      clear hzs hown hzl
      by_cases hlt : j < m
      · have hltI : (j : Int) < (m : Int) := by omega
        have hj0 : (0 : Int) ≤ (j : Int) := by omega
        obtain ⟨ba, oa, rfl, hca⟩ := (HAL.out.later bwi).at (i := j) (by rw [HM.out]; exact hlt)
        have hnr := HPP.out j hlt
        obtain ⟨nn, hnn⟩ : ∃ q : Nat, xs.getD j 0 = (q : Int) := ⟨(xs.getD j 0).toNat, by omega⟩
        rw [hnn] at hca hnr
        obtain ⟨bx, ox, rfl, hcd⟩ := (HAXL.out.later bwi).at (i := nn) (by rw [HLX.out]; omega)
        obtain ⟨d, hd⟩ : ∃ d, x.getD nn 0 = d := ⟨_, rfl⟩
        rw [hd] at hcd
        have hnl : (nn : Int) < (m : Int) := by omega
        have hnx2 : ((xs.take (j + 1)).map fun n : Int => x.getD n.toNat 0) = zs ++ [d] := by
          rw [trS_take (by rw [HM.out]; exact hlt), HZS.out, hnn, ← hd]
          rfl
        have HNX := Lib.hid hnx2
        clear hnn hd hnx2
        go_wp2_with (at_builtin; (refine wpList_append_own _ rfl _ _ 23 rfl w.heap.size 3 iS (.int .i64 0) 1 8 Try.underlying23 hiS hzA hzB hzC rfl (by decide) _ zs.length (zs.map (Value.int .i64)) rfl (HOWN.out.later ((Below.refl _ _).alloc (Nat.le_refl _) _)) ⟨wi.heap.size, 0, none⟩ 1 1 [.int .i64 d] rfl rfl (cell_one_new _ _ _) (by simp [Value.oneCell']) (by unfold maxLen; omega) (by omega) (by simp; omega) ?_; intro v' w6 hown' hgrow _))
        have hb6 : Below w.heap.size w w6 := (bwi.alloc hszi _).grown hgrow (by simp; omega) (fun q hq => (World.ownsRow.lt HOWN.out q hq).1)
        have hN6 : NumS w.heap.size w6 v' (zs ++ [d]) := by
          unfold NumS
          rw [List.length_append, List.map_append]
          exact hown'
        have HN6 := Lib.hid hN6
        clear hN6 hown' hgrow
        (try go_wp2_with fail)
        go_roundw
        case rel => exact ⟨j + 1, by go_num, by omega, by rw [HNX.out]; exact HN6.out, hb6⟩
        case measure => simp [intOf]; omega
      · obtain rfl : j = m := by omega
        have hzt : zs = trS x xs := by rw [← HZS.out, List.take_of_length_le (by rw [HM.out]; exact Nat.le_refl _)]; rfl
        have hw : Wid zs := fun t ht => by
          rw [hzt] at ht
          unfold trS at ht
          obtain ⟨q, _, rfl⟩ := List.mem_map.1 ht
          exact HAX.out.wf.getD _
        have hat := (⟨HOWN.out, hw⟩ : ResS w.heap.size wi _ zs).at_.2.1
        have HAT := Lib.hid (show ArgS wi (.slice au0 zs.length cu0) (trS x xs) au0 cu0 from by
          have h6 := hat
          rw [hzt] at h6 ⊢
          exact h6)
        clear hat hw hzt
        go_wp2_with fail
        go_ret2
        exact ⟨_, _, _, rfl, (by first | exact HAT.out | exact fun _ => HAT.out), bwi⟩
set_option maxRecDepth 100000 in
set_option maxHeartbeats 8000000 in
theorem come12_any {xs : List Int} {ls : List (List Int)} {a2 al : Option Addr} {c2 cl : Nat} {w : World} (A : ArgS w (.slice a2 xs.length c2) xs a2 c2) (L : RowL w (.slice al ls.length cl) ls al cl) (ok : orL (ls.map mayC) = 0) {v : Int} {n : Nat} (g : GoodO v 12 n xs) (hn : ls.length = n) : Calls Try.prog 31 #[.int .i64 12, .slice a2 xs.length c2, .slice al ls.length cl] w fun e w' => ∃ ad q cap, e = .returned (.tuple #[.slice ad q cap, .int .i64 (comC 12 xs ls)]) ∧ (comC 12 xs ls = 0 → ArgS w' (.slice ad q cap) (valI 12 xs ls) ad cap) ∧ Below w.heap.size w w' := by
  have HA := Lib.hid A
  have HL := Lib.hid L
  have HMY := Lib.hid ok
  have HOK := Lib.hid (allOk ok)
  obtain ⟨m, hm⟩ : ∃ m, xs.length = m := ⟨_, rfl⟩
  obtain ⟨k, hk⟩ : ∃ k, ls.length = k := ⟨_, rfl⟩
  have HM := Lib.hid hm
  have HK := Lib.hid hk
  have hm8 := good_len g
  have h18 := ar_one g
  have HG := Lib.hid g
  have HN := Lib.hid hn
  rw [hm] at hm8 ⊢
  rw [hk] at hn ⊢
  have hk1 : 0 < k := by omega
  have hk8 : k ≤ 8 := by omega
  have hk1I : (0 : Int) < (k : Int) := by omega
  have okx := HOK.out _ (shp_in (i := 0) (by rw [HK.out]; omega))
  obtain ⟨b, o0, ax, cx, rfl, hbl, hcx, hAx, hnx⟩ := L.at (i := 0) (by rw [HK.out]; omega)
  rw [Nat.add_zero] at hcx
  obtain ⟨x, hxe⟩ : ∃ x, shpI ls 0 = x := ⟨_, rfl⟩
  rw [hxe] at okx hcx hAx
  have hrk := okx.rank
  obtain ⟨lx, hlx⟩ : ∃ l, x.length = l := ⟨_, rfl⟩
  rw [hlx] at hcx hrk
  have HXE := Lib.hid hxe
  have HLX := Lib.hid hlx
  have HAX := Lib.hid hAx
  have HOX := Lib.hid okx
  obtain ⟨cd, hcd⟩ : ∃ c, comC 12 xs ls = c := ⟨_, rfl⟩
  obtain ⟨vl, hvl⟩ : ∃ c, valI 12 xs ls = c := ⟨_, rfl⟩
  obtain ⟨hh, hhe⟩ : ∃ c, holdI 12 xs ls = c := ⟨_, rfl⟩
  rw [hcd, hvl]
  have HCD := Lib.hid hcd
  have HVL := Lib.hid hvl
  have HHO := Lib.hid hhe
  have bE := Below.refl w.heap.size w
  have HAXL := Lib.hid (show ArgS w (.slice ax lx cx) x ax cx by rw [← hlx]; exact hAx)
  have HAL := Lib.hid (show ArgS w (.slice a2 m c2) xs a2 c2 by rw [← hm]; exact A)
  clear hxe hlx hAx okx hm hk A L ok g hn hcd hvl hhe h18
  have hq : decide (countS xs = countS x) = hh := by rw [← HHO.out, ← HXE.out]; rfl
  have hc1 := countR6_any HAL.out
  have hc2 := countR6_any HAXL.out
  obtain ⟨p, hp⟩ : ∃ p, countS xs = p := ⟨_, rfl⟩
  obtain ⟨q, hqe⟩ : ∃ q, countS x = q := ⟨_, rfl⟩
  rw [hp] at hc1
  rw [hqe] at hc2
  rw [hp, hqe] at hq
  have H1 := Lib.hid hc1
  have H2 := Lib.hid hc2
  clear hp hqe hc1 hc2
  by_cases hpq : p = q
  case neg =>
    obtain rfl : hh = false := by rw [← hq]; exact decide_eq_false hpq
    have hI : (p != q) = true := by simpa using hpq
    clear hpq hq
    obtain rfl : cd = 13 := by rw [← HCD.out]; unfold comC; rw [HHO.out]; rfl
    go_enter Try.func31, Try.ntmps31
    go_wp2_with fail
    refine H1.out.mono ?_
    rintro e w2 ⟨rfl, rfl⟩
    go_wp2_with fail
    refine H2.out.mono ?_
    rintro e w2 ⟨rfl, rfl⟩
    go_wp2_with fail
    go_ret2
    exact ⟨none, 0, 0, rfl, fun h => absurd h (by decide), bE⟩
  case pos =>
    subst hpq
    obtain rfl : hh = true := by rw [← hq]; exact decide_eq_true rfl
    clear hq
    obtain rfl : cd = 0 := by rw [← HCD.out]; unfold comC; rw [HHO.out]; rfl
    obtain rfl : xs = vl := by rw [← HVL.out]; rfl
    go_enter Try.func31, Try.ntmps31
    go_wp2_with fail
    refine H1.out.mono ?_
    rintro e w2 ⟨rfl, rfl⟩
    go_wp2_with fail
    refine H2.out.mono ?_
    rintro e w2 ⟨rfl, rfl⟩
    go_wp2_with fail
    go_ret2
    exact ⟨_, _, _, rfl, (by first | exact HAL.out | exact fun _ => HAL.out), bE⟩
set_option maxRecDepth 100000 in
set_option maxHeartbeats 8000000 in
theorem come13_any {xs : List Int} {ls : List (List Int)} {a2 al : Option Addr} {c2 cl : Nat} {w : World} (A : ArgS w (.slice a2 xs.length c2) xs a2 c2) (L : RowL w (.slice al ls.length cl) ls al cl) (ok : orL (ls.map mayC) = 0) {v : Int} {n : Nat} (g : GoodO v 13 n xs) (hn : ls.length = n) : Calls Try.prog 31 #[.int .i64 13, .slice a2 xs.length c2, .slice al ls.length cl] w fun e w' => ∃ ad q cap, e = .returned (.tuple #[.slice ad q cap, .int .i64 (comC 13 xs ls)]) ∧ (comC 13 xs ls = 0 → ArgS w' (.slice ad q cap) (valI 13 xs ls) ad cap) ∧ Below w.heap.size w w' := by
  have HA := Lib.hid A
  have HL := Lib.hid L
  have HMY := Lib.hid ok
  have HOK := Lib.hid (allOk ok)
  obtain ⟨m, hm⟩ : ∃ m, xs.length = m := ⟨_, rfl⟩
  obtain ⟨k, hk⟩ : ∃ k, ls.length = k := ⟨_, rfl⟩
  have HM := Lib.hid hm
  have HK := Lib.hid hk
  have hm8 := good_len g
  have h18 := ar_one g
  have HG := Lib.hid g
  have HN := Lib.hid hn
  rw [hm] at hm8 ⊢
  rw [hk] at hn ⊢
  have hk1 : 0 < k := by omega
  have hk8 : k ≤ 8 := by omega
  have hk1I : (0 : Int) < (k : Int) := by omega
  have okx := HOK.out _ (shp_in (i := 0) (by rw [HK.out]; omega))
  obtain ⟨b, o0, ax, cx, rfl, hbl, hcx, hAx, hnx⟩ := L.at (i := 0) (by rw [HK.out]; omega)
  rw [Nat.add_zero] at hcx
  obtain ⟨x, hxe⟩ : ∃ x, shpI ls 0 = x := ⟨_, rfl⟩
  rw [hxe] at okx hcx hAx
  have hrk := okx.rank
  obtain ⟨lx, hlx⟩ : ∃ l, x.length = l := ⟨_, rfl⟩
  rw [hlx] at hcx hrk
  have HXE := Lib.hid hxe
  have HLX := Lib.hid hlx
  have HAX := Lib.hid hAx
  have HOX := Lib.hid okx
  obtain ⟨cd, hcd⟩ : ∃ c, comC 13 xs ls = c := ⟨_, rfl⟩
  obtain ⟨vl, hvl⟩ : ∃ c, valI 13 xs ls = c := ⟨_, rfl⟩
  obtain ⟨hh, hhe⟩ : ∃ c, holdI 13 xs ls = c := ⟨_, rfl⟩
  rw [hcd, hvl]
  have HCD := Lib.hid hcd
  have HVL := Lib.hid hvl
  have HHO := Lib.hid hhe
  have bE := Below.refl w.heap.size w
  have HAXL := Lib.hid (show ArgS w (.slice ax lx cx) x ax cx by rw [← hlx]; exact hAx)
  have HAL := Lib.hid (show ArgS w (.slice a2 m c2) xs a2 c2 by rw [← hm]; exact A)
  clear hxe hlx hAx okx hm hk A L ok g hn hcd hvl hhe h18
  have hq : decide (fitC x xs = 0) = hh := by rw [← HHO.out, ← HXE.out]; rfl
  have hc1 := fitsR_any HAXL.out HAL.out
  obtain ⟨p, hp⟩ : ∃ p, fitC x xs = p := ⟨_, rfl⟩
  rw [hp] at hc1 hq
  have H1 := Lib.hid hc1
  clear hp hc1
  by_cases hpq : p = 0
  case neg =>
    obtain rfl : hh = false := by rw [← hq]; exact decide_eq_false hpq
    have hI : (p != 0) = true := by simpa using hpq
    clear hpq hq
    obtain rfl : cd = 13 := by rw [← HCD.out]; unfold comC; rw [HHO.out]; rfl
    go_enter Try.func31, Try.ntmps31
    go_wp2_with fail
    refine H1.out.mono ?_
    rintro e w2 ⟨rfl, rfl⟩
    go_wp2_with fail
    go_ret2
    exact ⟨none, 0, 0, rfl, fun h => absurd h (by decide), bE⟩
  case pos =>
    subst hpq
    obtain rfl : hh = true := by rw [← hq]; rfl
    clear hq
    obtain rfl : cd = 0 := by rw [← HCD.out]; unfold comC; rw [HHO.out]; rfl
    obtain rfl : xs = vl := by rw [← HVL.out]; rfl
    go_enter Try.func31, Try.ntmps31
    go_wp2_with fail
    refine H1.out.mono ?_
    rintro e w2 ⟨rfl, rfl⟩
    go_wp2_with fail
    go_ret2
    exact ⟨_, _, _, rfl, (by first | exact HAL.out | exact fun _ => HAL.out), bE⟩
set_option maxRecDepth 100000 in
set_option maxHeartbeats 8000000 in
theorem come14_any {xs : List Int} {ls : List (List Int)} {a2 al : Option Addr} {c2 cl : Nat} {w : World} (A : ArgS w (.slice a2 xs.length c2) xs a2 c2) (L : RowL w (.slice al ls.length cl) ls al cl) (ok : orL (ls.map mayC) = 0) {v : Int} {n : Nat} (g : GoodO v 14 n xs) (hn : ls.length = n) : Calls Try.prog 31 #[.int .i64 14, .slice a2 xs.length c2, .slice al ls.length cl] w fun e w' => ∃ ad q cap, e = .returned (.tuple #[.slice ad q cap, .int .i64 (comC 14 xs ls)]) ∧ (comC 14 xs ls = 0 → ArgS w' (.slice ad q cap) (valI 14 xs ls) ad cap) ∧ Below w.heap.size w w' := by
  have HA := Lib.hid A
  have HL := Lib.hid L
  have HMY := Lib.hid ok
  have HOK := Lib.hid (allOk ok)
  obtain ⟨m, hm⟩ : ∃ m, xs.length = m := ⟨_, rfl⟩
  obtain ⟨k, hk⟩ : ∃ k, ls.length = k := ⟨_, rfl⟩
  have HM := Lib.hid hm
  have HK := Lib.hid hk
  have hm8 := good_len g
  have h18 := ar_one g
  have HG := Lib.hid g
  have HN := Lib.hid hn
  rw [hm] at hm8 ⊢
  rw [hk] at hn ⊢
  have hk1 : 0 < k := by omega
  have hk8 : k ≤ 8 := by omega
  have hk1I : (0 : Int) < (k : Int) := by omega
  have okx := HOK.out _ (shp_in (i := 0) (by rw [HK.out]; omega))
  obtain ⟨b, o0, ax, cx, rfl, hbl, hcx, hAx, hnx⟩ := L.at (i := 0) (by rw [HK.out]; omega)
  rw [Nat.add_zero] at hcx
  obtain ⟨x, hxe⟩ : ∃ x, shpI ls 0 = x := ⟨_, rfl⟩
  rw [hxe] at okx hcx hAx
  have hrk := okx.rank
  obtain ⟨lx, hlx⟩ : ∃ l, x.length = l := ⟨_, rfl⟩
  rw [hlx] at hcx hrk
  have HXE := Lib.hid hxe
  have HLX := Lib.hid hlx
  have HAX := Lib.hid hAx
  have HOX := Lib.hid okx
  obtain ⟨cd, hcd⟩ : ∃ c, comC 14 xs ls = c := ⟨_, rfl⟩
  obtain ⟨vl, hvl⟩ : ∃ c, valI 14 xs ls = c := ⟨_, rfl⟩
  obtain ⟨hh, hhe⟩ : ∃ c, holdI 14 xs ls = c := ⟨_, rfl⟩
  rw [hcd, hvl]
  have HCD := Lib.hid hcd
  have HVL := Lib.hid hvl
  have HHO := Lib.hid hhe
  have bE := Below.refl w.heap.size w
  have HAXL := Lib.hid (show ArgS w (.slice ax lx cx) x ax cx by rw [← hlx]; exact hAx)
  have HAL := Lib.hid (show ArgS w (.slice a2 m c2) xs a2 c2 by rw [← hm]; exact A)
  clear hxe hlx hAx okx hm hk A L ok g hn hcd hvl hhe h18
  have hax4 := fit_ax (o := 14) (by simp) HG.out.fit
  have hq : axesB xs (lx : Int) = hh := by
    rw [← HHO.out]
    show axesB xs (lx : Int) = axesB xs ((shpI ls 0).length : Int)
    rw [HXE.out, HLX.out]
  by_cases hm0 : m = 0
  case pos =>
    have hm0I : ¬ (m : Int) > 0 := by omega
    have HM0 := Lib.hid hm0
    obtain rfl : hh = true := by rw [← hq]; exact (ax_last hax4).2 (.inl (by rw [HM.out]; exact hm0))
    obtain rfl : dropS x xs = vl := by rw [← HVL.out, ← HXE.out]; rfl
    have hdr := dropR_any HAXL.out HAL.out (by rw [HLX.out]; omega) (by rw [HM.out]; omega)
    have HDR := Lib.hid hdr
    clear hdr hq hax4 hm0
    obtain rfl : cd = 0 := by rw [← HCD.out]; unfold comC; rw [HHO.out]; rfl
    go_enter Try.func31, Try.ntmps31
    go_wp2_with fail
    refine HDR.out.mono ?_
    rintro e w2 ⟨r, rfl, hr, hy⟩
    obtain ⟨ar_, cr_, rfl, hr2⟩ := res_slice11 hr
    have hat := Lib.hid hr2.at_.2.1
    clear hr hr2
    go_wp2_with fail
    go_ret2
    exact ⟨_, _, _, rfl, (by first | exact hat.out | exact fun _ => hat.out), hy⟩
  case neg =>
    have hm0I : (m : Int) > 0 := by omega
    have hm0n : 0 < m := by omega
    have hws : IntKind.i64.wrap ((m : Int) - 1) = (m : Int) - 1 := IntWalk.i64_in _ (by omega)
    obtain ⟨M1, hM1⟩ : ∃ q, m - 1 = q := ⟨_, rfl⟩
    have hmi : (m : Int) - 1 = (M1 : Int) := by omega
    have hmi0 : (0 : Int) ≤ (m : Int) - 1 := by omega
    have hmi1 : (m : Int) - 1 < (m : Int) := by omega
    have hmn : ((m : Int) - 1).toNat = M1 := by omega
    obtain ⟨ba, oa, rfl, hca⟩ := HAL.out.at (i := M1) (by rw [HM.out]; omega)
    obtain ⟨d, hd⟩ : ∃ d, xs.getD M1 0 = d := ⟨_, rfl⟩
    rw [hd] at hca
    have HD := Lib.hid (show xs.getD (xs.length - 1) 0 = d by rw [HM.out, hM1]; exact hd)
    clear hd hM1 hmi hm0
    by_cases hge : d < (lx : Int)
    case neg =>
      have hgeI : d ≥ (lx : Int) := by omega
      obtain rfl : hh = false := by
        rw [← hq]
        cases ha : axesB xs (lx : Int) with
        | false => rfl
        | true =>
          rcases (ax_last hax4).1 ha with h | h
          · rw [HM.out] at h; omega
          · rw [HD.out] at h; exact absurd h hge
      clear hq hax4 hge
      obtain rfl : cd = 13 := by rw [← HCD.out]; unfold comC; rw [HHO.out]; rfl
      go_enter Try.func31, Try.ntmps31
      go_wp2_with fail
      go_ret2
      exact ⟨none, 0, 0, rfl, fun h => absurd h (by decide), bE⟩
    case pos =>
      have hgeI : ¬ d ≥ (lx : Int) := by omega
      obtain rfl : hh = true := by rw [← hq]; exact (ax_last hax4).2 (.inr (by rw [HD.out]; exact hge))
      obtain rfl : dropS x xs = vl := by rw [← HVL.out, ← HXE.out]; rfl
      have hdr := dropR_any HAXL.out HAL.out (by rw [HLX.out]; omega) (by rw [HM.out]; omega)
      have HDR := Lib.hid hdr
      clear hdr hq hax4 hge
      obtain rfl : cd = 0 := by rw [← HCD.out]; unfold comC; rw [HHO.out]; rfl
      go_enter Try.func31, Try.ntmps31
      go_wp2_with fail
      refine HDR.out.mono ?_
      rintro e w2 ⟨r, rfl, hr, hy⟩
      obtain ⟨ar_, cr_, rfl, hr2⟩ := res_slice11 hr
      have hat := Lib.hid hr2.at_.2.1
      clear hr hr2
      go_wp2_with fail
      go_ret2
      exact ⟨_, _, _, rfl, (by first | exact hat.out | exact fun _ => hat.out), hy⟩
set_option maxRecDepth 100000 in
set_option maxHeartbeats 8000000 in
theorem come15_any {xs : List Int} {ls : List (List Int)} {a2 al : Option Addr} {c2 cl : Nat} {w : World} (A : ArgS w (.slice a2 xs.length c2) xs a2 c2) (L : RowL w (.slice al ls.length cl) ls al cl) (ok : orL (ls.map mayC) = 0) {v : Int} {n : Nat} (g : GoodO v 15 n xs) (hn : ls.length = n) : Calls Try.prog 31 #[.int .i64 15, .slice a2 xs.length c2, .slice al ls.length cl] w fun e w' => ∃ ad q cap, e = .returned (.tuple #[.slice ad q cap, .int .i64 (comC 15 xs ls)]) ∧ (comC 15 xs ls = 0 → ArgS w' (.slice ad q cap) (valI 15 xs ls) ad cap) ∧ Below w.heap.size w w' := by
  have HA := Lib.hid A
  have HL := Lib.hid L
  have HMY := Lib.hid ok
  have HOK := Lib.hid (allOk ok)
  obtain ⟨m, hm⟩ : ∃ m, xs.length = m := ⟨_, rfl⟩
  obtain ⟨k, hk⟩ : ∃ k, ls.length = k := ⟨_, rfl⟩
  have HM := Lib.hid hm
  have HK := Lib.hid hk
  have hm8 := good_len g
  have h18 := ar_one g
  have HG := Lib.hid g
  have HN := Lib.hid hn
  rw [hm] at hm8 ⊢
  rw [hk] at hn ⊢
  have hk1 : 0 < k := by omega
  have hk8 : k ≤ 8 := by omega
  have hk1I : (0 : Int) < (k : Int) := by omega
  have okx := HOK.out _ (shp_in (i := 0) (by rw [HK.out]; omega))
  obtain ⟨b, o0, ax, cx, rfl, hbl, hcx, hAx, hnx⟩ := L.at (i := 0) (by rw [HK.out]; omega)
  rw [Nat.add_zero] at hcx
  obtain ⟨x, hxe⟩ : ∃ x, shpI ls 0 = x := ⟨_, rfl⟩
  rw [hxe] at okx hcx hAx
  have hrk := okx.rank
  obtain ⟨lx, hlx⟩ : ∃ l, x.length = l := ⟨_, rfl⟩
  rw [hlx] at hcx hrk
  have HXE := Lib.hid hxe
  have HLX := Lib.hid hlx
  have HAX := Lib.hid hAx
  have HOX := Lib.hid okx
  obtain ⟨cd, hcd⟩ : ∃ c, comC 15 xs ls = c := ⟨_, rfl⟩
  obtain ⟨vl, hvl⟩ : ∃ c, valI 15 xs ls = c := ⟨_, rfl⟩
  obtain ⟨hh, hhe⟩ : ∃ c, holdI 15 xs ls = c := ⟨_, rfl⟩
  rw [hcd, hvl]
  have HCD := Lib.hid hcd
  have HVL := Lib.hid hvl
  have HHO := Lib.hid hhe
  have bE := Below.refl w.heap.size w
  have HAXL := Lib.hid (show ArgS w (.slice ax lx cx) x ax cx by rw [← hlx]; exact hAx)
  have HAL := Lib.hid (show ArgS w (.slice a2 m c2) xs a2 c2 by rw [← hm]; exact A)
  clear hxe hlx hAx okx hm hk A L ok g hn hcd hvl hhe h18
  have hbx : ∀ i, i < x.length → 1 ≤ x.getD i 0 ∧ x.getD i 0 ≤ 1024 := fun i hi => by
    have h3 := getD_le_prod HOX.out.pos hi
    have h4 := HOX.out.few
    exact ⟨HOX.out.pos.getD hi, by omega⟩
  have hq : (decide (xs.length = 2 * x.length ∧ ∀ i, i < x.length → xs.getD (2 * i + 1) 0 ≤ x.getD i 0)) = hh := by
    rw [← HHO.out, ← HXE.out]
    show _ = (withinB (shpI ls 0) xs && decide (xs.length = 2 * (shpI ls 0).length))
    rw [Bool.eq_iff_iff, decide_eq_true_iff, Bool.and_eq_true, decide_eq_true_iff]
    unfold withinB
    rw [decide_eq_true_iff]
    unfold sndP
    constructor
    · intro h
      exact ⟨fun i h1 _ => h.2 i h1, h.1⟩
    · intro h
      exact ⟨h.2, fun i h1 => h.1 i h1 (by omega)⟩
  have hcc := sliceR12_any HAX.out HA.out (by rw [HLX.out]; omega) (by rw [HM.out]; omega) hbx HG.out.bnd
  cases hh with
  | false =>
    have hn := of_decide_eq_false hq
    rw [if_neg hn, if_neg hn, HLX.out, HM.out] at hcc
    have HCC := Lib.hid hcc
    clear hn hq hcc hbx
    obtain rfl : cd = 13 := by rw [← HCD.out]; unfold comC; rw [HHO.out]; rfl
    go_enter Try.func31, Try.ntmps31
    go_wp2_with fail
    refine HCC.out.mono ?_
    rintro e w2 ⟨r, rfl, hr, hy⟩
    obtain ⟨ar_, cr_, rfl, hr2⟩ := res_slice11 hr
    clear hr hr2
    go_wp2_with fail
    go_ret2
    exact ⟨_, _, _, rfl, fun h => absurd h (by decide), hy⟩
  | true =>
    have hn := of_decide_eq_true hq
    rw [if_pos hn, if_pos hn, HLX.out, HM.out] at hcc
    obtain rfl : slS x xs = vl := by rw [← HVL.out, ← HXE.out]; rfl
    have HCC := Lib.hid hcc
    clear hn hq hcc hbx
    obtain rfl : cd = 0 := by rw [← HCD.out]; unfold comC; rw [HHO.out]; rfl
    go_enter Try.func31, Try.ntmps31
    go_wp2_with fail
    refine HCC.out.mono ?_
    rintro e w2 ⟨r, rfl, hr, hy⟩
    obtain ⟨ar_, cr_, rfl, hr2⟩ := res_slice11 hr
    have hat := Lib.hid hr2.at_.2.1
    clear hr hr2
    go_wp2_with fail
    go_ret2
    exact ⟨_, _, _, rfl, (by first | exact hat.out | exact fun _ => hat.out), hy⟩
set_option maxRecDepth 100000 in
set_option maxHeartbeats 8000000 in
theorem come16_any {xs : List Int} {ls : List (List Int)} {a2 al : Option Addr} {c2 cl : Nat} {w : World} (A : ArgS w (.slice a2 xs.length c2) xs a2 c2) (L : RowL w (.slice al ls.length cl) ls al cl) (ok : orL (ls.map mayC) = 0) {v : Int} {n : Nat} (g : GoodO v 16 n xs) (hn : ls.length = n) : Calls Try.prog 31 #[.int .i64 16, .slice a2 xs.length c2, .slice al ls.length cl] w fun e w' => ∃ ad q cap, e = .returned (.tuple #[.slice ad q cap, .int .i64 (comC 16 xs ls)]) ∧ (comC 16 xs ls = 0 → ArgS w' (.slice ad q cap) (valI 16 xs ls) ad cap) ∧ Below w.heap.size w w' := by
  have HA := Lib.hid A
  have HL := Lib.hid L
  have HMY := Lib.hid ok
  have HOK := Lib.hid (allOk ok)
  obtain ⟨m, hm⟩ : ∃ m, xs.length = m := ⟨_, rfl⟩
  obtain ⟨k, hk⟩ : ∃ k, ls.length = k := ⟨_, rfl⟩
  have HM := Lib.hid hm
  have HK := Lib.hid hk
  have hm8 := good_len g
  have h18 := ar_one g
  have HG := Lib.hid g
  have HN := Lib.hid hn
  rw [hm] at hm8 ⊢
  rw [hk] at hn ⊢
  have hk1 : 0 < k := by omega
  have hk8 : k ≤ 8 := by omega
  have hk1I : (0 : Int) < (k : Int) := by omega
  have okx := HOK.out _ (shp_in (i := 0) (by rw [HK.out]; omega))
  obtain ⟨b, o0, ax, cx, rfl, hbl, hcx, hAx, hnx⟩ := L.at (i := 0) (by rw [HK.out]; omega)
  rw [Nat.add_zero] at hcx
  obtain ⟨x, hxe⟩ : ∃ x, shpI ls 0 = x := ⟨_, rfl⟩
  rw [hxe] at okx hcx hAx
  have hrk := okx.rank
  obtain ⟨lx, hlx⟩ : ∃ l, x.length = l := ⟨_, rfl⟩
  rw [hlx] at hcx hrk
  have HXE := Lib.hid hxe
  have HLX := Lib.hid hlx
  have HAX := Lib.hid hAx
  have HOX := Lib.hid okx
  obtain ⟨cd, hcd⟩ : ∃ c, comC 16 xs ls = c := ⟨_, rfl⟩
  obtain ⟨vl, hvl⟩ : ∃ c, valI 16 xs ls = c := ⟨_, rfl⟩
  obtain ⟨hh, hhe⟩ : ∃ c, holdI 16 xs ls = c := ⟨_, rfl⟩
  rw [hcd, hvl]
  have HCD := Lib.hid hcd
  have HVL := Lib.hid hvl
  have HHO := Lib.hid hhe
  have bE := Below.refl w.heap.size w
  have HAXL := Lib.hid (show ArgS w (.slice ax lx cx) x ax cx by rw [← hlx]; exact hAx)
  have HAL := Lib.hid (show ArgS w (.slice a2 m c2) xs a2 c2 by rw [← hm]; exact A)
  clear hxe hlx hAx okx hm hk A L ok g hn hcd hvl hhe h18
  have hbx : ∀ i, i < x.length → 1 ≤ x.getD i 0 ∧ x.getD i 0 ≤ 1024 := fun i hi => by
    have h3 := getD_le_prod HOX.out.pos hi
    have h4 := HOX.out.few
    exact ⟨HOX.out.pos.getD hi, by omega⟩
  have hq : decide (xs.length = 2 * x.length) = hh := by rw [← HHO.out, ← HXE.out]; rfl
  have hcc := padsR12_any HAX.out HA.out (by rw [HLX.out]; omega) (by rw [HM.out]; omega) hbx HG.out.bnd
  cases hh with
  | false =>
    have hn := of_decide_eq_false hq
    rw [if_neg hn, if_neg hn, HLX.out, HM.out] at hcc
    have HCC := Lib.hid hcc
    clear hn hq hcc hbx
    obtain rfl : cd = 13 := by rw [← HCD.out]; unfold comC; rw [HHO.out]; rfl
    go_enter Try.func31, Try.ntmps31
    go_wp2_with fail
    refine HCC.out.mono ?_
    rintro e w2 ⟨r, rfl, hr, hy⟩
    obtain ⟨ar_, cr_, rfl, hr2⟩ := res_slice11 hr
    clear hr hr2
    go_wp2_with fail
    go_ret2
    exact ⟨_, _, _, rfl, fun h => absurd h (by decide), hy⟩
  | true =>
    have hn := of_decide_eq_true hq
    rw [if_pos hn, if_pos hn, HLX.out, HM.out] at hcc
    obtain rfl : padI x xs = vl := by rw [← HVL.out, ← HXE.out]; rfl
    have HCC := Lib.hid hcc
    clear hn hq hcc hbx
    obtain rfl : cd = 0 := by rw [← HCD.out]; unfold comC; rw [HHO.out]; rfl
    go_enter Try.func31, Try.ntmps31
    go_wp2_with fail
    refine HCC.out.mono ?_
    rintro e w2 ⟨r, rfl, hr, hy⟩
    obtain ⟨ar_, cr_, rfl, hr2⟩ := res_slice11 hr
    have hat := Lib.hid hr2.at_.2.1
    clear hr hr2
    go_wp2_with fail
    go_ret2
    exact ⟨_, _, _, rfl, (by first | exact hat.out | exact fun _ => hat.out), hy⟩
set_option maxRecDepth 100000 in
set_option maxHeartbeats 8000000 in
theorem come17_any {xs : List Int} {ls : List (List Int)} {a2 al : Option Addr} {c2 cl : Nat} {w : World} (A : ArgS w (.slice a2 xs.length c2) xs a2 c2) (L : RowL w (.slice al ls.length cl) ls al cl) (ok : orL (ls.map mayC) = 0) {v : Int} {n : Nat} (g : GoodO v 17 n xs) (hn : ls.length = n) : Calls Try.prog 31 #[.int .i64 17, .slice a2 xs.length c2, .slice al ls.length cl] w fun e w' => ∃ ad q cap, e = .returned (.tuple #[.slice ad q cap, .int .i64 (comC 17 xs ls)]) ∧ (comC 17 xs ls = 0 → ArgS w' (.slice ad q cap) (valI 17 xs ls) ad cap) ∧ Below w.heap.size w w' := by
  have HA := Lib.hid A
  have HL := Lib.hid L
  have HMY := Lib.hid ok
  have HOK := Lib.hid (allOk ok)
  obtain ⟨m, hm⟩ : ∃ m, xs.length = m := ⟨_, rfl⟩
  obtain ⟨k, hk⟩ : ∃ k, ls.length = k := ⟨_, rfl⟩
  have HM := Lib.hid hm
  have HK := Lib.hid hk
  have hm8 := good_len g
  have h18 := ar_one g
  have HG := Lib.hid g
  have HN := Lib.hid hn
  rw [hm] at hm8 ⊢
  rw [hk] at hn ⊢
  have hk1 : 0 < k := by omega
  have hk8 : k ≤ 8 := by omega
  have hk1I : (0 : Int) < (k : Int) := by omega
  have okx := HOK.out _ (shp_in (i := 0) (by rw [HK.out]; omega))
  obtain ⟨b, o0, ax, cx, rfl, hbl, hcx, hAx, hnx⟩ := L.at (i := 0) (by rw [HK.out]; omega)
  rw [Nat.add_zero] at hcx
  obtain ⟨x, hxe⟩ : ∃ x, shpI ls 0 = x := ⟨_, rfl⟩
  rw [hxe] at okx hcx hAx
  have hrk := okx.rank
  obtain ⟨lx, hlx⟩ : ∃ l, x.length = l := ⟨_, rfl⟩
  rw [hlx] at hcx hrk
  have HXE := Lib.hid hxe
  have HLX := Lib.hid hlx
  have HAX := Lib.hid hAx
  have HOX := Lib.hid okx
  obtain ⟨cd, hcd⟩ : ∃ c, comC 17 xs ls = c := ⟨_, rfl⟩
  obtain ⟨vl, hvl⟩ : ∃ c, valI 17 xs ls = c := ⟨_, rfl⟩
  obtain ⟨hh, hhe⟩ : ∃ c, holdI 17 xs ls = c := ⟨_, rfl⟩
  rw [hcd, hvl]
  have HCD := Lib.hid hcd
  have HVL := Lib.hid hvl
  have HHO := Lib.hid hhe
  have bE := Below.refl w.heap.size w
  have HAXL := Lib.hid (show ArgS w (.slice ax lx cx) x ax cx by rw [← hlx]; exact hAx)
  have HAL := Lib.hid (show ArgS w (.slice a2 m c2) xs a2 c2 by rw [← hm]; exact A)
  clear hxe hlx hAx okx hm hk A L ok g hn hcd hvl hhe h18
  obtain ⟨f1, f2, f3⟩ := fit_one HG.out.fit
  obtain ⟨a, ha⟩ : ∃ a : Nat, xs.getD 0 0 = (a : Int) := ⟨(xs.getD 0 0).toNat, by omega⟩
  have hxa : xs = [(a : Int)] := by
    obtain ⟨y, rfl⟩ := List.length_eq_one_iff.1 f1
    simp at ha
    rw [ha]
  have hcc := concatR12_any (a := a) HL.out HOK.out (by rw [HK.out]; omega) (by rw [HK.out]; omega) (by omega)
  have hho : holdI 17 [(a : Int)] ls = hh := by rw [← hxa]; exact HHO.out
  have hva : catS a ls = vl := by rw [← HVL.out, hxa]; show _ = catS ((a : Int)).toNat ls; rw [Int.toNat_natCast]
  rw [hho, hva, HK.out] at hcc
  have hm1 : m = 1 := by rw [← HM.out]; exact f1
  have hm1n : 0 < m := by omega
  have hm1I : (0 : Int) < (m : Int) := by omega
  obtain ⟨ba, oa, rfl, hca⟩ := HAL.out.at (i := 0) (by rw [HM.out]; omega)
  rw [ha, Nat.add_zero] at hca
  have HCC := Lib.hid hcc
  clear f1 f2 f3 ha hxa hcc hho hva hm1
  cases hh with
  | false =>
    have hcc := HCC.out
    simp only [Bool.false_eq_true, if_false] at hcc
    obtain rfl : cd = 13 := by rw [← HCD.out]; unfold comC; rw [HHO.out]; rfl
    go_enter Try.func31, Try.ntmps31
    go_wp2_with fail
    refine hcc.mono ?_
    rintro e w2 ⟨r, rfl, hr, hy⟩
    obtain ⟨ar_, cr_, rfl, hr2⟩ := res_slice11 hr
    clear hr hr2
    go_wp2_with fail
    go_ret2
    exact ⟨_, _, _, rfl, fun h => absurd h (by decide), hy⟩
  | true =>
    have hcc := HCC.out
    simp only [if_true] at hcc
    obtain rfl : cd = 0 := by rw [← HCD.out]; unfold comC; rw [HHO.out]; rfl
    go_enter Try.func31, Try.ntmps31
    go_wp2_with fail
    refine hcc.mono ?_
    rintro e w2 ⟨r, rfl, hr, hy⟩
    obtain ⟨ar_, cr_, rfl, hr2⟩ := res_slice11 hr
    have hat := Lib.hid hr2.at_.2.1
    clear hr hr2
    go_wp2_with fail
    go_ret2
    exact ⟨_, _, _, rfl, (by first | exact hat.out | exact fun _ => hat.out), hy⟩
set_option maxRecDepth 100000 in
set_option maxHeartbeats 8000000 in
theorem come18_any {xs : List Int} {ls : List (List Int)} {a2 al : Option Addr} {c2 cl : Nat} {w : World} (A : ArgS w (.slice a2 xs.length c2) xs a2 c2) (L : RowL w (.slice al ls.length cl) ls al cl) (ok : orL (ls.map mayC) = 0) {v : Int} {n : Nat} (g : GoodO v 18 n xs) (hn : ls.length = n) : Calls Try.prog 31 #[.int .i64 18, .slice a2 xs.length c2, .slice al ls.length cl] w fun e w' => ∃ ad q cap, e = .returned (.tuple #[.slice ad q cap, .int .i64 (comC 18 xs ls)]) ∧ (comC 18 xs ls = 0 → ArgS w' (.slice ad q cap) (valI 18 xs ls) ad cap) ∧ Below w.heap.size w w' := by
  have HA := Lib.hid A
  have HL := Lib.hid L
  have HMY := Lib.hid ok
  have HOK := Lib.hid (allOk ok)
  obtain ⟨m, hm⟩ : ∃ m, xs.length = m := ⟨_, rfl⟩
  obtain ⟨k, hk⟩ : ∃ k, ls.length = k := ⟨_, rfl⟩
  have HM := Lib.hid hm
  have HK := Lib.hid hk
  have hm8 := good_len g
  have h18 := ar_one g
  have HG := Lib.hid g
  have HN := Lib.hid hn
  rw [hm] at hm8 ⊢
  rw [hk] at hn ⊢
  have hk1 : 0 < k := by omega
  have hk8 : k ≤ 8 := by omega
  have hk1I : (0 : Int) < (k : Int) := by omega
  have okx := HOK.out _ (shp_in (i := 0) (by rw [HK.out]; omega))
  obtain ⟨b, o0, ax, cx, rfl, hbl, hcx, hAx, hnx⟩ := L.at (i := 0) (by rw [HK.out]; omega)
  rw [Nat.add_zero] at hcx
  obtain ⟨x, hxe⟩ : ∃ x, shpI ls 0 = x := ⟨_, rfl⟩
  rw [hxe] at okx hcx hAx
  have hrk := okx.rank
  obtain ⟨lx, hlx⟩ : ∃ l, x.length = l := ⟨_, rfl⟩
  rw [hlx] at hcx hrk
  have HXE := Lib.hid hxe
  have HLX := Lib.hid hlx
  have HAX := Lib.hid hAx
  have HOX := Lib.hid okx
  obtain ⟨cd, hcd⟩ : ∃ c, comC 18 xs ls = c := ⟨_, rfl⟩
  obtain ⟨vl, hvl⟩ : ∃ c, valI 18 xs ls = c := ⟨_, rfl⟩
  obtain ⟨hh, hhe⟩ : ∃ c, holdI 18 xs ls = c := ⟨_, rfl⟩
  rw [hcd, hvl]
  have HCD := Lib.hid hcd
  have HVL := Lib.hid hvl
  have HHO := Lib.hid hhe
  have bE := Below.refl w.heap.size w
  have HAXL := Lib.hid (show ArgS w (.slice ax lx cx) x ax cx by rw [← hlx]; exact hAx)
  have HAL := Lib.hid (show ArgS w (.slice a2 m c2) xs a2 c2 by rw [← hm]; exact A)
  clear hxe hlx hAx okx hm hk A L ok g hn hcd hvl hhe h18
  obtain rfl : hh = true := by rw [← HHO.out]; rfl
  obtain rfl : cd = 0 := by rw [← HCD.out]; unfold comC; rw [HHO.out]; rfl
  obtain rfl : x = vl := by rw [← HVL.out, ← HXE.out]; rfl
  go_enter Try.func31, Try.ntmps31
  go_wp2_with fail
  go_ret2
  exact ⟨_, _, _, rfl, (by first | exact HAXL.out | exact fun _ => HAXL.out), bE⟩
set_option maxRecDepth 100000 in
set_option maxHeartbeats 8000000 in
theorem come19_any {xs : List Int} {ls : List (List Int)} {a2 al : Option Addr} {c2 cl : Nat} {w : World} (A : ArgS w (.slice a2 xs.length c2) xs a2 c2) (L : RowL w (.slice al ls.length cl) ls al cl) (ok : orL (ls.map mayC) = 0) {v : Int} {n : Nat} (g : GoodO v 19 n xs) (hn : ls.length = n) : Calls Try.prog 31 #[.int .i64 19, .slice a2 xs.length c2, .slice al ls.length cl] w fun e w' => ∃ ad q cap, e = .returned (.tuple #[.slice ad q cap, .int .i64 (comC 19 xs ls)]) ∧ (comC 19 xs ls = 0 → ArgS w' (.slice ad q cap) (valI 19 xs ls) ad cap) ∧ Below w.heap.size w w' := by
  have HA := Lib.hid A
  have HL := Lib.hid L
  have HMY := Lib.hid ok
  have HOK := Lib.hid (allOk ok)
  obtain ⟨m, hm⟩ : ∃ m, xs.length = m := ⟨_, rfl⟩
  obtain ⟨k, hk⟩ : ∃ k, ls.length = k := ⟨_, rfl⟩
  have HM := Lib.hid hm
  have HK := Lib.hid hk
  have hm8 := good_len g
  have h18 := ar_one g
  have HG := Lib.hid g
  have HN := Lib.hid hn
  rw [hm] at hm8 ⊢
  rw [hk] at hn ⊢
  have hk1 : 0 < k := by omega
  have hk8 : k ≤ 8 := by omega
  have hk1I : (0 : Int) < (k : Int) := by omega
  have okx := HOK.out _ (shp_in (i := 0) (by rw [HK.out]; omega))
  obtain ⟨b, o0, ax, cx, rfl, hbl, hcx, hAx, hnx⟩ := L.at (i := 0) (by rw [HK.out]; omega)
  rw [Nat.add_zero] at hcx
  obtain ⟨x, hxe⟩ : ∃ x, shpI ls 0 = x := ⟨_, rfl⟩
  rw [hxe] at okx hcx hAx
  have hrk := okx.rank
  obtain ⟨lx, hlx⟩ : ∃ l, x.length = l := ⟨_, rfl⟩
  rw [hlx] at hcx hrk
  have HXE := Lib.hid hxe
  have HLX := Lib.hid hlx
  have HAX := Lib.hid hAx
  have HOX := Lib.hid okx
  obtain ⟨cd, hcd⟩ : ∃ c, comC 19 xs ls = c := ⟨_, rfl⟩
  obtain ⟨vl, hvl⟩ : ∃ c, valI 19 xs ls = c := ⟨_, rfl⟩
  obtain ⟨hh, hhe⟩ : ∃ c, holdI 19 xs ls = c := ⟨_, rfl⟩
  rw [hcd, hvl]
  have HCD := Lib.hid hcd
  have HVL := Lib.hid hvl
  have HHO := Lib.hid hhe
  have bE := Below.refl w.heap.size w
  have HAXL := Lib.hid (show ArgS w (.slice ax lx cx) x ax cx by rw [← hlx]; exact hAx)
  have HAL := Lib.hid (show ArgS w (.slice a2 m c2) xs a2 c2 by rw [← hm]; exact A)
  clear hxe hlx hAx okx hm hk A L ok g hn hcd hvl hhe h18
  have hk2 : 2 < k := by rw [← HK.out, HN.out]; have := ar_three HG.out; omega
  have hk2I : (1 : Int) < (k : Int) := by omega
  have oky := HOK.out _ (shp_in (i := 1) (by rw [HK.out]; omega))
  obtain ⟨b', o', ay, cy, he, hbl2, hcy, hAy, hny⟩ := HL.out.at (i := 1) (by rw [HK.out]; omega)
  cases he
  obtain ⟨y, hye⟩ : ∃ y, shpI ls 1 = y := ⟨_, rfl⟩
  rw [hye] at oky hcy hAy
  have hrky := oky.rank
  obtain ⟨ly, hly⟩ : ∃ l, y.length = l := ⟨_, rfl⟩
  rw [hly] at hcy hrky
  have HYE := Lib.hid hye
  have HLY := Lib.hid hly
  have HAY := Lib.hid hAy
  have HOY := Lib.hid oky
  clear hye hly hAy oky
  have hmx := matrixR_any HAX.out HAY.out (by rw [HLX.out]; omega) (by rw [HLY.out]; omega)
  have hmb : matB x y = hh := by rw [← HHO.out, ← HXE.out, ← HYE.out]; rfl
  rw [hmb, HLX.out, HLY.out] at hmx
  have HMX := Lib.hid hmx
  clear hmx hmb
  cases hh with
  | false =>
    obtain rfl : cd = 13 := by rw [← HCD.out]; unfold comC; rw [HHO.out]; rfl
    have hmx := HMX.out
    simp only [Bool.false_eq_true, if_false] at hmx
    go_enter Try.func31, Try.ntmps31
    go_wp2_with fail
    refine hmx.mono ?_
    rintro e w2 ⟨r, rfl, hr, hy⟩
    obtain ⟨ar_, cr_, rfl, hr2⟩ := res_slice11 hr
    clear hr hr2
    go_wp2_with fail
    go_ret2
    exact ⟨none, 0, 0, rfl, fun h => absurd h (by decide), hy⟩
  | true =>
    have hmx := HMX.out
    simp only [if_true] at hmx
    obtain rfl : [x.getD 0 0, y.getD 1 0] = vl := by rw [← HVL.out, ← HXE.out, ← HYE.out]; rfl
    obtain ⟨p, hp⟩ : ∃ p, x.getD 0 0 = p := ⟨_, rfl⟩
    obtain ⟨q, hq⟩ : ∃ q, y.getD 1 0 = q := ⟨_, rfl⟩
    rw [hp, hq] at hmx ⊢
    have HVV := Lib.hid (show valI 19 xs ls = [p, q] by rw [← hp, ← hq]; exact HVL.out)
    clear hp hq
    go_enter Try.func31, Try.ntmps31
    go_wp2_with fail
    refine hmx.mono ?_
    rintro e w2 ⟨r, rfl, hr, hy⟩
    obtain ⟨ar_, cr_, rfl, hr2⟩ := res_slice11 hr
    simp only [List.length_cons, List.length_nil, Nat.reduceAdd, Nat.zero_add] at hr2
    (try simp only [List.length_cons, List.length_nil, Nat.reduceAdd, Nat.zero_add])
    have hat := Lib.hid hr2.at_.2.1
    have hms := mayR6_any hat.out
    obtain ⟨f1, hf1⟩ : ∃ c, mayC [p, q] = c := ⟨_, rfl⟩
    rw [hf1] at hms
    have HF1 := Lib.hid hf1
    have HMS := Lib.hid hms
    have B2 := hy
    clear hr hr2 hy hms hf1
    go_wp2_with fail
    refine HMS.out.mono ?_
    rintro e w3 ⟨rfl, rfl⟩
    by_cases h1 : f1 = 0
    case neg =>
      have h1I : (f1 != 0) = true := by simpa using h1
      obtain rfl : cd = 14 := by
        rw [← HCD.out]
        unfold comC
        rw [HHO.out, if_neg (by decide), if_pos rfl, HVV.out, HF1.out, if_pos h1]
      clear h1
      go_wp2_with fail
      go_ret2
      exact ⟨none, 0, 0, rfl, fun h => absurd h (by decide), B2⟩
    case pos =>
      subst h1
      obtain ⟨b', o', az, cz, he, hbl3, hcz, hAz, hnz⟩ := (HL.out.later B2).at (i := 2) (by rw [HK.out]; omega)
      cases he
      have hfi := fitsR_any hAz hat.out
      obtain ⟨f2, hf2⟩ : ∃ c, fitC (shpI ls 2) [p, q] = c := ⟨_, rfl⟩
      obtain ⟨lz, hlz⟩ : ∃ l, (shpI ls 2).length = l := ⟨_, rfl⟩
      rw [hf2, hlz] at hfi
      rw [hlz] at hcz
      have HF2 := Lib.hid hf2
      have HFI := Lib.hid hfi
      have hk3I : (2 : Int) < (k : Int) := by omega
      clear hfi hf2 hlz hAz
      go_wp2_with fail
      refine HFI.out.mono ?_
      rintro e w3 ⟨rfl, rfl⟩
      by_cases h2 : f2 = 0
      case neg =>
        have h2I : (f2 != 0) = true := by simpa using h2
        obtain rfl : cd = 13 := by
          rw [← HCD.out]
          unfold comC
          rw [HHO.out, if_neg (by decide), if_pos rfl, HVV.out, HF1.out, if_neg (by decide), HF2.out, if_pos h2]
        clear h2
        go_wp2_with fail
        go_ret2
        exact ⟨none, 0, 0, rfl, fun h => absurd h (by decide), B2⟩
      case pos =>
        subst h2
        obtain rfl : cd = 0 := by
          rw [← HCD.out]
          unfold comC
          rw [HHO.out, if_neg (by decide), if_pos rfl, HVV.out, HF1.out, if_neg (by decide), HF2.out, if_neg (by decide)]
        go_wp2_with fail
        go_ret2
        exact ⟨_, _, _, rfl, (by first | exact hat.out | exact fun _ => hat.out), B2⟩
set_option maxRecDepth 100000 in
set_option maxHeartbeats 8000000 in
theorem come20_any {xs : List Int} {ls : List (List Int)} {a2 al : Option Addr} {c2 cl : Nat} {w : World} (A : ArgS w (.slice a2 xs.length c2) xs a2 c2) (L : RowL w (.slice al ls.length cl) ls al cl) (ok : orL (ls.map mayC) = 0) {v : Int} {n : Nat} (g : GoodO v 20 n xs) (hn : ls.length = n) : Calls Try.prog 31 #[.int .i64 20, .slice a2 xs.length c2, .slice al ls.length cl] w fun e w' => ∃ ad q cap, e = .returned (.tuple #[.slice ad q cap, .int .i64 (comC 20 xs ls)]) ∧ (comC 20 xs ls = 0 → ArgS w' (.slice ad q cap) (valI 20 xs ls) ad cap) ∧ Below w.heap.size w w' := by
  have HA := Lib.hid A
  have HL := Lib.hid L
  have HMY := Lib.hid ok
  have HOK := Lib.hid (allOk ok)
  obtain ⟨m, hm⟩ : ∃ m, xs.length = m := ⟨_, rfl⟩
  obtain ⟨k, hk⟩ : ∃ k, ls.length = k := ⟨_, rfl⟩
  have HM := Lib.hid hm
  have HK := Lib.hid hk
  have hm8 := good_len g
  have h18 := ar_one g
  have HG := Lib.hid g
  have HN := Lib.hid hn
  rw [hm] at hm8 ⊢
  rw [hk] at hn ⊢
  have hk1 : 0 < k := by omega
  have hk8 : k ≤ 8 := by omega
  have hk1I : (0 : Int) < (k : Int) := by omega
  have okx := HOK.out _ (shp_in (i := 0) (by rw [HK.out]; omega))
  obtain ⟨b, o0, ax, cx, rfl, hbl, hcx, hAx, hnx⟩ := L.at (i := 0) (by rw [HK.out]; omega)
  rw [Nat.add_zero] at hcx
  obtain ⟨x, hxe⟩ : ∃ x, shpI ls 0 = x := ⟨_, rfl⟩
  rw [hxe] at okx hcx hAx
  have hrk := okx.rank
  obtain ⟨lx, hlx⟩ : ∃ l, x.length = l := ⟨_, rfl⟩
  rw [hlx] at hcx hrk
  have HXE := Lib.hid hxe
  have HLX := Lib.hid hlx
  have HAX := Lib.hid hAx
  have HOX := Lib.hid okx
  obtain ⟨cd, hcd⟩ : ∃ c, comC 20 xs ls = c := ⟨_, rfl⟩
  obtain ⟨vl, hvl⟩ : ∃ c, valI 20 xs ls = c := ⟨_, rfl⟩
  obtain ⟨hh, hhe⟩ : ∃ c, holdI 20 xs ls = c := ⟨_, rfl⟩
  rw [hcd, hvl]
  have HCD := Lib.hid hcd
  have HVL := Lib.hid hvl
  have HHO := Lib.hid hhe
  have bE := Below.refl w.heap.size w
  have HAXL := Lib.hid (show ArgS w (.slice ax lx cx) x ax cx by rw [← hlx]; exact hAx)
  have HAL := Lib.hid (show ArgS w (.slice a2 m c2) xs a2 c2 by rw [← hm]; exact A)
  clear hxe hlx hAx okx hm hk A L ok g hn hcd hvl hhe h18
  have hax4 := fit_ax (o := 20) (by simp) HG.out.fit
  have hq : axesB xs (lx : Int) = hh := by
    rw [← HHO.out]
    show axesB xs (lx : Int) = axesB xs ((shpI ls 0).length : Int)
    rw [HXE.out, HLX.out]
  by_cases hm0 : m = 0
  case pos =>
    have hm0I : ¬ (m : Int) > 0 := by omega
    have HM0 := Lib.hid hm0
    obtain rfl : hh = true := by rw [← hq]; exact (ax_last hax4).2 (.inl (by rw [HM.out]; exact hm0))
    obtain rfl : dropS x xs = vl := by rw [← HVL.out, ← HXE.out]; rfl
    have hdr := dropR_any HAXL.out HAL.out (by rw [HLX.out]; omega) (by rw [HM.out]; omega)
    have HDR := Lib.hid hdr
    clear hdr hq hax4 hm0
    obtain rfl : cd = 0 := by rw [← HCD.out]; unfold comC; rw [HHO.out]; rfl
    go_enter Try.func31, Try.ntmps31
    go_wp2_with fail
    refine HDR.out.mono ?_
    rintro e w2 ⟨r, rfl, hr, hy⟩
    obtain ⟨ar_, cr_, rfl, hr2⟩ := res_slice11 hr
    have hat := Lib.hid hr2.at_.2.1
    clear hr hr2
    go_wp2_with fail
    go_ret2
    exact ⟨_, _, _, rfl, (by first | exact hat.out | exact fun _ => hat.out), hy⟩
  case neg =>
    have hm0I : (m : Int) > 0 := by omega
    have hm0n : 0 < m := by omega
    have hws : IntKind.i64.wrap ((m : Int) - 1) = (m : Int) - 1 := IntWalk.i64_in _ (by omega)
    obtain ⟨M1, hM1⟩ : ∃ q, m - 1 = q := ⟨_, rfl⟩
    have hmi : (m : Int) - 1 = (M1 : Int) := by omega
    have hmi0 : (0 : Int) ≤ (m : Int) - 1 := by omega
    have hmi1 : (m : Int) - 1 < (m : Int) := by omega
    have hmn : ((m : Int) - 1).toNat = M1 := by omega
    obtain ⟨ba, oa, rfl, hca⟩ := HAL.out.at (i := M1) (by rw [HM.out]; omega)
    obtain ⟨d, hd⟩ : ∃ d, xs.getD M1 0 = d := ⟨_, rfl⟩
    rw [hd] at hca
    have HD := Lib.hid (show xs.getD (xs.length - 1) 0 = d by rw [HM.out, hM1]; exact hd)
    clear hd hM1 hmi hm0
    by_cases hge : d < (lx : Int)
    case neg =>
      have hgeI : d ≥ (lx : Int) := by omega
      obtain rfl : hh = false := by
        rw [← hq]
        cases ha : axesB xs (lx : Int) with
        | false => rfl
        | true =>
          rcases (ax_last hax4).1 ha with h | h
          · rw [HM.out] at h; omega
          · rw [HD.out] at h; exact absurd h hge
      clear hq hax4 hge
      obtain rfl : cd = 13 := by rw [← HCD.out]; unfold comC; rw [HHO.out]; rfl
      go_enter Try.func31, Try.ntmps31
      go_wp2_with fail
      go_ret2
      exact ⟨none, 0, 0, rfl, fun h => absurd h (by decide), bE⟩
    case pos =>
      have hgeI : ¬ d ≥ (lx : Int) := by omega
      obtain rfl : hh = true := by rw [← hq]; exact (ax_last hax4).2 (.inr (by rw [HD.out]; exact hge))
      obtain rfl : dropS x xs = vl := by rw [← HVL.out, ← HXE.out]; rfl
      have hdr := dropR_any HAXL.out HAL.out (by rw [HLX.out]; omega) (by rw [HM.out]; omega)
      have HDR := Lib.hid hdr
      clear hdr hq hax4 hge
      obtain rfl : cd = 0 := by rw [← HCD.out]; unfold comC; rw [HHO.out]; rfl
      go_enter Try.func31, Try.ntmps31
      go_wp2_with fail
      refine HDR.out.mono ?_
      rintro e w2 ⟨r, rfl, hr, hy⟩
      obtain ⟨ar_, cr_, rfl, hr2⟩ := res_slice11 hr
      have hat := Lib.hid hr2.at_.2.1
      clear hr hr2
      go_wp2_with fail
      go_ret2
      exact ⟨_, _, _, rfl, (by first | exact hat.out | exact fun _ => hat.out), hy⟩
theorem come_any {o : Int} {xs : List Int} {ls : List (List Int)} {a2 al : Option Addr} {c2 cl : Nat} {w : World} (A : ArgS w (.slice a2 xs.length c2) xs a2 c2) (L : RowL w (.slice al ls.length cl) ls al cl) (ok : orL (ls.map mayC) = 0) {v : Int} {n : Nat} (g : GoodO v o n xs) (hn : ls.length = n) : Calls Try.prog 31 #[.int .i64 o, .slice a2 xs.length c2, .slice al ls.length cl] w fun e w' => ∃ ad q cap, e = .returned (.tuple #[.slice ad q cap, .int .i64 (comC o xs ls)]) ∧ (comC o xs ls = 0 → ArgS w' (.slice ad q cap) (valI o xs ls) ad cap) ∧ Below w.heap.size w w' := by
  have ho := of_decide_eq_true g.inn
  have hoo : o = 1 ∨ o = 2 ∨ o = 3 ∨ o = 4 ∨ o = 5 ∨ o = 6 ∨ o = 7 ∨ o = 8 ∨ o = 9 ∨ o = 10 ∨ o = 11 ∨ o = 12 ∨ o = 13 ∨ o = 14 ∨ o = 15 ∨ o = 16 ∨ o = 17 ∨ o = 18 ∨ o = 19 ∨ o = 20 := by omega
  clear ho
  rcases hoo with rfl | rfl | rfl | rfl | rfl | rfl | rfl | rfl | rfl | rfl | rfl | rfl | rfl | rfl | rfl | rfl | rfl | rfl | rfl | rfl
  · exact come1_any A L ok g hn
  · exact come2_any A L ok g hn
  · exact come3_any A L ok g hn
  · exact come4_any A L ok g hn
  · exact come5_any A L ok g hn
  · exact come6_any A L ok g hn
  · exact come7_any A L ok g hn
  · exact come8_any A L ok g hn
  · exact come9_any A L ok g hn
  · exact come10_any A L ok g hn
  · exact come11_any A L ok g hn
  · exact come12_any A L ok g hn
  · exact come13_any A L ok g hn
  · exact come14_any A L ok g hn
  · exact come15_any A L ok g hn
  · exact come16_any A L ok g hn
  · exact come17_any A L ok g hn
  · exact come18_any A L ok g hn
  · exact come19_any A L ok g hn
  · exact come20_any A L ok g hn
set_option maxRecDepth 100000 in
set_option maxHeartbeats 40000000 in
theorem shapeR_any (v : Int) {o : Int} {xs : List Int} {ls : List (List Int)} {a1 a2 al : Option Addr} {n1 c1 c2 cl : Nat} {w : World} (A : ArgS w (.slice a2 xs.length c2) xs a2 c2) (na : a2 = none → c2 = 0) (hx : xs.length ≤ 17592186044416) (L : RowL w (.slice al ls.length cl) ls al cl) (hl : ls.length ≤ 1000) :
    Calls Try.prog 11 #[.int .i64 v, .agg #[.int .i64 o, .slice a1 n1 c1, .slice a2 xs.length c2], .slice al ls.length cl] w fun e w' => ∃ ad cap, e = .returned (.tuple #[.slice ad (infV v o n1 xs ls).length cap, .int .i64 (infC v o n1 xs ls)]) ∧ ArgS w' (.slice ad (infV v o n1 xs ls).length cap) (infV v o n1 xs ls) ad cap ∧ Below w.heap.size w w' := by
  have HA := Lib.hid A
  have HL := Lib.hid L
  have HX0 := Lib.hid hx
  have HNA := Lib.hid na
  obtain ⟨m, hm⟩ : ∃ m, xs.length = m := ⟨_, rfl⟩
  obtain ⟨k, hk⟩ : ∃ k, ls.length = k := ⟨_, rfl⟩
  have HM := Lib.hid hm
  have HK := Lib.hid hk
  obtain ⟨IC, hic⟩ : ∃ c, infC v o n1 xs ls = c := ⟨_, rfl⟩
  obtain ⟨IV, hiv⟩ : ∃ c, infV v o n1 xs ls = c := ⟨_, rfl⟩
  obtain ⟨e1, he1⟩ : ∃ c, chkO v o n1 xs = c := ⟨_, rfl⟩
  have HIC := Lib.hid hic
  have HIV := Lib.hid hiv
  have HE1 := Lib.hid he1
  have HCK := Lib.hid (show ∀ X, Below w.heap.size w X → Calls Try.prog 14 #[.int .i64 v, .agg #[.int .i64 o, .slice a1 n1 c1, .slice a2 m c2]] X fun e w' => e = .returned (.int .i64 e1) ∧ Below X.heap.size X w' from fun X hX => by
    have h := checkR_any v (A.later hX) na hx (o := o) (a1 := a1) (n1 := n1) (c1 := c1)
    rw [hm, he1] at h
    exact h)
  have HBV := Lib.hid (show IC ≠ 0 → IV = [] from fun h => by rw [← hiv]; exact infV_bad (by rw [hic]; exact h))
  rw [hic, hiv, hm, hk]
  rw [hm] at hx
  rw [hk] at hl
  obtain ⟨W, hW⟩ : ∃ W, w.alloc (.cells #[.int .i64 o, .slice a1 n1 c1, .slice a2 m c2] 25) = W := ⟨_, rfl⟩
  have R0 : Row W w.heap.size 25 #[.int .i64 o, .slice a1 n1 c1, .slice a2 m c2] := by rw [← hW]; exact Row.new _ _ _
  have hbW : Below w.heap.size w W := by rw [← hW]; exact (Below.refl _ _).alloc (Nat.le_refl _) _
  have HR0 := Lib.hid R0
  obtain ⟨k0, k1, k2, _, _, _⟩ := R0.three
  clear hic hiv he1 hm hk A L na R0
  go_enter Try.func11, Try.ntmps11
  (try rw [hW])
  go_wp2_with fail
  (try rw [hW])
  clear hW
  refine (HCK.out _ hbW).mono ?_
  rintro e y1 ⟨rfl, hy⟩
  have B1 : Below W.heap.size W y1 := hy
  clear hy k0 k1 k2
  obtain ⟨k0, k1, k2, _, _, _⟩ := (HR0.out.later B1).three
  by_cases h1 : e1 = 0
  case neg =>
    have h1I : (e1 != 0) = true := by simpa using h1
    obtain rfl : IC = e1 := by rw [← HIC.out, ← HE1.out]; exact infC_chk (by rw [HE1.out]; exact h1)
    obtain rfl : IV = [] := HBV.out h1
    have bE : Below w.heap.size w y1 := hbW.trans (B1.mono hbW.size)
    clear h1
    go_wp2_with fail
    go_ret2
    exact ⟨none, 0, rfl, nil_argS _, bE⟩
  case pos =>
  subst h1
  have hb1 : Below w.heap.size w y1 := hbW.trans (B1.mono hbW.size)
  by_cases h2 : k = n1
  case neg =>
    have h2I : ((k : Int) != (n1 : Int)) = true := by simp; omega
    obtain rfl : IC = 10 := by rw [← HIC.out]; exact infC_few HE1.out (by rw [HK.out]; exact h2)
    obtain rfl : IV = [] := HBV.out (by decide)
    clear h2
    go_wp2_with fail
    go_ret2
    exact ⟨none, 0, rfl, nil_argS _, hb1⟩
  case pos =>
  have h2I : ((k : Int) != (n1 : Int)) = false := by simp; omega
  have HKM := Lib.hid h2
  clear h2
  go_wp2_with fail
  go_loopw [9, 10] (fun i _ wi => ∃ j : Nat, i = .int .i64 (j : Int) ∧ j ≤ k ∧ Hid (orL ((ls.take j).map mayC) = 0) ∧ Below y1.heap.size y1 wi) (fun i _ _ => k - (intOf i).toNat)
  case atStart => exact ⟨0, rfl, Nat.zero_le _, Lib.hid rfl, Below.refl _ _⟩
  case round =>
    rename World => wi
    obtain ⟨j, rfl, hj, hor, hbi⟩ := hrel
    have bwi : Below w.heap.size w wi := hb1.trans (hbi.mono hb1.size)
    have BWi : Below W.heap.size W wi := B1.trans (hbi.mono B1.size)
    clear k0 k1 k2
    by_cases hlt : j < k
    · have hltI : (j : Int) < (k : Int) := by omega
      have hj0 : (0 : Int) ≤ (j : Int) := by omega
      obtain ⟨b, o0, ax, cx, rfl, hbl, hcx, hAx, hnx⟩ := (HL.out.later bwi).at (i := j) (by rw [HK.out]; exact hlt)
      have hms := mayR6_any hAx
      obtain ⟨q, hq⟩ : ∃ q, mayC (shpI ls j) = q := ⟨_, rfl⟩
      obtain ⟨lx, hlx⟩ : ∃ l, (shpI ls j).length = l := ⟨_, rfl⟩
      rw [hq] at hms
      rw [hlx] at hms hcx
      have HQ := Lib.hid hq
      have HMS := Lib.hid hms
      clear hq hlx hms hAx
      go_wp2_with fail
      refine HMS.out.mono ?_
      rintro e w2 ⟨rfl, rfl⟩
      by_cases hq0 : q = 0
      · subst hq0
        go_wp2_with fail
        go_roundw
        case rel => exact ⟨j + 1, by go_num, by omega, Lib.hid (by rw [may_next (by rw [HK.out]; exact hlt), orL_snoc0 hor.out, HQ.out]), hbi⟩
        case measure => simp [intOf]; omega
      · have hqI : (q != 0) = true := by simpa using hq0
        obtain rfl : IC = q := by
          have h5 := may_stop (by rw [HK.out]; exact hlt) hor.out (by rw [HQ.out]; exact hq0)
          rw [HQ.out] at h5
          rw [← HIC.out, infC_may HE1.out (by rw [HK.out]; exact HKM.out) (by rw [h5]; exact hq0), h5]
        obtain rfl : IV = [] := HBV.out hq0
        clear hq0 hcx
        go_wp2_with fail
        (try rw [Exit.noGoto_ret])
        go_ret2
        exact ⟨none, 0, rfl, nil_argS _, bwi⟩
    · obtain rfl : j = k := by omega
      have hmay : orL (ls.map mayC) = 0 := by
        have h5 := hor.out
        rw [List.take_of_length_le (by rw [HK.out]; exact Nat.le_refl _)] at h5
        exact h5
      have hlen : ls.length = n1 := HK.out.trans HKM.out
      have hgd := good_of HE1.out (((shpI ls 0).length : Nat) : Int)
      have h18 := ar_one hgd
      have hk18 : 1 ≤ j ∧ j ≤ 8 := by rw [← HK.out, hlen]; exact h18
      have hci := com_inf HE1.out hlen hmay
      obtain ⟨att, hatt⟩ : ∃ l, attI v o n1 xs ls = l := ⟨_, rfl⟩
      rw [show expO v o n1 xs (((shpI ls 0).length : Nat) : Int) = att from hatt] at hgd
      rw [hatt, HIC.out] at hci
      obtain ⟨cm, hcm⟩ : ∃ c, comC o att ls = c := ⟨_, rfl⟩
      obtain ⟨vl, hvl⟩ : ∃ c, valI o att ls = c := ⟨_, rfl⟩
      rw [hcm, hvl] at hci
      obtain ⟨ea, hea⟩ : ∃ n, att.length = n := ⟨_, rfl⟩
      have HCO := Lib.hid (show ∀ X ad cap, Below w.heap.size w X → ArgS X (.slice ad ea cap) att ad cap → Calls Try.prog 31 #[.int .i64 o, .slice ad ea cap, .slice al j cl] X fun e w' => ∃ ad q cap, e = .returned (.tuple #[.slice ad q cap, .int .i64 cm]) ∧ (cm = 0 → ArgS w' (.slice ad q cap) vl ad cap) ∧ Below X.heap.size X w' from fun X ad cap hX hA => by
        have h5 := come_any (o := o) (by rw [hea]; exact hA : ArgS X (.slice ad att.length cap) att ad cap) (HL.out.later hX) hmay hgd hlen
        rw [hea, HK.out, hcm, hvl] at h5
        exact h5)
      have HIV2 := Lib.hid (show IC = 0 → IV = vl from fun h => by rw [← HIV.out, ← hvl, ← hatt]; unfold infV; rw [if_pos (by rw [HIC.out]; exact h)])
      have HCI := Lib.hid hci
      have HEA := Lib.hid hea
      obtain ⟨b, o0, ax, cx, rfl, hbl, hcx, hAx, hnx⟩ := (HL.out.later bwi).at (i := 0) (by rw [HK.out]; omega)
      rw [Nat.add_zero] at hcx
      obtain ⟨lx, hlx⟩ : ∃ l, (shpI ls 0).length = l := ⟨_, rfl⟩
      have HATT := Lib.hid (show expO v o n1 xs (lx : Int) = att by rw [← hatt, ← hlx]; rfl)
      rw [hlx] at hcx
      have MKR := Lib.hid (show ∀ X, Below wi.heap.size wi X → (fun X => X.cell? ⟨w.heap.size, 0, none⟩ = some (.int .i64 o) ∧ X.cell? ⟨w.heap.size, 1, none⟩ = some (.slice a1 n1 c1) ∧ X.cell? ⟨w.heap.size, 2, none⟩ = some (.slice a2 m c2) ∧ X.cell? ⟨b, o0, none⟩ = some (.slice ax lx cx)) X from fun X h => by
        obtain ⟨g0, g1, g2, _⟩ := (HR0.out.later (BWi.trans (h.mono BWi.size))).three
        exact ⟨g0, g1, g2, (h.cell hbl).trans hcx⟩)
      have Q0 : Below wi.heap.size wi wi.drew := (Below.refl _ _).drew
      have hjI : (0 : Int) < (j : Int) := by omega
      have hjn : 0 < j := by omega
      obtain ⟨k0, k1, k2, _, _, _⟩ := (HR0.out.later BWi).three
      clear hor hmay hlen hgd h18 hk18 hci hatt hcm hvl hea hcx hAx hnx hlx
      go_wp2_with fail
      refine wp_region_held_drew (S := fun X => X.cell? ⟨w.heap.size, 0, none⟩ = some (.int .i64 o) ∧ X.cell? ⟨w.heap.size, 1, none⟩ = some (.slice a1 n1 c1) ∧ X.cell? ⟨w.heap.size, 2, none⟩ = some (.slice a2 m c2) ∧ X.cell? ⟨b, o0, none⟩ = some (.slice ax lx cx)) (by kernel_rfl) (MKR.out _ Q0) (fun hHeld => ?_)
      obtain ⟨q0, hdrh⟩ : ∃ Y, wi.drew = Y := ⟨_, rfl⟩
      rw [hdrh] at Q0 hHeld ⊢
      clear hdrh
      refine todo [0, 1, 2, 3, 4, 5, 6, 7, 9] ?_
      iterate 9
       first
       | (refine todoH (v := ?_) rfl (by kernel_rfl) (fun _ _ _ h => h) (by assumption) (Or.inl ⟨by rfl, ?_⟩) ?_
          rotate_left
          · intro w hSw; (try dsimp only at hSw); go_simp; (try with_reducible rfl)
          try simp only [Act.put, List.getElem_toArray, List.getElem_cons_succ, List.getElem_cons_zero, List.setIfInBounds_toArray, List.set_cons_zero, List.set_cons_succ])
       | (refine todoH (v := undef) rfl (by kernel_rfl) (fun _ _ _ h => h) (by assumption) (Or.inr ⟨by rfl, rfl⟩) ?_
          try simp only [Act.put, List.getElem_toArray, List.getElem_cons_succ, List.getElem_cons_zero, List.setIfInBounds_toArray, List.set_cons_zero, List.set_cons_succ])
      refine todone ?_
      have bq0 : Below w.heap.size w q0 := bwi.trans (Q0.mono bwi.size)
      have hex := explicitRn_any v (lx : Int) (HA.out.later bq0) HNA.out HX0.out (o := o) (a1 := a1) (n1 := n1) (c1 := c1)
      rw [show expO v o n1 xs (lx : Int) = att from HATT.out, HM.out] at hex
      have HEX := Lib.hid hex
      clear hex
      refine wpAnyH_ready (rs := [8]) (by kernel_rfl) (by simp) ?_
      refine AllReadyH.cons rfl (fun K hK => ?sx8) AllReadyH.nil
      go_simp
      refine HEX.out.mono ?_
      rintro e q1 ⟨r, rfl, hr, hy⟩
      have Q1 : Below wi.heap.size wi q1 := Q0.trans (hy.mono Q0.size)
      have bq1 : Below w.heap.size w q1 := bwi.trans (Q1.mono bwi.size)
      obtain ⟨ar, cr, rfl, hr2⟩ : ∃ ar cr, r = .slice ar ea cr ∧ ArgS q1 (.slice ar ea cr) att ar cr := by
        rcases hr with ⟨rfl, h2⟩ | hr
        · refine ⟨a2, c2, by rw [← HEA.out, h2, HM.out], ?_⟩
          have h5 := HA.out.later bq1
          rw [← HEA.out, h2]
          exact h5
        · obtain ⟨ar, cr, rfl, hr3⟩ := res_slice11 hr
          refine ⟨ar, cr, by rw [HEA.out], ?_⟩
          have h5 := hr3.at_.2.1
          rw [HEA.out] at h5
          exact h5
      have HR2 := Lib.hid hr2
      clear hr hr2 hy
      go_simp
      refine hK.out _ _ (MKR.out _ Q1) (fun hHeld2 => ?mx8)
      clear hK K hHeld
      have hHeld := hHeld2
      clear hHeld2
      try simp only [Act.put, List.getElem_toArray, List.getElem_cons_succ, List.getElem_cons_zero, List.setIfInBounds_toArray, List.set_cons_zero, List.set_cons_succ]
      refine wpAnyH_ready (rs := [10]) (by kernel_rfl) (by simp) ?_
      refine AllReadyH.cons rfl (fun K hK => ?sx10) AllReadyH.nil
      go_simp
      refine (HCO.out _ _ _ bq1 HR2.out).mono ?_
      rintro e q2 ⟨rd, rq, rcp, rfl, hval, hy⟩
      have Q2 : Below wi.heap.size wi q2 := Q1.trans (hy.mono Q1.size)
      have bq2 : Below w.heap.size w q2 := bwi.trans (Q2.mono bwi.size)
      have HVA := Lib.hid hval
      clear hval hy
      go_simp
      refine hK.out _ _ (MKR.out _ Q2) (fun hHeld2 => ?mx10)
      clear hK K hHeld
      have hHeld := hHeld2
      clear hHeld2
      try simp only [Act.put, List.getElem_toArray, List.getElem_cons_succ, List.getElem_cons_zero, List.setIfInBounds_toArray, List.set_cons_zero, List.set_cons_succ]
      refine todo [11, 12, 13, 14, 15] ?_
      iterate 5
       first
       | (refine todoH (v := ?_) rfl (by kernel_rfl) (fun _ _ _ h => h) (by assumption) (Or.inl ⟨by rfl, ?_⟩) ?_
          rotate_left
          · intro w hSw; (try dsimp only at hSw); go_simp; (try with_reducible rfl)
          try simp only [Act.put, List.getElem_toArray, List.getElem_cons_succ, List.getElem_cons_zero, List.setIfInBounds_toArray, List.set_cons_zero, List.set_cons_succ])
       | (refine todoH (v := undef) rfl (by kernel_rfl) (fun _ _ _ h => h) (by assumption) (Or.inr ⟨by rfl, rfl⟩) ?_
          try simp only [Act.put, List.getElem_toArray, List.getElem_cons_succ, List.getElem_cons_zero, List.setIfInBounds_toArray, List.set_cons_zero, List.set_cons_succ])
      refine todone ?_
      refine wpAnyH_done (by kernel_rfl) ?_ _
      (try dsimp only [Straight])
      clear hHeld k0 k1 k2
      by_cases h5 : cm = 0
      case neg =>
        have h5I : (cm != 0) = true := by simpa using h5
        obtain rfl : IC = cm := by rw [HCI.out, if_pos h5]
        obtain rfl : IV = [] := HBV.out h5
        clear h5
        go_wp2_with fail
        go_ret2
        exact ⟨none, 0, rfl, nil_argS _, bq2⟩
      case pos =>
        subst h5
        have hva := HVA.out rfl
        obtain rfl : rq = vl.length := by have h6 := hva.is; simpa using h6
        have hms := mayR6_any hva
        obtain ⟨f1, hf1⟩ : ∃ c, mayC vl = c := ⟨_, rfl⟩
        obtain ⟨lv, hlv⟩ : ∃ n, vl.length = n := ⟨_, rfl⟩
        rw [hf1] at hms
        rw [hlv] at hms hva ⊢
        have HF1 := Lib.hid hf1
        have HLV := Lib.hid hlv
        have HMS := Lib.hid hms
        have HV2 := Lib.hid hva
        clear hms hf1 hva hlv
        go_wp2_with fail
        refine HMS.out.mono ?_
        rintro e w3 ⟨rfl, rfl⟩
        by_cases h6 : f1 = 0
        case neg =>
          have h6I : (f1 != 0) = true := by simpa using h6
          obtain rfl : IC = 14 := by rw [HCI.out, if_neg (by simp), if_pos (by rw [HF1.out]; exact h6)]
          obtain rfl : IV = [] := HBV.out (by decide)
          clear h6
          go_wp2_with fail
          go_ret2
          exact ⟨none, 0, rfl, nil_argS _, bq2⟩
        case pos =>
          subst h6
          obtain rfl : IC = 0 := by rw [HCI.out, if_neg (by simp), if_neg (by rw [HF1.out]; simp)]
          obtain rfl : IV = vl := HIV2.out rfl
          go_wp2_with fail
          go_ret2
          refine ⟨rd, rcp, (by rw [HLV.out]; rfl), ?_, bq2⟩
          rw [HLV.out]
          exact HV2.out
end
end Go.Proofs.Ytdcggcfgkhlblaa
