/-
  Part 20 of 29: contracts and what they rest on (ICode5).
-/
import Derived.Test.YtjgiacghlkkjfaaGreatDoorF1
import Derived.Test.YtjgiacghlkkjfaaGreatDoorF2
import Derived.Test.YtjgiacghlkkjfaaGreatDoorF3
import Derived.Test.YtjgiacghlkkjfaaGreatDoorF4
import Derived.Test.YtjgiacghlkkjfaaGreatDoorF5
import Derived.Test.YtjgiacghlkkjfaaGreatDoorF6
import Derived.Test.YtjgiacghlkkjfaaGreatDoorF7
import Derived.Test.YtjgiacghlkkjfaaGreatDoorF8
import Derived.Test.YtjgiacghlkkjfaaGreatDoorF9
import Derived.Test.YtjgiacghlkkjfaaGreatDoorF11
import Derived.Test.YtjgiacghlkkjfaaGreatDoorF13
import Derived.Test.YtjgiacghlkkjfaaGreatDoorF14
import Derived.Test.YtjgiacghlkkjfaaGreatDoorF17
import Derived.Test.YtjgiacghlkkjfaaGreatDoorF18
import Derived.WalkKit
import Derived.Test.YtjgiacghlkkjfaaGreatDoorRows
import Derived.OrdersHeld
import Derived.Deep.RegionHeld
import Derived.BigQuiet
import Derived.Deep.QuietTactic
import Derived.Lib.Hide
import Derived.Lib.Small
import Derived.Lib.Walk
import Derived.Lib.BitFns
import Derived.Maps.AppendAt
import Derived.RangeFuncNested
import Derived.RangeFuncBound
import Derived.RangeFuncCalls
import Derived.RangeFuncLeaves
import Derived.Shelf.Abstract
import Derived.OwnWalkIn
import Derived.TacticsInMore
import Derived.LoopNIn
import Derived.LoopIn
import Derived.RangeFuncBox
import Derived.Deep.RegionHeld3
import Derived.OrdersIn
import Derived.StillTailTactics
import Derived.RangeFuncFrom
import Derived.Laws.EntriesVeiled
import Derived.ProofKit
import Derived.OpenShut
import Derived.JoinedCond
import Derived.Carry
import Derived.Laws.AppendOwnNone
import Derived.Lib.ItoaNum
import Derived.Deep.RegionLaw
import Derived.WalkMore
import Derived.Lib.SmallJoins
import Derived.IntWalk
import Derived.Deep.DeepCutAuto
import Derived.Laws.OwnMore
import Derived.ArgAppend
import Derived.Deep.Slices
import Derived.Laws.CopyOwn
import Derived.Lib.SliceRun
import Derived.SizedLaws
import Derived.Great.BuildSlice
namespace Go.Proofs.YtjgiacghlkkjfaaGreatDoor
set_option maxRecDepth 100000
section
open Go.RowKit
set_option linter.unusedVariables false
set_option linter.unusedSimpArgs false
set_option maxRecDepth 100000 in
set_option maxHeartbeats 8000000 in
theorem holds1_any {xs : List Int} {ls : List (List Int)} {a2 al : Option Addr} {c2 cl : Nat} {w : World} (A : ArgS w (.slice a2 xs.length c2) xs a2 c2) (na : a2 = none → c2 = 0) (hx : xs.length ≤ 1000) (L : RowL w (.slice al ls.length cl) ls al cl) (ok : ∀ x ∈ ls, OkS x) (hl : ls.length ≤ 1000){v : Int} {n : Nat} (g : GoodO v 1 n xs) (hn : ls.length = n) : Calls Tryz.prog 152 #[.agg #[.int .i64 1, .slice a2 xs.length c2, .slice al ls.length cl]] w fun e w' => e = .returned (.bool (holdI 1 xs ls)) ∧ Below w.heap.size w w' := by
  obtain ⟨c, hc⟩ : ∃ c, holdI 1 xs ls = c := ⟨_, rfl⟩
  rw [hc]
  have HC := Lib.hid hc
  clear hc
  have HA := Lib.hid A
  have HL := Lib.hid L
  have HOK := Lib.hid ok
  obtain ⟨m, hm⟩ : ∃ m, xs.length = m := ⟨_, rfl⟩
  obtain ⟨k, hk⟩ : ∃ k, ls.length = k := ⟨_, rfl⟩
  have HM := Lib.hid hm
  have HK := Lib.hid hk
  rw [hm] at hx ⊢
  rw [hk] at hl ⊢
  obtain ⟨W, hW⟩ : ∃ W, w.alloc (.cells #[.int .i64 1, .slice a2 m c2, .slice al k cl] 189) = W := ⟨_, rfl⟩
  have R0 : Row W w.heap.size 189 #[.int .i64 1, .slice a2 m c2, .slice al k cl] := by rw [← hW]; exact Row.new _ _ _
  have hbW : Below w.heap.size w W := by rw [← hW]; exact (Below.refl _ _).alloc (Nat.le_refl _) _
  obtain ⟨k0, k1, k2, _, _, _⟩ := R0.three
  clear A L ok hm hk
  have hk1 : 0 < k := by rw [← HK.out, hn]; have := (ar_one g).1; omega
  have hk1I : (0 : Int) < (k : Int) := by omega
  have okx := HOK.out _ (shp_in (i := 0) (by rw [HK.out]; omega))
  obtain ⟨b, o0, ax, cx, rfl, hbl, hcx, hAx, hnx⟩ := (HL.out.later hbW).at (i := 0) (by rw [HK.out]; omega)
  rw [Nat.add_zero] at hcx
  obtain ⟨x, hxe⟩ : ∃ x, shpI ls 0 = x := ⟨_, rfl⟩
  rw [hxe] at okx hcx hAx
  have hrk := okx.rank
  obtain ⟨lx, hlx⟩ : ∃ l, x.length = l := ⟨_, rfl⟩
  rw [hlx] at hcx hrk
  have HXE := Lib.hid hxe
  have HLX := Lib.hid hlx
  have HAX := Lib.hid hAx
  have HOX := Lib.hid okx
  have HR0 := Lib.hid R0
  have HNA := Lib.hid na
  have HG := Lib.hid g
  have HN := Lib.hid hn
  have HAW := Lib.hid (HA.out.later hbW)
  have HLW := Lib.hid (HL.out.later hbW)
  clear hxe hlx hAx okx R0 na g hn
  have hk2 : 1 < k := by rw [← HK.out, HN.out]; have := ar_two HG.out (by simp); omega
  have hk2I : (1 : Int) < (k : Int) := by omega
  have oky := HOK.out _ (shp_in (i := 1) (by rw [HK.out]; omega))
  obtain ⟨b', o', ay, cy, he, hbl2, hcy, hAy, hny⟩ := HLW.out.at (i := 1) (by rw [HK.out]; omega)
  cases he
  obtain ⟨y, hye⟩ : ∃ y, shpI ls 1 = y := ⟨_, rfl⟩
  rw [hye] at oky hcy hAy
  have hrky := oky.rank
  obtain ⟨ly, hly⟩ : ∃ l, y.length = l := ⟨_, rfl⟩
  rw [hly] at hcy hrky
  have HYE := Lib.hid hye
  have HLY := Lib.hid hly
  have HAY := Lib.hid hAy
  have HOY := Lib.hid oky
  clear hye hly hAy oky
  have hco : decide (y = x) = c := by rw [← HYE.out, ← HXE.out]; exact HC.out
  have hss := sameS_any HAY.out HAX.out hny hnx (by rw [HLY.out]; omega) (by rw [HLX.out]; omega)
  rw [HLY.out, HLX.out, hco] at hss
  have HSS := Lib.hid hss
  clear hss hco
  go_enter Tryz.func152, Tryz.ntmps152
  (try rw [hW])
  go_wp2_with fail
  (try rw [hW])
  clear hW
  refine (HSS.out).mono ?_
  rintro e w2 ⟨rfl, hy⟩
  have B2 : Below w.heap.size w w2 := hbW.trans (hy.mono hbW.size)
  clear hy
  go_wp2_with fail
  go_ret
  exact ⟨rfl, B2⟩
set_option maxRecDepth 100000 in
set_option maxHeartbeats 8000000 in
theorem holds2_any {xs : List Int} {ls : List (List Int)} {a2 al : Option Addr} {c2 cl : Nat} {w : World} (A : ArgS w (.slice a2 xs.length c2) xs a2 c2) (na : a2 = none → c2 = 0) (hx : xs.length ≤ 1000) (L : RowL w (.slice al ls.length cl) ls al cl) (ok : ∀ x ∈ ls, OkS x) (hl : ls.length ≤ 1000){v : Int} {n : Nat} (g : GoodO v 2 n xs) (hn : ls.length = n) : Calls Tryz.prog 152 #[.agg #[.int .i64 2, .slice a2 xs.length c2, .slice al ls.length cl]] w fun e w' => e = .returned (.bool (holdI 2 xs ls)) ∧ Below w.heap.size w w' := by
  obtain ⟨c, hc⟩ : ∃ c, holdI 2 xs ls = c := ⟨_, rfl⟩
  rw [hc]
  have HC := Lib.hid hc
  clear hc
  have HA := Lib.hid A
  have HL := Lib.hid L
  have HOK := Lib.hid ok
  obtain ⟨m, hm⟩ : ∃ m, xs.length = m := ⟨_, rfl⟩
  obtain ⟨k, hk⟩ : ∃ k, ls.length = k := ⟨_, rfl⟩
  have HM := Lib.hid hm
  have HK := Lib.hid hk
  rw [hm] at hx ⊢
  rw [hk] at hl ⊢
  obtain ⟨W, hW⟩ : ∃ W, w.alloc (.cells #[.int .i64 2, .slice a2 m c2, .slice al k cl] 189) = W := ⟨_, rfl⟩
  have R0 : Row W w.heap.size 189 #[.int .i64 2, .slice a2 m c2, .slice al k cl] := by rw [← hW]; exact Row.new _ _ _
  have hbW : Below w.heap.size w W := by rw [← hW]; exact (Below.refl _ _).alloc (Nat.le_refl _) _
  obtain ⟨k0, k1, k2, _, _, _⟩ := R0.three
  clear A L ok hm hk
  have hk1 : 0 < k := by rw [← HK.out, hn]; have := (ar_one g).1; omega
  have hk1I : (0 : Int) < (k : Int) := by omega
  have okx := HOK.out _ (shp_in (i := 0) (by rw [HK.out]; omega))
  obtain ⟨b, o0, ax, cx, rfl, hbl, hcx, hAx, hnx⟩ := (HL.out.later hbW).at (i := 0) (by rw [HK.out]; omega)
  rw [Nat.add_zero] at hcx
  obtain ⟨x, hxe⟩ : ∃ x, shpI ls 0 = x := ⟨_, rfl⟩
  rw [hxe] at okx hcx hAx
  have hrk := okx.rank
  obtain ⟨lx, hlx⟩ : ∃ l, x.length = l := ⟨_, rfl⟩
  rw [hlx] at hcx hrk
  have HXE := Lib.hid hxe
  have HLX := Lib.hid hlx
  have HAX := Lib.hid hAx
  have HOX := Lib.hid okx
  have HR0 := Lib.hid R0
  have HNA := Lib.hid na
  have HG := Lib.hid g
  have HN := Lib.hid hn
  have HAW := Lib.hid (HA.out.later hbW)
  have HLW := Lib.hid (HL.out.later hbW)
  clear hxe hlx hAx okx R0 na g hn
  have hk2 : 1 < k := by rw [← HK.out, HN.out]; have := ar_two HG.out (by simp); omega
  have hk2I : (1 : Int) < (k : Int) := by omega
  have oky := HOK.out _ (shp_in (i := 1) (by rw [HK.out]; omega))
  obtain ⟨b', o', ay, cy, he, hbl2, hcy, hAy, hny⟩ := HLW.out.at (i := 1) (by rw [HK.out]; omega)
  cases he
  obtain ⟨y, hye⟩ : ∃ y, shpI ls 1 = y := ⟨_, rfl⟩
  rw [hye] at oky hcy hAy
  have hrky := oky.rank
  obtain ⟨ly, hly⟩ : ∃ l, y.length = l := ⟨_, rfl⟩
  rw [hly] at hcy hrky
  have HYE := Lib.hid hye
  have HLY := Lib.hid hly
  have HAY := Lib.hid hAy
  have HOY := Lib.hid oky
  clear hye hly hAy oky
  have hco : decide (y = x) = c := by rw [← HYE.out, ← HXE.out]; exact HC.out
  have hss := sameS_any HAY.out HAX.out hny hnx (by rw [HLY.out]; omega) (by rw [HLX.out]; omega)
  rw [HLY.out, HLX.out, hco] at hss
  have HSS := Lib.hid hss
  clear hss hco
  go_enter Tryz.func152, Tryz.ntmps152
  (try rw [hW])
  go_wp2_with fail
  (try rw [hW])
  clear hW
  refine (HSS.out).mono ?_
  rintro e w2 ⟨rfl, hy⟩
  have B2 : Below w.heap.size w w2 := hbW.trans (hy.mono hbW.size)
  clear hy
  go_wp2_with fail
  go_ret
  exact ⟨rfl, B2⟩
set_option maxRecDepth 100000 in
set_option maxHeartbeats 8000000 in
theorem holds3_any {xs : List Int} {ls : List (List Int)} {a2 al : Option Addr} {c2 cl : Nat} {w : World} (A : ArgS w (.slice a2 xs.length c2) xs a2 c2) (na : a2 = none → c2 = 0) (hx : xs.length ≤ 1000) (L : RowL w (.slice al ls.length cl) ls al cl) (ok : ∀ x ∈ ls, OkS x) (hl : ls.length ≤ 1000){v : Int} {n : Nat} (g : GoodO v 3 n xs) (hn : ls.length = n) : Calls Tryz.prog 152 #[.agg #[.int .i64 3, .slice a2 xs.length c2, .slice al ls.length cl]] w fun e w' => e = .returned (.bool (holdI 3 xs ls)) ∧ Below w.heap.size w w' := by
  obtain ⟨c, hc⟩ : ∃ c, holdI 3 xs ls = c := ⟨_, rfl⟩
  rw [hc]
  have HC := Lib.hid hc
  clear hc
  have HA := Lib.hid A
  have HL := Lib.hid L
  have HOK := Lib.hid ok
  obtain ⟨m, hm⟩ : ∃ m, xs.length = m := ⟨_, rfl⟩
  obtain ⟨k, hk⟩ : ∃ k, ls.length = k := ⟨_, rfl⟩
  have HM := Lib.hid hm
  have HK := Lib.hid hk
  rw [hm] at hx ⊢
  rw [hk] at hl ⊢
  obtain ⟨W, hW⟩ : ∃ W, w.alloc (.cells #[.int .i64 3, .slice a2 m c2, .slice al k cl] 189) = W := ⟨_, rfl⟩
  have R0 : Row W w.heap.size 189 #[.int .i64 3, .slice a2 m c2, .slice al k cl] := by rw [← hW]; exact Row.new _ _ _
  have hbW : Below w.heap.size w W := by rw [← hW]; exact (Below.refl _ _).alloc (Nat.le_refl _) _
  obtain ⟨k0, k1, k2, _, _, _⟩ := R0.three
  clear A L ok hm hk
  have hk1 : 0 < k := by rw [← HK.out, hn]; have := (ar_one g).1; omega
  have hk1I : (0 : Int) < (k : Int) := by omega
  have okx := HOK.out _ (shp_in (i := 0) (by rw [HK.out]; omega))
  obtain ⟨b, o0, ax, cx, rfl, hbl, hcx, hAx, hnx⟩ := (HL.out.later hbW).at (i := 0) (by rw [HK.out]; omega)
  rw [Nat.add_zero] at hcx
  obtain ⟨x, hxe⟩ : ∃ x, shpI ls 0 = x := ⟨_, rfl⟩
  rw [hxe] at okx hcx hAx
  have hrk := okx.rank
  obtain ⟨lx, hlx⟩ : ∃ l, x.length = l := ⟨_, rfl⟩
  rw [hlx] at hcx hrk
  have HXE := Lib.hid hxe
  have HLX := Lib.hid hlx
  have HAX := Lib.hid hAx
  have HOX := Lib.hid okx
  have HR0 := Lib.hid R0
  have HNA := Lib.hid na
  have HG := Lib.hid g
  have HN := Lib.hid hn
  have HAW := Lib.hid (HA.out.later hbW)
  have HLW := Lib.hid (HL.out.later hbW)
  clear hxe hlx hAx okx R0 na g hn
  have hk2 : 1 < k := by rw [← HK.out, HN.out]; have := ar_two HG.out (by simp); omega
  have hk2I : (1 : Int) < (k : Int) := by omega
  have oky := HOK.out _ (shp_in (i := 1) (by rw [HK.out]; omega))
  obtain ⟨b', o', ay, cy, he, hbl2, hcy, hAy, hny⟩ := HLW.out.at (i := 1) (by rw [HK.out]; omega)
  cases he
  obtain ⟨y, hye⟩ : ∃ y, shpI ls 1 = y := ⟨_, rfl⟩
  rw [hye] at oky hcy hAy
  have hrky := oky.rank
  obtain ⟨ly, hly⟩ : ∃ l, y.length = l := ⟨_, rfl⟩
  rw [hly] at hcy hrky
  have HYE := Lib.hid hye
  have HLY := Lib.hid hly
  have HAY := Lib.hid hAy
  have HOY := Lib.hid oky
  clear hye hly hAy oky
  have hco : decide (y = x) = c := by rw [← HYE.out, ← HXE.out]; exact HC.out
  have hss := sameS_any HAY.out HAX.out hny hnx (by rw [HLY.out]; omega) (by rw [HLX.out]; omega)
  rw [HLY.out, HLX.out, hco] at hss
  have HSS := Lib.hid hss
  clear hss hco
  go_enter Tryz.func152, Tryz.ntmps152
  (try rw [hW])
  go_wp2_with fail
  (try rw [hW])
  clear hW
  refine (HSS.out).mono ?_
  rintro e w2 ⟨rfl, hy⟩
  have B2 : Below w.heap.size w w2 := hbW.trans (hy.mono hbW.size)
  clear hy
  go_wp2_with fail
  go_ret
  exact ⟨rfl, B2⟩
set_option maxRecDepth 100000 in
set_option maxHeartbeats 8000000 in
theorem holds4_any {xs : List Int} {ls : List (List Int)} {a2 al : Option Addr} {c2 cl : Nat} {w : World} (A : ArgS w (.slice a2 xs.length c2) xs a2 c2) (na : a2 = none → c2 = 0) (hx : xs.length ≤ 1000) (L : RowL w (.slice al ls.length cl) ls al cl) (ok : ∀ x ∈ ls, OkS x) (hl : ls.length ≤ 1000){v : Int} {n : Nat} (g : GoodO v 4 n xs) (hn : ls.length = n) : Calls Tryz.prog 152 #[.agg #[.int .i64 4, .slice a2 xs.length c2, .slice al ls.length cl]] w fun e w' => e = .returned (.bool (holdI 4 xs ls)) ∧ Below w.heap.size w w' := by
  obtain ⟨c, hc⟩ : ∃ c, holdI 4 xs ls = c := ⟨_, rfl⟩
  rw [hc]
  have HC := Lib.hid hc
  clear hc
  have HA := Lib.hid A
  have HL := Lib.hid L
  have HOK := Lib.hid ok
  obtain ⟨m, hm⟩ : ∃ m, xs.length = m := ⟨_, rfl⟩
  obtain ⟨k, hk⟩ : ∃ k, ls.length = k := ⟨_, rfl⟩
  have HM := Lib.hid hm
  have HK := Lib.hid hk
  rw [hm] at hx ⊢
  rw [hk] at hl ⊢
  obtain ⟨W, hW⟩ : ∃ W, w.alloc (.cells #[.int .i64 4, .slice a2 m c2, .slice al k cl] 189) = W := ⟨_, rfl⟩
  have R0 : Row W w.heap.size 189 #[.int .i64 4, .slice a2 m c2, .slice al k cl] := by rw [← hW]; exact Row.new _ _ _
  have hbW : Below w.heap.size w W := by rw [← hW]; exact (Below.refl _ _).alloc (Nat.le_refl _) _
  obtain ⟨k0, k1, k2, _, _, _⟩ := R0.three
  clear A L ok hm hk
  have hk1 : 0 < k := by rw [← HK.out, hn]; have := (ar_one g).1; omega
  have hk1I : (0 : Int) < (k : Int) := by omega
  have okx := HOK.out _ (shp_in (i := 0) (by rw [HK.out]; omega))
  obtain ⟨b, o0, ax, cx, rfl, hbl, hcx, hAx, hnx⟩ := (HL.out.later hbW).at (i := 0) (by rw [HK.out]; omega)
  rw [Nat.add_zero] at hcx
  obtain ⟨x, hxe⟩ : ∃ x, shpI ls 0 = x := ⟨_, rfl⟩
  rw [hxe] at okx hcx hAx
  have hrk := okx.rank
  obtain ⟨lx, hlx⟩ : ∃ l, x.length = l := ⟨_, rfl⟩
  rw [hlx] at hcx hrk
  have HXE := Lib.hid hxe
  have HLX := Lib.hid hlx
  have HAX := Lib.hid hAx
  have HOX := Lib.hid okx
  have HR0 := Lib.hid R0
  have HNA := Lib.hid na
  have HG := Lib.hid g
  have HN := Lib.hid hn
  have HAW := Lib.hid (HA.out.later hbW)
  have HLW := Lib.hid (HL.out.later hbW)
  clear hxe hlx hAx okx R0 na g hn
  have hk2 : 1 < k := by rw [← HK.out, HN.out]; have := ar_two HG.out (by simp); omega
  have hk2I : (1 : Int) < (k : Int) := by omega
  have oky := HOK.out _ (shp_in (i := 1) (by rw [HK.out]; omega))
  obtain ⟨b', o', ay, cy, he, hbl2, hcy, hAy, hny⟩ := HLW.out.at (i := 1) (by rw [HK.out]; omega)
  cases he
  obtain ⟨y, hye⟩ : ∃ y, shpI ls 1 = y := ⟨_, rfl⟩
  rw [hye] at oky hcy hAy
  have hrky := oky.rank
  obtain ⟨ly, hly⟩ : ∃ l, y.length = l := ⟨_, rfl⟩
  rw [hly] at hcy hrky
  have HYE := Lib.hid hye
  have HLY := Lib.hid hly
  have HAY := Lib.hid hAy
  have HOY := Lib.hid oky
  clear hye hly hAy oky
  have hco : decide (y = x) = c := by rw [← HYE.out, ← HXE.out]; exact HC.out
  have hss := sameS_any HAY.out HAX.out hny hnx (by rw [HLY.out]; omega) (by rw [HLX.out]; omega)
  rw [HLY.out, HLX.out, hco] at hss
  have HSS := Lib.hid hss
  clear hss hco
  go_enter Tryz.func152, Tryz.ntmps152
  (try rw [hW])
  go_wp2_with fail
  (try rw [hW])
  clear hW
  refine (HSS.out).mono ?_
  rintro e w2 ⟨rfl, hy⟩
  have B2 : Below w.heap.size w w2 := hbW.trans (hy.mono hbW.size)
  clear hy
  go_wp2_with fail
  go_ret
  exact ⟨rfl, B2⟩
set_option maxRecDepth 100000 in
set_option maxHeartbeats 8000000 in
theorem holds5_any {xs : List Int} {ls : List (List Int)} {a2 al : Option Addr} {c2 cl : Nat} {w : World} (A : ArgS w (.slice a2 xs.length c2) xs a2 c2) (na : a2 = none → c2 = 0) (hx : xs.length ≤ 1000) (L : RowL w (.slice al ls.length cl) ls al cl) (ok : ∀ x ∈ ls, OkS x) (hl : ls.length ≤ 1000){v : Int} {n : Nat} (g : GoodO v 5 n xs) (hn : ls.length = n) : Calls Tryz.prog 152 #[.agg #[.int .i64 5, .slice a2 xs.length c2, .slice al ls.length cl]] w fun e w' => e = .returned (.bool (holdI 5 xs ls)) ∧ Below w.heap.size w w' := by
  obtain ⟨c, hc⟩ : ∃ c, holdI 5 xs ls = c := ⟨_, rfl⟩
  rw [hc]
  have HC := Lib.hid hc
  clear hc
  have HA := Lib.hid A
  have HL := Lib.hid L
  have HOK := Lib.hid ok
  obtain ⟨m, hm⟩ : ∃ m, xs.length = m := ⟨_, rfl⟩
  obtain ⟨k, hk⟩ : ∃ k, ls.length = k := ⟨_, rfl⟩
  have HM := Lib.hid hm
  have HK := Lib.hid hk
  rw [hm] at hx ⊢
  rw [hk] at hl ⊢
  obtain ⟨W, hW⟩ : ∃ W, w.alloc (.cells #[.int .i64 5, .slice a2 m c2, .slice al k cl] 189) = W := ⟨_, rfl⟩
  have R0 : Row W w.heap.size 189 #[.int .i64 5, .slice a2 m c2, .slice al k cl] := by rw [← hW]; exact Row.new _ _ _
  have hbW : Below w.heap.size w W := by rw [← hW]; exact (Below.refl _ _).alloc (Nat.le_refl _) _
  obtain ⟨k0, k1, k2, _, _, _⟩ := R0.three
  clear A L ok hm hk
  have hk1 : 0 < k := by rw [← HK.out, hn]; have := (ar_one g).1; omega
  have hk1I : (0 : Int) < (k : Int) := by omega
  have okx := HOK.out _ (shp_in (i := 0) (by rw [HK.out]; omega))
  obtain ⟨b, o0, ax, cx, rfl, hbl, hcx, hAx, hnx⟩ := (HL.out.later hbW).at (i := 0) (by rw [HK.out]; omega)
  rw [Nat.add_zero] at hcx
  obtain ⟨x, hxe⟩ : ∃ x, shpI ls 0 = x := ⟨_, rfl⟩
  rw [hxe] at okx hcx hAx
  have hrk := okx.rank
  obtain ⟨lx, hlx⟩ : ∃ l, x.length = l := ⟨_, rfl⟩
  rw [hlx] at hcx hrk
  have HXE := Lib.hid hxe
  have HLX := Lib.hid hlx
  have HAX := Lib.hid hAx
  have HOX := Lib.hid okx
  have HR0 := Lib.hid R0
  have HNA := Lib.hid na
  have HG := Lib.hid g
  have HN := Lib.hid hn
  have HAW := Lib.hid (HA.out.later hbW)
  have HLW := Lib.hid (HL.out.later hbW)
  clear hxe hlx hAx okx R0 na g hn
  obtain rfl : c = true := by rw [← HC.out]; rfl
  go_enter Tryz.func152, Tryz.ntmps152
  (try rw [hW])
  go_wp2_with fail
  (try rw [hW])
  go_ret
  exact ⟨rfl, hbW⟩
set_option maxRecDepth 100000 in
set_option maxHeartbeats 8000000 in
theorem holds6_any {xs : List Int} {ls : List (List Int)} {a2 al : Option Addr} {c2 cl : Nat} {w : World} (A : ArgS w (.slice a2 xs.length c2) xs a2 c2) (na : a2 = none → c2 = 0) (hx : xs.length ≤ 1000) (L : RowL w (.slice al ls.length cl) ls al cl) (ok : ∀ x ∈ ls, OkS x) (hl : ls.length ≤ 1000){v : Int} {n : Nat} (g : GoodO v 6 n xs) (hn : ls.length = n) : Calls Tryz.prog 152 #[.agg #[.int .i64 6, .slice a2 xs.length c2, .slice al ls.length cl]] w fun e w' => e = .returned (.bool (holdI 6 xs ls)) ∧ Below w.heap.size w w' := by
  obtain ⟨c, hc⟩ : ∃ c, holdI 6 xs ls = c := ⟨_, rfl⟩
  rw [hc]
  have HC := Lib.hid hc
  clear hc
  have HA := Lib.hid A
  have HL := Lib.hid L
  have HOK := Lib.hid ok
  obtain ⟨m, hm⟩ : ∃ m, xs.length = m := ⟨_, rfl⟩
  obtain ⟨k, hk⟩ : ∃ k, ls.length = k := ⟨_, rfl⟩
  have HM := Lib.hid hm
  have HK := Lib.hid hk
  rw [hm] at hx ⊢
  rw [hk] at hl ⊢
  obtain ⟨W, hW⟩ : ∃ W, w.alloc (.cells #[.int .i64 6, .slice a2 m c2, .slice al k cl] 189) = W := ⟨_, rfl⟩
  have R0 : Row W w.heap.size 189 #[.int .i64 6, .slice a2 m c2, .slice al k cl] := by rw [← hW]; exact Row.new _ _ _
  have hbW : Below w.heap.size w W := by rw [← hW]; exact (Below.refl _ _).alloc (Nat.le_refl _) _
  obtain ⟨k0, k1, k2, _, _, _⟩ := R0.three
  clear A L ok hm hk
  have hk1 : 0 < k := by rw [← HK.out, hn]; have := (ar_one g).1; omega
  have hk1I : (0 : Int) < (k : Int) := by omega
  have okx := HOK.out _ (shp_in (i := 0) (by rw [HK.out]; omega))
  obtain ⟨b, o0, ax, cx, rfl, hbl, hcx, hAx, hnx⟩ := (HL.out.later hbW).at (i := 0) (by rw [HK.out]; omega)
  rw [Nat.add_zero] at hcx
  obtain ⟨x, hxe⟩ : ∃ x, shpI ls 0 = x := ⟨_, rfl⟩
  rw [hxe] at okx hcx hAx
  have hrk := okx.rank
  obtain ⟨lx, hlx⟩ : ∃ l, x.length = l := ⟨_, rfl⟩
  rw [hlx] at hcx hrk
  have HXE := Lib.hid hxe
  have HLX := Lib.hid hlx
  have HAX := Lib.hid hAx
  have HOX := Lib.hid okx
  have HR0 := Lib.hid R0
  have HNA := Lib.hid na
  have HG := Lib.hid g
  have HN := Lib.hid hn
  have HAW := Lib.hid (HA.out.later hbW)
  have HLW := Lib.hid (HL.out.later hbW)
  clear hxe hlx hAx okx R0 na g hn
  obtain rfl : c = true := by rw [← HC.out]; rfl
  go_enter Tryz.func152, Tryz.ntmps152
  (try rw [hW])
  go_wp2_with fail
  (try rw [hW])
  go_ret
  exact ⟨rfl, hbW⟩
set_option maxRecDepth 100000 in
set_option maxHeartbeats 8000000 in
theorem holds7_any {xs : List Int} {ls : List (List Int)} {a2 al : Option Addr} {c2 cl : Nat} {w : World} (A : ArgS w (.slice a2 xs.length c2) xs a2 c2) (na : a2 = none → c2 = 0) (hx : xs.length ≤ 1000) (L : RowL w (.slice al ls.length cl) ls al cl) (ok : ∀ x ∈ ls, OkS x) (hl : ls.length ≤ 1000){v : Int} {n : Nat} (g : GoodO v 7 n xs) (hn : ls.length = n) : Calls Tryz.prog 152 #[.agg #[.int .i64 7, .slice a2 xs.length c2, .slice al ls.length cl]] w fun e w' => e = .returned (.bool (holdI 7 xs ls)) ∧ Below w.heap.size w w' := by
  obtain ⟨c, hc⟩ : ∃ c, holdI 7 xs ls = c := ⟨_, rfl⟩
  rw [hc]
  have HC := Lib.hid hc
  clear hc
  have HA := Lib.hid A
  have HL := Lib.hid L
  have HOK := Lib.hid ok
  obtain ⟨m, hm⟩ : ∃ m, xs.length = m := ⟨_, rfl⟩
  obtain ⟨k, hk⟩ : ∃ k, ls.length = k := ⟨_, rfl⟩
  have HM := Lib.hid hm
  have HK := Lib.hid hk
  rw [hm] at hx ⊢
  rw [hk] at hl ⊢
  obtain ⟨W, hW⟩ : ∃ W, w.alloc (.cells #[.int .i64 7, .slice a2 m c2, .slice al k cl] 189) = W := ⟨_, rfl⟩
  have R0 : Row W w.heap.size 189 #[.int .i64 7, .slice a2 m c2, .slice al k cl] := by rw [← hW]; exact Row.new _ _ _
  have hbW : Below w.heap.size w W := by rw [← hW]; exact (Below.refl _ _).alloc (Nat.le_refl _) _
  obtain ⟨k0, k1, k2, _, _, _⟩ := R0.three
  clear A L ok hm hk
  have hk1 : 0 < k := by rw [← HK.out, hn]; have := (ar_one g).1; omega
  have hk1I : (0 : Int) < (k : Int) := by omega
  have okx := HOK.out _ (shp_in (i := 0) (by rw [HK.out]; omega))
  obtain ⟨b, o0, ax, cx, rfl, hbl, hcx, hAx, hnx⟩ := (HL.out.later hbW).at (i := 0) (by rw [HK.out]; omega)
  rw [Nat.add_zero] at hcx
  obtain ⟨x, hxe⟩ : ∃ x, shpI ls 0 = x := ⟨_, rfl⟩
  rw [hxe] at okx hcx hAx
  have hrk := okx.rank
  obtain ⟨lx, hlx⟩ : ∃ l, x.length = l := ⟨_, rfl⟩
  rw [hlx] at hcx hrk
  have HXE := Lib.hid hxe
  have HLX := Lib.hid hlx
  have HAX := Lib.hid hAx
  have HOX := Lib.hid okx
  have HR0 := Lib.hid R0
  have HNA := Lib.hid na
  have HG := Lib.hid g
  have HN := Lib.hid hn
  have HAW := Lib.hid (HA.out.later hbW)
  have HLW := Lib.hid (HL.out.later hbW)
  clear hxe hlx hAx okx R0 na g hn
  obtain rfl : c = true := by rw [← HC.out]; rfl
  go_enter Tryz.func152, Tryz.ntmps152
  (try rw [hW])
  go_wp2_with fail
  (try rw [hW])
  go_ret
  exact ⟨rfl, hbW⟩
set_option maxRecDepth 100000 in
set_option maxHeartbeats 8000000 in
theorem holds8_any {xs : List Int} {ls : List (List Int)} {a2 al : Option Addr} {c2 cl : Nat} {w : World} (A : ArgS w (.slice a2 xs.length c2) xs a2 c2) (na : a2 = none → c2 = 0) (hx : xs.length ≤ 1000) (L : RowL w (.slice al ls.length cl) ls al cl) (ok : ∀ x ∈ ls, OkS x) (hl : ls.length ≤ 1000){v : Int} {n : Nat} (g : GoodO v 8 n xs) (hn : ls.length = n) : Calls Tryz.prog 152 #[.agg #[.int .i64 8, .slice a2 xs.length c2, .slice al ls.length cl]] w fun e w' => e = .returned (.bool (holdI 8 xs ls)) ∧ Below w.heap.size w w' := by
  obtain ⟨c, hc⟩ : ∃ c, holdI 8 xs ls = c := ⟨_, rfl⟩
  rw [hc]
  have HC := Lib.hid hc
  clear hc
  have HA := Lib.hid A
  have HL := Lib.hid L
  have HOK := Lib.hid ok
  obtain ⟨m, hm⟩ : ∃ m, xs.length = m := ⟨_, rfl⟩
  obtain ⟨k, hk⟩ : ∃ k, ls.length = k := ⟨_, rfl⟩
  have HM := Lib.hid hm
  have HK := Lib.hid hk
  rw [hm] at hx ⊢
  rw [hk] at hl ⊢
  obtain ⟨W, hW⟩ : ∃ W, w.alloc (.cells #[.int .i64 8, .slice a2 m c2, .slice al k cl] 189) = W := ⟨_, rfl⟩
  have R0 : Row W w.heap.size 189 #[.int .i64 8, .slice a2 m c2, .slice al k cl] := by rw [← hW]; exact Row.new _ _ _
  have hbW : Below w.heap.size w W := by rw [← hW]; exact (Below.refl _ _).alloc (Nat.le_refl _) _
  obtain ⟨k0, k1, k2, _, _, _⟩ := R0.three
  clear A L ok hm hk
  have hk1 : 0 < k := by rw [← HK.out, hn]; have := (ar_one g).1; omega
  have hk1I : (0 : Int) < (k : Int) := by omega
  have okx := HOK.out _ (shp_in (i := 0) (by rw [HK.out]; omega))
  obtain ⟨b, o0, ax, cx, rfl, hbl, hcx, hAx, hnx⟩ := (HL.out.later hbW).at (i := 0) (by rw [HK.out]; omega)
  rw [Nat.add_zero] at hcx
  obtain ⟨x, hxe⟩ : ∃ x, shpI ls 0 = x := ⟨_, rfl⟩
  rw [hxe] at okx hcx hAx
  have hrk := okx.rank
  obtain ⟨lx, hlx⟩ : ∃ l, x.length = l := ⟨_, rfl⟩
  rw [hlx] at hcx hrk
  have HXE := Lib.hid hxe
  have HLX := Lib.hid hlx
  have HAX := Lib.hid hAx
  have HOX := Lib.hid okx
  have HR0 := Lib.hid R0
  have HNA := Lib.hid na
  have HG := Lib.hid g
  have HN := Lib.hid hn
  have HAW := Lib.hid (HA.out.later hbW)
  have HLW := Lib.hid (HL.out.later hbW)
  clear hxe hlx hAx okx R0 na g hn
  obtain rfl : c = true := by rw [← HC.out]; rfl
  go_enter Tryz.func152, Tryz.ntmps152
  (try rw [hW])
  go_wp2_with fail
  (try rw [hW])
  go_ret
  exact ⟨rfl, hbW⟩
set_option maxRecDepth 100000 in
set_option maxHeartbeats 8000000 in
theorem holds9_any {xs : List Int} {ls : List (List Int)} {a2 al : Option Addr} {c2 cl : Nat} {w : World} (A : ArgS w (.slice a2 xs.length c2) xs a2 c2) (na : a2 = none → c2 = 0) (hx : xs.length ≤ 1000) (L : RowL w (.slice al ls.length cl) ls al cl) (ok : ∀ x ∈ ls, OkS x) (hl : ls.length ≤ 1000){v : Int} {n : Nat} (g : GoodO v 9 n xs) (hn : ls.length = n) : Calls Tryz.prog 152 #[.agg #[.int .i64 9, .slice a2 xs.length c2, .slice al ls.length cl]] w fun e w' => e = .returned (.bool (holdI 9 xs ls)) ∧ Below w.heap.size w w' := by
  obtain ⟨c, hc⟩ : ∃ c, holdI 9 xs ls = c := ⟨_, rfl⟩
  rw [hc]
  have HC := Lib.hid hc
  clear hc
  have HA := Lib.hid A
  have HL := Lib.hid L
  have HOK := Lib.hid ok
  obtain ⟨m, hm⟩ : ∃ m, xs.length = m := ⟨_, rfl⟩
  obtain ⟨k, hk⟩ : ∃ k, ls.length = k := ⟨_, rfl⟩
  have HM := Lib.hid hm
  have HK := Lib.hid hk
  rw [hm] at hx ⊢
  rw [hk] at hl ⊢
  obtain ⟨W, hW⟩ : ∃ W, w.alloc (.cells #[.int .i64 9, .slice a2 m c2, .slice al k cl] 189) = W := ⟨_, rfl⟩
  have R0 : Row W w.heap.size 189 #[.int .i64 9, .slice a2 m c2, .slice al k cl] := by rw [← hW]; exact Row.new _ _ _
  have hbW : Below w.heap.size w W := by rw [← hW]; exact (Below.refl _ _).alloc (Nat.le_refl _) _
  obtain ⟨k0, k1, k2, _, _, _⟩ := R0.three
  clear A L ok hm hk
  have hk1 : 0 < k := by rw [← HK.out, hn]; have := (ar_one g).1; omega
  have hk1I : (0 : Int) < (k : Int) := by omega
  have okx := HOK.out _ (shp_in (i := 0) (by rw [HK.out]; omega))
  obtain ⟨b, o0, ax, cx, rfl, hbl, hcx, hAx, hnx⟩ := (HL.out.later hbW).at (i := 0) (by rw [HK.out]; omega)
  rw [Nat.add_zero] at hcx
  obtain ⟨x, hxe⟩ : ∃ x, shpI ls 0 = x := ⟨_, rfl⟩
  rw [hxe] at okx hcx hAx
  have hrk := okx.rank
  obtain ⟨lx, hlx⟩ : ∃ l, x.length = l := ⟨_, rfl⟩
  rw [hlx] at hcx hrk
  have HXE := Lib.hid hxe
  have HLX := Lib.hid hlx
  have HAX := Lib.hid hAx
  have HOX := Lib.hid okx
  have HR0 := Lib.hid R0
  have HNA := Lib.hid na
  have HG := Lib.hid g
  have HN := Lib.hid hn
  have HAW := Lib.hid (HA.out.later hbW)
  have HLW := Lib.hid (HL.out.later hbW)
  clear hxe hlx hAx okx R0 na g hn
  obtain rfl : c = true := by rw [← HC.out]; rfl
  go_enter Tryz.func152, Tryz.ntmps152
  (try rw [hW])
  go_wp2_with fail
  (try rw [hW])
  go_ret
  exact ⟨rfl, hbW⟩
set_option maxRecDepth 100000 in
set_option maxHeartbeats 8000000 in
theorem holds10_any {xs : List Int} {ls : List (List Int)} {a2 al : Option Addr} {c2 cl : Nat} {w : World} (A : ArgS w (.slice a2 xs.length c2) xs a2 c2) (na : a2 = none → c2 = 0) (hx : xs.length ≤ 1000) (L : RowL w (.slice al ls.length cl) ls al cl) (ok : ∀ x ∈ ls, OkS x) (hl : ls.length ≤ 1000){v : Int} {n : Nat} (g : GoodO v 10 n xs) (hn : ls.length = n) : Calls Tryz.prog 152 #[.agg #[.int .i64 10, .slice a2 xs.length c2, .slice al ls.length cl]] w fun e w' => e = .returned (.bool (holdI 10 xs ls)) ∧ Below w.heap.size w w' := by
  obtain ⟨c, hc⟩ : ∃ c, holdI 10 xs ls = c := ⟨_, rfl⟩
  rw [hc]
  have HC := Lib.hid hc
  clear hc
  have HA := Lib.hid A
  have HL := Lib.hid L
  have HOK := Lib.hid ok
  obtain ⟨m, hm⟩ : ∃ m, xs.length = m := ⟨_, rfl⟩
  obtain ⟨k, hk⟩ : ∃ k, ls.length = k := ⟨_, rfl⟩
  have HM := Lib.hid hm
  have HK := Lib.hid hk
  rw [hm] at hx ⊢
  rw [hk] at hl ⊢
  obtain ⟨W, hW⟩ : ∃ W, w.alloc (.cells #[.int .i64 10, .slice a2 m c2, .slice al k cl] 189) = W := ⟨_, rfl⟩
  have R0 : Row W w.heap.size 189 #[.int .i64 10, .slice a2 m c2, .slice al k cl] := by rw [← hW]; exact Row.new _ _ _
  have hbW : Below w.heap.size w W := by rw [← hW]; exact (Below.refl _ _).alloc (Nat.le_refl _) _
  obtain ⟨k0, k1, k2, _, _, _⟩ := R0.three
  clear A L ok hm hk
  have hk1 : 0 < k := by rw [← HK.out, hn]; have := (ar_one g).1; omega
  have hk1I : (0 : Int) < (k : Int) := by omega
  have okx := HOK.out _ (shp_in (i := 0) (by rw [HK.out]; omega))
  obtain ⟨b, o0, ax, cx, rfl, hbl, hcx, hAx, hnx⟩ := (HL.out.later hbW).at (i := 0) (by rw [HK.out]; omega)
  rw [Nat.add_zero] at hcx
  obtain ⟨x, hxe⟩ : ∃ x, shpI ls 0 = x := ⟨_, rfl⟩
  rw [hxe] at okx hcx hAx
  have hrk := okx.rank
  obtain ⟨lx, hlx⟩ : ∃ l, x.length = l := ⟨_, rfl⟩
  rw [hlx] at hcx hrk
  have HXE := Lib.hid hxe
  have HLX := Lib.hid hlx
  have HAX := Lib.hid hAx
  have HOX := Lib.hid okx
  have HR0 := Lib.hid R0
  have HNA := Lib.hid na
  have HG := Lib.hid g
  have HN := Lib.hid hn
  have HAW := Lib.hid (HA.out.later hbW)
  have HLW := Lib.hid (HL.out.later hbW)
  clear hxe hlx hAx okx R0 na g hn
  have hk2 : 1 < k := by rw [← HK.out, HN.out]; have := ar_two HG.out (by simp); omega
  have hk2I : (1 : Int) < (k : Int) := by omega
  have oky := HOK.out _ (shp_in (i := 1) (by rw [HK.out]; omega))
  obtain ⟨b', o', ay, cy, he, hbl2, hcy, hAy, hny⟩ := HLW.out.at (i := 1) (by rw [HK.out]; omega)
  cases he
  obtain ⟨y, hye⟩ : ∃ y, shpI ls 1 = y := ⟨_, rfl⟩
  rw [hye] at oky hcy hAy
  have hrky := oky.rank
  obtain ⟨ly, hly⟩ : ∃ l, y.length = l := ⟨_, rfl⟩
  rw [hly] at hcy hrky
  have HYE := Lib.hid hye
  have HLY := Lib.hid hly
  have HAY := Lib.hid hAy
  have HOY := Lib.hid oky
  clear hye hly hAy oky
  have hco : matB x y = c := by rw [← HYE.out, ← HXE.out]; exact HC.out
  by_cases h2 : lx = 2
  · subst h2
    by_cases h3 : ly = 2
    · subst h3
      obtain ⟨bx, ox, rfl, h1c⟩ := HAX.out.at (i := 1) (by rw [HLX.out]; omega)
      obtain ⟨by_, oy, rfl, h0c⟩ := HAY.out.at (i := 0) (by rw [HLY.out]; omega)
      rw [Nat.add_zero] at h0c
      obtain ⟨p, hp⟩ : ∃ p, x.getD 1 0 = p := ⟨_, rfl⟩
      obtain ⟨q, hq⟩ : ∃ q, y.getD 0 0 = q := ⟨_, rfl⟩
      rw [hp] at h1c
      rw [hq] at h0c
      have hcp : (p == q) = c := by
        rw [← hco]
        unfold matB
        rw [HLX.out, HLY.out, hp, hq]
        by_cases h : p = q
        · subst h; simp
        · simp [h]
      have l1 := World.block_lt_of_cell? _ _ h1c
      have l0 := World.block_lt_of_cell? _ _ h0c
      have MK := Lib.hid (show ∀ X, Below W.heap.size W X → X.cell? ⟨bx, ox + 1, none⟩ = some (.int .i64 p) ∧ X.cell? ⟨by_, oy, none⟩ = some (.int .i64 q) from fun X h => ⟨(h.cell l1).trans h1c, (h.cell l0).trans h0c⟩)
      have Z0 : Below W.heap.size W W.drew := (Below.refl _ _).drew
      have HCP := Lib.hid hcp
      clear hp hq h1c h0c l1 l0 hco
      go_enter Tryz.func152, Tryz.ntmps152
      (try rw [hW])
      go_wp2_with fail
      (try rw [hW])
      clear hW
      refine wp_region_held_drew (S := fun X => X.cell? ⟨bx, ox + 1, none⟩ = some (.int .i64 p) ∧ X.cell? ⟨by_, oy, none⟩ = some (.int .i64 q)) (by kernel_rfl) (MK.out _ Z0) (fun hHeld => ?_)
      obtain ⟨z0, hdrh⟩ : ∃ Y, W.drew = Y := ⟨_, rfl⟩
      rw [hdrh] at Z0 hHeld ⊢
      clear hdrh
      refine todo [0, 1, 2, 3, 4, 5, 6, 7, 8, 9, 10, 11, 12, 13, 14, 15, 16, 17] ?_
      iterate 18
       first
       | (refine todoH (v := ?_) rfl (by kernel_rfl) (fun _ _ _ h => h) (by assumption) (Or.inl ⟨by rfl, ?_⟩) ?_
          rotate_left
          · intro w hSw; (try dsimp only at hSw); go_simp; (try with_reducible rfl)
          try simp only [Act.put, List.getElem_toArray, List.getElem_cons_succ, List.getElem_cons_zero, List.setIfInBounds_toArray, List.set_cons_zero, List.set_cons_succ])
       | (refine todoH (v := undef) rfl (by kernel_rfl) (fun _ _ _ h => h) (by assumption) (Or.inr ⟨by rfl, rfl⟩) ?_
          try simp only [Act.put, List.getElem_toArray, List.getElem_cons_succ, List.getElem_cons_zero, List.setIfInBounds_toArray, List.set_cons_zero, List.set_cons_succ])
      refine todone ?_
      refine wpAnyH_done (by kernel_rfl) ?_ _
      (try dsimp only [Straight])
      have hcp2 := HCP.out
      have Z0' : Below w.heap.size w z0 := hbW.trans (Z0.mono hbW.size)
      go_wp2_with fail
      go_ret
      exact ⟨by first | rfl | (rw [HCP.out]), Z0'⟩
    · obtain rfl : c = false := by rw [← hco]; unfold matB; exact decide_eq_false (by rw [HLY.out]; exact fun h => h3 h.2.1)
      have i1 : ((ly : Int) == 2) = false := by simp; omega
      have HCO := Lib.hid hco
      clear hco
      go_enter Tryz.func152, Tryz.ntmps152
      (try rw [hW])
      go_wp2_with fail
      (try rw [hW])
      clear hW
      refine wp_region_held_drew (S := fun _ => True) (by kernel_rfl) trivial (fun hHeld => ?_)
      refine todo [0, 1, 2, 3, 4, 5, 6, 7, 8, 9, 10, 11, 12, 13, 14, 15, 16, 17] ?_
      iterate 18
       first
       | (refine todoH (v := ?_) rfl (by kernel_rfl) (fun _ _ _ h => h) (by assumption) (Or.inl ⟨by rfl, ?_⟩) ?_
          rotate_left
          · intro w hSw; (try dsimp only at hSw); go_simp; (try with_reducible rfl)
          try simp only [Act.put, List.getElem_toArray, List.getElem_cons_succ, List.getElem_cons_zero, List.setIfInBounds_toArray, List.set_cons_zero, List.set_cons_succ])
       | (refine todoH (v := undef) rfl (by kernel_rfl) (fun _ _ _ h => h) (by assumption) (Or.inr ⟨by rfl, rfl⟩) ?_
          try simp only [Act.put, List.getElem_toArray, List.getElem_cons_succ, List.getElem_cons_zero, List.setIfInBounds_toArray, List.set_cons_zero, List.set_cons_succ])
      refine todone ?_
      refine wpAnyH_done (by kernel_rfl) ?_ _
      (try dsimp only [Straight])
      go_wp2_with fail
      go_ret
      exact ⟨rfl, hbW.drew⟩
  · obtain rfl : c = false := by rw [← hco]; unfold matB; exact decide_eq_false (by rw [HLX.out]; exact fun h => h2 h.1)
    have i1 : ((lx : Int) == 2) = false := by simp; omega
    have HCO := Lib.hid hco
    clear hco
    go_enter Tryz.func152, Tryz.ntmps152
    (try rw [hW])
    go_wp2_with fail
    (try rw [hW])
    clear hW
    refine wp_region_held_drew (S := fun _ => True) (by kernel_rfl) trivial (fun hHeld => ?_)
    refine todo [0, 1, 2, 3, 4, 5, 6, 7, 8, 9, 10, 11, 12, 13, 14, 15, 16, 17] ?_
    iterate 18
     first
     | (refine todoH (v := ?_) rfl (by kernel_rfl) (fun _ _ _ h => h) (by assumption) (Or.inl ⟨by rfl, ?_⟩) ?_
        rotate_left
        · intro w hSw; (try dsimp only at hSw); go_simp; (try with_reducible rfl)
        try simp only [Act.put, List.getElem_toArray, List.getElem_cons_succ, List.getElem_cons_zero, List.setIfInBounds_toArray, List.set_cons_zero, List.set_cons_succ])
     | (refine todoH (v := undef) rfl (by kernel_rfl) (fun _ _ _ h => h) (by assumption) (Or.inr ⟨by rfl, rfl⟩) ?_
        try simp only [Act.put, List.getElem_toArray, List.getElem_cons_succ, List.getElem_cons_zero, List.setIfInBounds_toArray, List.set_cons_zero, List.set_cons_succ])
    refine todone ?_
    refine wpAnyH_done (by kernel_rfl) ?_ _
    (try dsimp only [Straight])
    go_wp2_with fail
    go_ret
    exact ⟨rfl, hbW.drew⟩
set_option maxRecDepth 100000 in
set_option maxHeartbeats 8000000 in
theorem holds11_any {xs : List Int} {ls : List (List Int)} {a2 al : Option Addr} {c2 cl : Nat} {w : World} (A : ArgS w (.slice a2 xs.length c2) xs a2 c2) (na : a2 = none → c2 = 0) (hx : xs.length ≤ 1000) (L : RowL w (.slice al ls.length cl) ls al cl) (ok : ∀ x ∈ ls, OkS x) (hl : ls.length ≤ 1000){v : Int} {n : Nat} (g : GoodO v 11 n xs) (hn : ls.length = n) : Calls Tryz.prog 152 #[.agg #[.int .i64 11, .slice a2 xs.length c2, .slice al ls.length cl]] w fun e w' => e = .returned (.bool (holdI 11 xs ls)) ∧ Below w.heap.size w w' := by
  obtain ⟨c, hc⟩ : ∃ c, holdI 11 xs ls = c := ⟨_, rfl⟩
  rw [hc]
  have HC := Lib.hid hc
  clear hc
  have HA := Lib.hid A
  have HL := Lib.hid L
  have HOK := Lib.hid ok
  obtain ⟨m, hm⟩ : ∃ m, xs.length = m := ⟨_, rfl⟩
  obtain ⟨k, hk⟩ : ∃ k, ls.length = k := ⟨_, rfl⟩
  have HM := Lib.hid hm
  have HK := Lib.hid hk
  rw [hm] at hx ⊢
  rw [hk] at hl ⊢
  obtain ⟨W, hW⟩ : ∃ W, w.alloc (.cells #[.int .i64 11, .slice a2 m c2, .slice al k cl] 189) = W := ⟨_, rfl⟩
  have R0 : Row W w.heap.size 189 #[.int .i64 11, .slice a2 m c2, .slice al k cl] := by rw [← hW]; exact Row.new _ _ _
  have hbW : Below w.heap.size w W := by rw [← hW]; exact (Below.refl _ _).alloc (Nat.le_refl _) _
  obtain ⟨k0, k1, k2, _, _, _⟩ := R0.three
  clear A L ok hm hk
  have hk1 : 0 < k := by rw [← HK.out, hn]; have := (ar_one g).1; omega
  have hk1I : (0 : Int) < (k : Int) := by omega
  have okx := HOK.out _ (shp_in (i := 0) (by rw [HK.out]; omega))
  obtain ⟨b, o0, ax, cx, rfl, hbl, hcx, hAx, hnx⟩ := (HL.out.later hbW).at (i := 0) (by rw [HK.out]; omega)
  rw [Nat.add_zero] at hcx
  obtain ⟨x, hxe⟩ : ∃ x, shpI ls 0 = x := ⟨_, rfl⟩
  rw [hxe] at okx hcx hAx
  have hrk := okx.rank
  obtain ⟨lx, hlx⟩ : ∃ l, x.length = l := ⟨_, rfl⟩
  rw [hlx] at hcx hrk
  have HXE := Lib.hid hxe
  have HLX := Lib.hid hlx
  have HAX := Lib.hid hAx
  have HOX := Lib.hid okx
  have HR0 := Lib.hid R0
  have HNA := Lib.hid na
  have HG := Lib.hid g
  have HN := Lib.hid hn
  have HAW := Lib.hid (HA.out.later hbW)
  have HLW := Lib.hid (HL.out.later hbW)
  clear hxe hlx hAx okx R0 na g hn
  have hco : decide (xs.length = (shpI ls 0).length) = c := HC.out
  rw [HM.out, HXE.out, HLX.out] at hco
  by_cases h : m = lx
  · subst h
    obtain rfl : c = true := by rw [← hco]; exact decide_eq_true rfl
    clear hco
    go_enter Tryz.func152, Tryz.ntmps152
    (try rw [hW])
    go_wp2_with fail
    (try rw [hW])
    go_ret
    exact ⟨rfl, hbW⟩
  · obtain rfl : c = false := by rw [← hco]; exact decide_eq_false h
    have hI : ((m : Int) == (lx : Int)) = false := by simp; omega
    clear hco
    go_enter Tryz.func152, Tryz.ntmps152
    (try rw [hW])
    go_wp2_with fail
    (try rw [hW])
    go_ret
    exact ⟨rfl, hbW⟩
set_option maxRecDepth 100000 in
set_option maxHeartbeats 8000000 in
theorem holds12_any {xs : List Int} {ls : List (List Int)} {a2 al : Option Addr} {c2 cl : Nat} {w : World} (A : ArgS w (.slice a2 xs.length c2) xs a2 c2) (na : a2 = none → c2 = 0) (hx : xs.length ≤ 1000) (L : RowL w (.slice al ls.length cl) ls al cl) (ok : ∀ x ∈ ls, OkS x) (hl : ls.length ≤ 1000){v : Int} {n : Nat} (g : GoodO v 12 n xs) (hn : ls.length = n) : Calls Tryz.prog 152 #[.agg #[.int .i64 12, .slice a2 xs.length c2, .slice al ls.length cl]] w fun e w' => e = .returned (.bool (holdI 12 xs ls)) ∧ Below w.heap.size w w' := by
  obtain ⟨c, hc⟩ : ∃ c, holdI 12 xs ls = c := ⟨_, rfl⟩
  rw [hc]
  have HC := Lib.hid hc
  clear hc
  have HA := Lib.hid A
  have HL := Lib.hid L
  have HOK := Lib.hid ok
  obtain ⟨m, hm⟩ : ∃ m, xs.length = m := ⟨_, rfl⟩
  obtain ⟨k, hk⟩ : ∃ k, ls.length = k := ⟨_, rfl⟩
  have HM := Lib.hid hm
  have HK := Lib.hid hk
  rw [hm] at hx ⊢
  rw [hk] at hl ⊢
  obtain ⟨W, hW⟩ : ∃ W, w.alloc (.cells #[.int .i64 12, .slice a2 m c2, .slice al k cl] 189) = W := ⟨_, rfl⟩
  have R0 : Row W w.heap.size 189 #[.int .i64 12, .slice a2 m c2, .slice al k cl] := by rw [← hW]; exact Row.new _ _ _
  have hbW : Below w.heap.size w W := by rw [← hW]; exact (Below.refl _ _).alloc (Nat.le_refl _) _
  obtain ⟨k0, k1, k2, _, _, _⟩ := R0.three
  clear A L ok hm hk
  have hk1 : 0 < k := by rw [← HK.out, hn]; have := (ar_one g).1; omega
  have hk1I : (0 : Int) < (k : Int) := by omega
  have okx := HOK.out _ (shp_in (i := 0) (by rw [HK.out]; omega))
  obtain ⟨b, o0, ax, cx, rfl, hbl, hcx, hAx, hnx⟩ := (HL.out.later hbW).at (i := 0) (by rw [HK.out]; omega)
  rw [Nat.add_zero] at hcx
  obtain ⟨x, hxe⟩ : ∃ x, shpI ls 0 = x := ⟨_, rfl⟩
  rw [hxe] at okx hcx hAx
  have hrk := okx.rank
  obtain ⟨lx, hlx⟩ : ∃ l, x.length = l := ⟨_, rfl⟩
  rw [hlx] at hcx hrk
  have HXE := Lib.hid hxe
  have HLX := Lib.hid hlx
  have HAX := Lib.hid hAx
  have HOX := Lib.hid okx
  have HR0 := Lib.hid R0
  have HNA := Lib.hid na
  have HG := Lib.hid g
  have HN := Lib.hid hn
  have HAW := Lib.hid (HA.out.later hbW)
  have HLW := Lib.hid (HL.out.later hbW)
  clear hxe hlx hAx okx R0 na g hn
  have hco : decide (countS xs = countS (shpI ls 0)) = c := HC.out
  rw [HXE.out] at hco
  have hc1 := fun X (hX : Below W.heap.size W X) => countS_any (HAW.out.later hX) (by rw [HM.out]; omega)
  have hc2 := fun X (hX : Below W.heap.size W X) => countS_any (HAX.out.later hX) (by rw [HLX.out]; omega)
  obtain ⟨p, hp⟩ : ∃ p, countS xs = p := ⟨_, rfl⟩
  obtain ⟨q, hq⟩ : ∃ q, countS x = q := ⟨_, rfl⟩
  rw [hp, HM.out] at hc1
  rw [hq, HLX.out] at hc2
  rw [hp, hq] at hco
  have H1 := Lib.hid hc1
  have H2 := Lib.hid hc2
  have hcp : (p == q) = c := by rw [← hco]; by_cases h : p = q <;> simp [h]
  have HCP := Lib.hid hcp
  clear hp hq hc1 hc2 hco
  go_enter Tryz.func152, Tryz.ntmps152
  (try rw [hW])
  go_wp2_with fail
  (try rw [hW])
  clear hW
  refine (H1.out _ (Below.refl _ _)).mono ?_
  rintro e w2 ⟨rfl, hy2⟩
  go_wp2_with fail
  refine (H2.out _ hy2).mono ?_
  rintro e w3 ⟨rfl, hy3⟩
  have hcp2 := HCP.out
  go_wp2_with fail
  go_ret
  exact ⟨by first | rfl | (rw [HCP.out]), hbW.trans ((hy2.trans (hy3.mono hy2.size)).mono hbW.size)⟩
set_option maxRecDepth 100000 in
set_option maxHeartbeats 8000000 in
theorem holds13_any {xs : List Int} {ls : List (List Int)} {a2 al : Option Addr} {c2 cl : Nat} {w : World} (A : ArgS w (.slice a2 xs.length c2) xs a2 c2) (na : a2 = none → c2 = 0) (hx : xs.length ≤ 1000) (L : RowL w (.slice al ls.length cl) ls al cl) (ok : ∀ x ∈ ls, OkS x) (hl : ls.length ≤ 1000){v : Int} {n : Nat} (g : GoodO v 13 n xs) (hn : ls.length = n) : Calls Tryz.prog 152 #[.agg #[.int .i64 13, .slice a2 xs.length c2, .slice al ls.length cl]] w fun e w' => e = .returned (.bool (holdI 13 xs ls)) ∧ Below w.heap.size w w' := by
  obtain ⟨c, hc⟩ : ∃ c, holdI 13 xs ls = c := ⟨_, rfl⟩
  rw [hc]
  have HC := Lib.hid hc
  clear hc
  have HA := Lib.hid A
  have HL := Lib.hid L
  have HOK := Lib.hid ok
  obtain ⟨m, hm⟩ : ∃ m, xs.length = m := ⟨_, rfl⟩
  obtain ⟨k, hk⟩ : ∃ k, ls.length = k := ⟨_, rfl⟩
  have HM := Lib.hid hm
  have HK := Lib.hid hk
  rw [hm] at hx ⊢
  rw [hk] at hl ⊢
  obtain ⟨W, hW⟩ : ∃ W, w.alloc (.cells #[.int .i64 13, .slice a2 m c2, .slice al k cl] 189) = W := ⟨_, rfl⟩
  have R0 : Row W w.heap.size 189 #[.int .i64 13, .slice a2 m c2, .slice al k cl] := by rw [← hW]; exact Row.new _ _ _
  have hbW : Below w.heap.size w W := by rw [← hW]; exact (Below.refl _ _).alloc (Nat.le_refl _) _
  obtain ⟨k0, k1, k2, _, _, _⟩ := R0.three
  clear A L ok hm hk
  have hk1 : 0 < k := by rw [← HK.out, hn]; have := (ar_one g).1; omega
  have hk1I : (0 : Int) < (k : Int) := by omega
  have okx := HOK.out _ (shp_in (i := 0) (by rw [HK.out]; omega))
  obtain ⟨b, o0, ax, cx, rfl, hbl, hcx, hAx, hnx⟩ := (HL.out.later hbW).at (i := 0) (by rw [HK.out]; omega)
  rw [Nat.add_zero] at hcx
  obtain ⟨x, hxe⟩ : ∃ x, shpI ls 0 = x := ⟨_, rfl⟩
  rw [hxe] at okx hcx hAx
  have hrk := okx.rank
  obtain ⟨lx, hlx⟩ : ∃ l, x.length = l := ⟨_, rfl⟩
  rw [hlx] at hcx hrk
  have HXE := Lib.hid hxe
  have HLX := Lib.hid hlx
  have HAX := Lib.hid hAx
  have HOX := Lib.hid okx
  have HR0 := Lib.hid R0
  have HNA := Lib.hid na
  have HG := Lib.hid g
  have HN := Lib.hid hn
  have HAW := Lib.hid (HA.out.later hbW)
  have HLW := Lib.hid (HL.out.later hbW)
  clear hxe hlx hAx okx R0 na g hn
  have hco : decide (fitC (shpI ls 0) xs = 0) = c := HC.out
  rw [HXE.out] at hco
  have hss := fitsS_any HAX.out HAW.out hnx HNA.out (by rw [HLX.out]; omega) (by rw [HM.out]; omega)
  obtain ⟨p, hp⟩ : ∃ p, fitC x xs = p := ⟨_, rfl⟩
  rw [HLX.out, HM.out, hp] at hss
  rw [hp] at hco
  have HSS := Lib.hid hss
  clear hss hp
  by_cases h : p = 0
  · subst h
    obtain rfl : c = true := by rw [← hco]; rfl
    clear hco
    go_enter Tryz.func152, Tryz.ntmps152
    (try rw [hW])
    go_wp2_with fail
    (try rw [hW])
    clear hW
    refine (HSS.out).mono ?_
    rintro e w2 ⟨rfl, hy⟩
    have B2 : Below w.heap.size w w2 := hbW.trans (hy.mono hbW.size)
    clear hy
    go_wp2_with fail
    go_ret
    exact ⟨rfl, B2⟩
  · obtain rfl : c = false := by rw [← hco]; exact decide_eq_false h
    have hI : (p == 0) = false := by simp [h]
    clear hco
    go_enter Tryz.func152, Tryz.ntmps152
    (try rw [hW])
    go_wp2_with fail
    (try rw [hW])
    clear hW
    refine (HSS.out).mono ?_
    rintro e w2 ⟨rfl, hy⟩
    have B2 : Below w.heap.size w w2 := hbW.trans (hy.mono hbW.size)
    clear hy
    go_wp2_with fail
    go_ret
    exact ⟨rfl, B2⟩
set_option maxRecDepth 100000 in
set_option maxHeartbeats 8000000 in
theorem holds14_any {xs : List Int} {ls : List (List Int)} {a2 al : Option Addr} {c2 cl : Nat} {w : World} (A : ArgS w (.slice a2 xs.length c2) xs a2 c2) (na : a2 = none → c2 = 0) (hx : xs.length ≤ 1000) (L : RowL w (.slice al ls.length cl) ls al cl) (ok : ∀ x ∈ ls, OkS x) (hl : ls.length ≤ 1000){v : Int} {n : Nat} (g : GoodO v 14 n xs) (hn : ls.length = n) : Calls Tryz.prog 152 #[.agg #[.int .i64 14, .slice a2 xs.length c2, .slice al ls.length cl]] w fun e w' => e = .returned (.bool (holdI 14 xs ls)) ∧ Below w.heap.size w w' := by
  obtain ⟨c, hc⟩ : ∃ c, holdI 14 xs ls = c := ⟨_, rfl⟩
  rw [hc]
  have HC := Lib.hid hc
  clear hc
  have HA := Lib.hid A
  have HL := Lib.hid L
  have HOK := Lib.hid ok
  obtain ⟨m, hm⟩ : ∃ m, xs.length = m := ⟨_, rfl⟩
  obtain ⟨k, hk⟩ : ∃ k, ls.length = k := ⟨_, rfl⟩
  have HM := Lib.hid hm
  have HK := Lib.hid hk
  rw [hm] at hx ⊢
  rw [hk] at hl ⊢
  obtain ⟨W, hW⟩ : ∃ W, w.alloc (.cells #[.int .i64 14, .slice a2 m c2, .slice al k cl] 189) = W := ⟨_, rfl⟩
  have R0 : Row W w.heap.size 189 #[.int .i64 14, .slice a2 m c2, .slice al k cl] := by rw [← hW]; exact Row.new _ _ _
  have hbW : Below w.heap.size w W := by rw [← hW]; exact (Below.refl _ _).alloc (Nat.le_refl _) _
  obtain ⟨k0, k1, k2, _, _, _⟩ := R0.three
  clear A L ok hm hk
  have hk1 : 0 < k := by rw [← HK.out, hn]; have := (ar_one g).1; omega
  have hk1I : (0 : Int) < (k : Int) := by omega
  have okx := HOK.out _ (shp_in (i := 0) (by rw [HK.out]; omega))
  obtain ⟨b, o0, ax, cx, rfl, hbl, hcx, hAx, hnx⟩ := (HL.out.later hbW).at (i := 0) (by rw [HK.out]; omega)
  rw [Nat.add_zero] at hcx
  obtain ⟨x, hxe⟩ : ∃ x, shpI ls 0 = x := ⟨_, rfl⟩
  rw [hxe] at okx hcx hAx
  have hrk := okx.rank
  obtain ⟨lx, hlx⟩ : ∃ l, x.length = l := ⟨_, rfl⟩
  rw [hlx] at hcx hrk
  have HXE := Lib.hid hxe
  have HLX := Lib.hid hlx
  have HAX := Lib.hid hAx
  have HOX := Lib.hid okx
  have HR0 := Lib.hid R0
  have HNA := Lib.hid na
  have HG := Lib.hid g
  have HN := Lib.hid hn
  have HAW := Lib.hid (HA.out.later hbW)
  have HLW := Lib.hid (HL.out.later hbW)
  clear hxe hlx hAx okx R0 na g hn
  have hax := fun X (hX : Below W.heap.size W X) => axesS_any (lx : Int) (HAW.out.later hX) HNA.out (by rw [HM.out]; omega) (by omega) (by omega)
  obtain ⟨t, ht⟩ : ∃ t, axesB xs (lx : Int) = t := ⟨_, rfl⟩
  have hac : axesC xs (lx : Int) = if t = true then 0 else 11 := by unfold axesC; rw [ht]
  rw [HM.out, hac] at hax
  have HAC := Lib.hid hax
  have hco : t = c := by rw [← ht, ← HLX.out, ← HXE.out]; exact HC.out
  have HCO := Lib.hid hco
  clear ht hac hax hco
  go_enter Tryz.func152, Tryz.ntmps152
  (try rw [hW])
  go_wp2_with fail
  (try rw [hW])
  clear hW
  refine (HAC.out _ (Below.refl W.heap.size W)).mono ?_
  rintro e w2 ⟨rfl, hy⟩
  have E2 : Below w.heap.size w w2 := hbW.trans (((Below.refl W.heap.size W).trans (hy.mono (Below.refl W.heap.size W).size)).mono hbW.size)
  clear hy
  cases t with
  | true =>
    go_wp2_with fail
    go_ret
    exact ⟨by first | rfl | (rw [← HCO.out]; rfl), E2⟩
  | false =>
    go_wp2_with fail
    go_ret
    exact ⟨by first | rfl | (rw [← HCO.out]; rfl), E2⟩
set_option maxRecDepth 100000 in
set_option maxHeartbeats 8000000 in
theorem holds15_any {xs : List Int} {ls : List (List Int)} {a2 al : Option Addr} {c2 cl : Nat} {w : World} (A : ArgS w (.slice a2 xs.length c2) xs a2 c2) (na : a2 = none → c2 = 0) (hx : xs.length ≤ 1000) (L : RowL w (.slice al ls.length cl) ls al cl) (ok : ∀ x ∈ ls, OkS x) (hl : ls.length ≤ 1000){v : Int} {n : Nat} (g : GoodO v 15 n xs) (hn : ls.length = n) : Calls Tryz.prog 152 #[.agg #[.int .i64 15, .slice a2 xs.length c2, .slice al ls.length cl]] w fun e w' => e = .returned (.bool (holdI 15 xs ls)) ∧ Below w.heap.size w w' := by
  obtain ⟨c, hc⟩ : ∃ c, holdI 15 xs ls = c := ⟨_, rfl⟩
  rw [hc]
  have HC := Lib.hid hc
  clear hc
  have HA := Lib.hid A
  have HL := Lib.hid L
  have HOK := Lib.hid ok
  obtain ⟨m, hm⟩ : ∃ m, xs.length = m := ⟨_, rfl⟩
  obtain ⟨k, hk⟩ : ∃ k, ls.length = k := ⟨_, rfl⟩
  have HM := Lib.hid hm
  have HK := Lib.hid hk
  rw [hm] at hx ⊢
  rw [hk] at hl ⊢
  obtain ⟨W, hW⟩ : ∃ W, w.alloc (.cells #[.int .i64 15, .slice a2 m c2, .slice al k cl] 189) = W := ⟨_, rfl⟩
  have R0 : Row W w.heap.size 189 #[.int .i64 15, .slice a2 m c2, .slice al k cl] := by rw [← hW]; exact Row.new _ _ _
  have hbW : Below w.heap.size w W := by rw [← hW]; exact (Below.refl _ _).alloc (Nat.le_refl _) _
  obtain ⟨k0, k1, k2, _, _, _⟩ := R0.three
  clear A L ok hm hk
  have hk1 : 0 < k := by rw [← HK.out, hn]; have := (ar_one g).1; omega
  have hk1I : (0 : Int) < (k : Int) := by omega
  have okx := HOK.out _ (shp_in (i := 0) (by rw [HK.out]; omega))
  obtain ⟨b, o0, ax, cx, rfl, hbl, hcx, hAx, hnx⟩ := (HL.out.later hbW).at (i := 0) (by rw [HK.out]; omega)
  rw [Nat.add_zero] at hcx
  obtain ⟨x, hxe⟩ : ∃ x, shpI ls 0 = x := ⟨_, rfl⟩
  rw [hxe] at okx hcx hAx
  have hrk := okx.rank
  obtain ⟨lx, hlx⟩ : ∃ l, x.length = l := ⟨_, rfl⟩
  rw [hlx] at hcx hrk
  have HXE := Lib.hid hxe
  have HLX := Lib.hid hlx
  have HAX := Lib.hid hAx
  have HOX := Lib.hid okx
  have HR0 := Lib.hid R0
  have HNA := Lib.hid na
  have HG := Lib.hid g
  have HN := Lib.hid hn
  have HAW := Lib.hid (HA.out.later hbW)
  have HLW := Lib.hid (HL.out.later hbW)
  clear hxe hlx hAx okx R0 na g hn
  obtain ⟨s, hs⟩ : ∃ s, withinB x xs = s := ⟨_, rfl⟩
  have hco : (s && decide (m = 2 * lx)) = c := by rw [← hs, ← HM.out, ← HLX.out, ← HXE.out]; exact HC.out
  have hal := endsWithin_any (o := 15) HAW.out HNA.out (by rw [HM.out]; exact hx) HLW.out HOK.out (by rw [HK.out]; exact hl) (by rw [HK.out]; exact hk1)
  rw [HM.out, HK.out, HXE.out, hs] at hal
  have HAL := Lib.hid hal
  have HCO := Lib.hid hco
  have hwl : IntKind.i64.wrap (2 * (lx : Int)) = 2 * (lx : Int) := IntWalk.i64_in _ (by omega)
  clear hco hs hal
  go_enter Tryz.func152, Tryz.ntmps152
  (try rw [hW])
  go_wp2_with fail
  (try rw [hW])
  clear hW
  refine HAL.out.mono ?_
  rintro e w2 ⟨rfl, hy⟩
  have D2 := hy
  obtain ⟨k0, k1, k2, _, _, _⟩ := (HR0.out.later D2).three
  clear hy
  cases s with
  | false =>
    have hcf : false = c := HCO.out
    subst hcf
    go_wp2_with fail
    go_ret
    exact ⟨rfl, hbW.trans (D2.mono hbW.size)⟩
  | true =>
    by_cases h : m = 2 * lx
    · have hI : ((m : Int) == 2 * (lx : Int)) = true := by simp; omega
      obtain rfl : c = true := by rw [← HCO.out, decide_eq_true h]; rfl
      clear h
      go_wp2_with fail
      go_ret
      exact ⟨rfl, hbW.trans (D2.mono hbW.size)⟩
    · have hI : ((m : Int) == 2 * (lx : Int)) = false := by simp; omega
      obtain rfl : c = false := by rw [← HCO.out, decide_eq_false h]; rfl
      go_wp2_with fail
      go_ret
      exact ⟨rfl, hbW.trans (D2.mono hbW.size)⟩
set_option maxRecDepth 100000 in
set_option maxHeartbeats 8000000 in
theorem holds16_any {xs : List Int} {ls : List (List Int)} {a2 al : Option Addr} {c2 cl : Nat} {w : World} (A : ArgS w (.slice a2 xs.length c2) xs a2 c2) (na : a2 = none → c2 = 0) (hx : xs.length ≤ 1000) (L : RowL w (.slice al ls.length cl) ls al cl) (ok : ∀ x ∈ ls, OkS x) (hl : ls.length ≤ 1000){v : Int} {n : Nat} (g : GoodO v 16 n xs) (hn : ls.length = n) : Calls Tryz.prog 152 #[.agg #[.int .i64 16, .slice a2 xs.length c2, .slice al ls.length cl]] w fun e w' => e = .returned (.bool (holdI 16 xs ls)) ∧ Below w.heap.size w w' := by
  obtain ⟨c, hc⟩ : ∃ c, holdI 16 xs ls = c := ⟨_, rfl⟩
  rw [hc]
  have HC := Lib.hid hc
  clear hc
  have HA := Lib.hid A
  have HL := Lib.hid L
  have HOK := Lib.hid ok
  obtain ⟨m, hm⟩ : ∃ m, xs.length = m := ⟨_, rfl⟩
  obtain ⟨k, hk⟩ : ∃ k, ls.length = k := ⟨_, rfl⟩
  have HM := Lib.hid hm
  have HK := Lib.hid hk
  rw [hm] at hx ⊢
  rw [hk] at hl ⊢
  obtain ⟨W, hW⟩ : ∃ W, w.alloc (.cells #[.int .i64 16, .slice a2 m c2, .slice al k cl] 189) = W := ⟨_, rfl⟩
  have R0 : Row W w.heap.size 189 #[.int .i64 16, .slice a2 m c2, .slice al k cl] := by rw [← hW]; exact Row.new _ _ _
  have hbW : Below w.heap.size w W := by rw [← hW]; exact (Below.refl _ _).alloc (Nat.le_refl _) _
  obtain ⟨k0, k1, k2, _, _, _⟩ := R0.three
  clear A L ok hm hk
  have hk1 : 0 < k := by rw [← HK.out, hn]; have := (ar_one g).1; omega
  have hk1I : (0 : Int) < (k : Int) := by omega
  have okx := HOK.out _ (shp_in (i := 0) (by rw [HK.out]; omega))
  obtain ⟨b, o0, ax, cx, rfl, hbl, hcx, hAx, hnx⟩ := (HL.out.later hbW).at (i := 0) (by rw [HK.out]; omega)
  rw [Nat.add_zero] at hcx
  obtain ⟨x, hxe⟩ : ∃ x, shpI ls 0 = x := ⟨_, rfl⟩
  rw [hxe] at okx hcx hAx
  have hrk := okx.rank
  obtain ⟨lx, hlx⟩ : ∃ l, x.length = l := ⟨_, rfl⟩
  rw [hlx] at hcx hrk
  have HXE := Lib.hid hxe
  have HLX := Lib.hid hlx
  have HAX := Lib.hid hAx
  have HOX := Lib.hid okx
  have HR0 := Lib.hid R0
  have HNA := Lib.hid na
  have HG := Lib.hid g
  have HN := Lib.hid hn
  have HAW := Lib.hid (HA.out.later hbW)
  have HLW := Lib.hid (HL.out.later hbW)
  clear hxe hlx hAx okx R0 na g hn
  have hco : decide (m = 2 * lx) = c := by rw [← HM.out, ← HLX.out, ← HXE.out]; exact HC.out
  have HCO := Lib.hid hco
  have hwl : IntKind.i64.wrap (2 * (lx : Int)) = 2 * (lx : Int) := IntWalk.i64_in _ (by omega)
  clear hco
  by_cases h : m = 2 * lx
  · have hI : ((m : Int) == 2 * (lx : Int)) = true := by simp; omega
    obtain rfl : c = true := by rw [← HCO.out, decide_eq_true h]
    clear h
    go_enter Tryz.func152, Tryz.ntmps152
    (try rw [hW])
    go_wp2_with fail
    (try rw [hW])
    go_ret
    exact ⟨rfl, hbW⟩
  · have hI : ((m : Int) == 2 * (lx : Int)) = false := by simp; omega
    obtain rfl : c = false := by rw [← HCO.out, decide_eq_false h]
    go_enter Tryz.func152, Tryz.ntmps152
    (try rw [hW])
    go_wp2_with fail
    (try rw [hW])
    go_ret
    exact ⟨rfl, hbW⟩
set_option maxRecDepth 100000 in
set_option maxHeartbeats 8000000 in
theorem holds17_any {xs : List Int} {ls : List (List Int)} {a2 al : Option Addr} {c2 cl : Nat} {w : World} (A : ArgS w (.slice a2 xs.length c2) xs a2 c2) (na : a2 = none → c2 = 0) (hx : xs.length ≤ 1000) (L : RowL w (.slice al ls.length cl) ls al cl) (ok : ∀ x ∈ ls, OkS x) (hl : ls.length ≤ 1000){v : Int} {n : Nat} (g : GoodO v 17 n xs) (hn : ls.length = n) : Calls Tryz.prog 152 #[.agg #[.int .i64 17, .slice a2 xs.length c2, .slice al ls.length cl]] w fun e w' => e = .returned (.bool (holdI 17 xs ls)) ∧ Below w.heap.size w w' := by
  obtain ⟨c, hc⟩ : ∃ c, holdI 17 xs ls = c := ⟨_, rfl⟩
  rw [hc]
  have HC := Lib.hid hc
  clear hc
  have HA := Lib.hid A
  have HL := Lib.hid L
  have HOK := Lib.hid ok
  obtain ⟨m, hm⟩ : ∃ m, xs.length = m := ⟨_, rfl⟩
  obtain ⟨k, hk⟩ : ∃ k, ls.length = k := ⟨_, rfl⟩
  have HM := Lib.hid hm
  have HK := Lib.hid hk
  rw [hm] at hx ⊢
  rw [hk] at hl ⊢
  obtain ⟨W, hW⟩ : ∃ W, w.alloc (.cells #[.int .i64 17, .slice a2 m c2, .slice al k cl] 189) = W := ⟨_, rfl⟩
  have R0 : Row W w.heap.size 189 #[.int .i64 17, .slice a2 m c2, .slice al k cl] := by rw [← hW]; exact Row.new _ _ _
  have hbW : Below w.heap.size w W := by rw [← hW]; exact (Below.refl _ _).alloc (Nat.le_refl _) _
  obtain ⟨k0, k1, k2, _, _, _⟩ := R0.three
  clear A L ok hm hk
  have hk1 : 0 < k := by rw [← HK.out, hn]; have := (ar_one g).1; omega
  have hk1I : (0 : Int) < (k : Int) := by omega
  have okx := HOK.out _ (shp_in (i := 0) (by rw [HK.out]; omega))
  obtain ⟨b, o0, ax, cx, rfl, hbl, hcx, hAx, hnx⟩ := (HL.out.later hbW).at (i := 0) (by rw [HK.out]; omega)
  rw [Nat.add_zero] at hcx
  obtain ⟨x, hxe⟩ : ∃ x, shpI ls 0 = x := ⟨_, rfl⟩
  rw [hxe] at okx hcx hAx
  have hrk := okx.rank
  obtain ⟨lx, hlx⟩ : ∃ l, x.length = l := ⟨_, rfl⟩
  rw [hlx] at hcx hrk
  have HXE := Lib.hid hxe
  have HLX := Lib.hid hlx
  have HAX := Lib.hid hAx
  have HOX := Lib.hid okx
  have HR0 := Lib.hid R0
  have HNA := Lib.hid na
  have HG := Lib.hid g
  have HN := Lib.hid hn
  have HAW := Lib.hid (HA.out.later hbW)
  have HLW := Lib.hid (HL.out.later hbW)
  clear hxe hlx hAx okx R0 na g hn
  have hax := fun X (hX : Below W.heap.size W X) => axesS_any (lx : Int) (HAW.out.later hX) HNA.out (by rw [HM.out]; omega) (by omega) (by omega)
  obtain ⟨t, ht⟩ : ∃ t, axesB xs (lx : Int) = t := ⟨_, rfl⟩
  have hac : axesC xs (lx : Int) = if t = true then 0 else 11 := by unfold axesC; rw [ht]
  rw [HM.out, hac] at hax
  have HAC := Lib.hid hax
  obtain ⟨s, hs⟩ : ∃ s, likeB xs ls = s := ⟨_, rfl⟩
  have hco : (s && t) = c := by rw [← hs, ← ht, ← HLX.out, ← HXE.out]; exact HC.out
  have hal := areAlike_any (o := 17) HAW.out HNA.out (by rw [HM.out]; exact hx) HLW.out HOK.out (by rw [HK.out]; exact hl) (by rw [HK.out]; exact hk1)
  rw [HM.out, HK.out, hs] at hal
  have HAL := Lib.hid hal
  have HCO := Lib.hid hco
  clear ht hac hax hco hs hal
  go_enter Tryz.func152, Tryz.ntmps152
  (try rw [hW])
  go_wp2_with fail
  (try rw [hW])
  clear hW
  refine HAL.out.mono ?_
  rintro e w2 ⟨rfl, hy⟩
  have D2 := hy
  obtain ⟨k0, k1, k2, _, _, _⟩ := (HR0.out.later D2).three
  clear hy
  cases s with
  | false =>
    have hcf : false = c := HCO.out
    subst hcf
    go_wp2_with fail
    go_ret
    exact ⟨rfl, hbW.trans (D2.mono hbW.size)⟩
  | true =>
    have hct : t = c := HCO.out
    subst hct
    go_wp2_with fail
    refine (HAC.out _ D2).mono ?_
    rintro e w3 ⟨rfl, hy⟩
    have E3 : Below w.heap.size w w3 := hbW.trans ((D2.trans (hy.mono D2.size)).mono hbW.size)
    clear hy
    cases t with
    | true =>
      go_wp2_with fail
      go_ret
      exact ⟨by first | rfl | (rw [← HCO.out]; rfl), E3⟩
    | false =>
      go_wp2_with fail
      go_ret
      exact ⟨by first | rfl | (rw [← HCO.out]; rfl), E3⟩
set_option maxRecDepth 100000 in
set_option maxHeartbeats 8000000 in
theorem holds18_any {xs : List Int} {ls : List (List Int)} {a2 al : Option Addr} {c2 cl : Nat} {w : World} (A : ArgS w (.slice a2 xs.length c2) xs a2 c2) (na : a2 = none → c2 = 0) (hx : xs.length ≤ 1000) (L : RowL w (.slice al ls.length cl) ls al cl) (ok : ∀ x ∈ ls, OkS x) (hl : ls.length ≤ 1000){v : Int} {n : Nat} (g : GoodO v 18 n xs) (hn : ls.length = n) : Calls Tryz.prog 152 #[.agg #[.int .i64 18, .slice a2 xs.length c2, .slice al ls.length cl]] w fun e w' => e = .returned (.bool (holdI 18 xs ls)) ∧ Below w.heap.size w w' := by
  obtain ⟨c, hc⟩ : ∃ c, holdI 18 xs ls = c := ⟨_, rfl⟩
  rw [hc]
  have HC := Lib.hid hc
  clear hc
  have HA := Lib.hid A
  have HL := Lib.hid L
  have HOK := Lib.hid ok
  obtain ⟨m, hm⟩ : ∃ m, xs.length = m := ⟨_, rfl⟩
  obtain ⟨k, hk⟩ : ∃ k, ls.length = k := ⟨_, rfl⟩
  have HM := Lib.hid hm
  have HK := Lib.hid hk
  rw [hm] at hx ⊢
  rw [hk] at hl ⊢
  obtain ⟨W, hW⟩ : ∃ W, w.alloc (.cells #[.int .i64 18, .slice a2 m c2, .slice al k cl] 189) = W := ⟨_, rfl⟩
  have R0 : Row W w.heap.size 189 #[.int .i64 18, .slice a2 m c2, .slice al k cl] := by rw [← hW]; exact Row.new _ _ _
  have hbW : Below w.heap.size w W := by rw [← hW]; exact (Below.refl _ _).alloc (Nat.le_refl _) _
  obtain ⟨k0, k1, k2, _, _, _⟩ := R0.three
  clear A L ok hm hk
  have hk1 : 0 < k := by rw [← HK.out, hn]; have := (ar_one g).1; omega
  have hk1I : (0 : Int) < (k : Int) := by omega
  have okx := HOK.out _ (shp_in (i := 0) (by rw [HK.out]; omega))
  obtain ⟨b, o0, ax, cx, rfl, hbl, hcx, hAx, hnx⟩ := (HL.out.later hbW).at (i := 0) (by rw [HK.out]; omega)
  rw [Nat.add_zero] at hcx
  obtain ⟨x, hxe⟩ : ∃ x, shpI ls 0 = x := ⟨_, rfl⟩
  rw [hxe] at okx hcx hAx
  have hrk := okx.rank
  obtain ⟨lx, hlx⟩ : ∃ l, x.length = l := ⟨_, rfl⟩
  rw [hlx] at hcx hrk
  have HXE := Lib.hid hxe
  have HLX := Lib.hid hlx
  have HAX := Lib.hid hAx
  have HOX := Lib.hid okx
  have HR0 := Lib.hid R0
  have HNA := Lib.hid na
  have HG := Lib.hid g
  have HN := Lib.hid hn
  have HAW := Lib.hid (HA.out.later hbW)
  have HLW := Lib.hid (HL.out.later hbW)
  clear hxe hlx hAx okx R0 na g hn
  obtain rfl : c = true := by rw [← HC.out]; rfl
  go_enter Tryz.func152, Tryz.ntmps152
  (try rw [hW])
  go_wp2_with fail
  (try rw [hW])
  go_ret
  exact ⟨rfl, hbW⟩
set_option maxRecDepth 100000 in
set_option maxHeartbeats 8000000 in
theorem holds19_any {xs : List Int} {ls : List (List Int)} {a2 al : Option Addr} {c2 cl : Nat} {w : World} (A : ArgS w (.slice a2 xs.length c2) xs a2 c2) (na : a2 = none → c2 = 0) (hx : xs.length ≤ 1000) (L : RowL w (.slice al ls.length cl) ls al cl) (ok : ∀ x ∈ ls, OkS x) (hl : ls.length ≤ 1000){v : Int} {n : Nat} (g : GoodO v 19 n xs) (hn : ls.length = n) : Calls Tryz.prog 152 #[.agg #[.int .i64 19, .slice a2 xs.length c2, .slice al ls.length cl]] w fun e w' => e = .returned (.bool (holdI 19 xs ls)) ∧ Below w.heap.size w w' := by
  obtain ⟨c, hc⟩ : ∃ c, holdI 19 xs ls = c := ⟨_, rfl⟩
  rw [hc]
  have HC := Lib.hid hc
  clear hc
  have HA := Lib.hid A
  have HL := Lib.hid L
  have HOK := Lib.hid ok
  obtain ⟨m, hm⟩ : ∃ m, xs.length = m := ⟨_, rfl⟩
  obtain ⟨k, hk⟩ : ∃ k, ls.length = k := ⟨_, rfl⟩
  have HM := Lib.hid hm
  have HK := Lib.hid hk
  rw [hm] at hx ⊢
  rw [hk] at hl ⊢
  obtain ⟨W, hW⟩ : ∃ W, w.alloc (.cells #[.int .i64 19, .slice a2 m c2, .slice al k cl] 189) = W := ⟨_, rfl⟩
  have R0 : Row W w.heap.size 189 #[.int .i64 19, .slice a2 m c2, .slice al k cl] := by rw [← hW]; exact Row.new _ _ _
  have hbW : Below w.heap.size w W := by rw [← hW]; exact (Below.refl _ _).alloc (Nat.le_refl _) _
  obtain ⟨k0, k1, k2, _, _, _⟩ := R0.three
  clear A L ok hm hk
  have hk1 : 0 < k := by rw [← HK.out, hn]; have := (ar_one g).1; omega
  have hk1I : (0 : Int) < (k : Int) := by omega
  have okx := HOK.out _ (shp_in (i := 0) (by rw [HK.out]; omega))
  obtain ⟨b, o0, ax, cx, rfl, hbl, hcx, hAx, hnx⟩ := (HL.out.later hbW).at (i := 0) (by rw [HK.out]; omega)
  rw [Nat.add_zero] at hcx
  obtain ⟨x, hxe⟩ : ∃ x, shpI ls 0 = x := ⟨_, rfl⟩
  rw [hxe] at okx hcx hAx
  have hrk := okx.rank
  obtain ⟨lx, hlx⟩ : ∃ l, x.length = l := ⟨_, rfl⟩
  rw [hlx] at hcx hrk
  have HXE := Lib.hid hxe
  have HLX := Lib.hid hlx
  have HAX := Lib.hid hAx
  have HOX := Lib.hid okx
  have HR0 := Lib.hid R0
  have HNA := Lib.hid na
  have HG := Lib.hid g
  have HN := Lib.hid hn
  have HAW := Lib.hid (HA.out.later hbW)
  have HLW := Lib.hid (HL.out.later hbW)
  clear hxe hlx hAx okx R0 na g hn
  have hk2 : 1 < k := by rw [← HK.out, HN.out]; have := ar_three HG.out; omega
  have hk2I : (1 : Int) < (k : Int) := by omega
  have oky := HOK.out _ (shp_in (i := 1) (by rw [HK.out]; omega))
  obtain ⟨b', o', ay, cy, he, hbl2, hcy, hAy, hny⟩ := HLW.out.at (i := 1) (by rw [HK.out]; omega)
  cases he
  obtain ⟨y, hye⟩ : ∃ y, shpI ls 1 = y := ⟨_, rfl⟩
  rw [hye] at oky hcy hAy
  have hrky := oky.rank
  obtain ⟨ly, hly⟩ : ∃ l, y.length = l := ⟨_, rfl⟩
  rw [hly] at hcy hrky
  have HYE := Lib.hid hye
  have HLY := Lib.hid hly
  have HAY := Lib.hid hAy
  have HOY := Lib.hid oky
  clear hye hly hAy oky
  have hco : matB x y = c := by rw [← HYE.out, ← HXE.out]; exact HC.out
  by_cases h2 : lx = 2
  · subst h2
    by_cases h3 : ly = 2
    · subst h3
      obtain ⟨bx, ox, rfl, h1c⟩ := HAX.out.at (i := 1) (by rw [HLX.out]; omega)
      obtain ⟨by_, oy, rfl, h0c⟩ := HAY.out.at (i := 0) (by rw [HLY.out]; omega)
      rw [Nat.add_zero] at h0c
      obtain ⟨p, hp⟩ : ∃ p, x.getD 1 0 = p := ⟨_, rfl⟩
      obtain ⟨q, hq⟩ : ∃ q, y.getD 0 0 = q := ⟨_, rfl⟩
      rw [hp] at h1c
      rw [hq] at h0c
      have hcp : (p == q) = c := by
        rw [← hco]
        unfold matB
        rw [HLX.out, HLY.out, hp, hq]
        by_cases h : p = q
        · subst h; simp
        · simp [h]
      have l1 := World.block_lt_of_cell? _ _ h1c
      have l0 := World.block_lt_of_cell? _ _ h0c
      have MK := Lib.hid (show ∀ X, Below W.heap.size W X → X.cell? ⟨bx, ox + 1, none⟩ = some (.int .i64 p) ∧ X.cell? ⟨by_, oy, none⟩ = some (.int .i64 q) from fun X h => ⟨(h.cell l1).trans h1c, (h.cell l0).trans h0c⟩)
      have Z0 : Below W.heap.size W W.drew := (Below.refl _ _).drew
      have HCP := Lib.hid hcp
      clear hp hq h1c h0c l1 l0 hco
      go_enter Tryz.func152, Tryz.ntmps152
      (try rw [hW])
      go_wp2_with fail
      (try rw [hW])
      clear hW
      refine wp_region_held_drew (S := fun X => X.cell? ⟨bx, ox + 1, none⟩ = some (.int .i64 p) ∧ X.cell? ⟨by_, oy, none⟩ = some (.int .i64 q)) (by kernel_rfl) (MK.out _ Z0) (fun hHeld => ?_)
      obtain ⟨z0, hdrh⟩ : ∃ Y, W.drew = Y := ⟨_, rfl⟩
      rw [hdrh] at Z0 hHeld ⊢
      clear hdrh
      refine todo [0, 1, 2, 3, 4, 5, 6, 7, 8, 9, 10, 11, 12, 13, 14, 15, 16, 17] ?_
      iterate 18
       first
       | (refine todoH (v := ?_) rfl (by kernel_rfl) (fun _ _ _ h => h) (by assumption) (Or.inl ⟨by rfl, ?_⟩) ?_
          rotate_left
          · intro w hSw; (try dsimp only at hSw); go_simp; (try with_reducible rfl)
          try simp only [Act.put, List.getElem_toArray, List.getElem_cons_succ, List.getElem_cons_zero, List.setIfInBounds_toArray, List.set_cons_zero, List.set_cons_succ])
       | (refine todoH (v := undef) rfl (by kernel_rfl) (fun _ _ _ h => h) (by assumption) (Or.inr ⟨by rfl, rfl⟩) ?_
          try simp only [Act.put, List.getElem_toArray, List.getElem_cons_succ, List.getElem_cons_zero, List.setIfInBounds_toArray, List.set_cons_zero, List.set_cons_succ])
      refine todone ?_
      refine wpAnyH_done (by kernel_rfl) ?_ _
      (try dsimp only [Straight])
      have hcp2 := HCP.out
      have Z0' : Below w.heap.size w z0 := hbW.trans (Z0.mono hbW.size)
      go_wp2_with fail
      go_ret
      exact ⟨by first | rfl | (rw [HCP.out]), Z0'⟩
    · obtain rfl : c = false := by rw [← hco]; unfold matB; exact decide_eq_false (by rw [HLY.out]; exact fun h => h3 h.2.1)
      have i1 : ((ly : Int) == 2) = false := by simp; omega
      have HCO := Lib.hid hco
      clear hco
      go_enter Tryz.func152, Tryz.ntmps152
      (try rw [hW])
      go_wp2_with fail
      (try rw [hW])
      clear hW
      refine wp_region_held_drew (S := fun _ => True) (by kernel_rfl) trivial (fun hHeld => ?_)
      refine todo [0, 1, 2, 3, 4, 5, 6, 7, 8, 9, 10, 11, 12, 13, 14, 15, 16, 17] ?_
      iterate 18
       first
       | (refine todoH (v := ?_) rfl (by kernel_rfl) (fun _ _ _ h => h) (by assumption) (Or.inl ⟨by rfl, ?_⟩) ?_
          rotate_left
          · intro w hSw; (try dsimp only at hSw); go_simp; (try with_reducible rfl)
          try simp only [Act.put, List.getElem_toArray, List.getElem_cons_succ, List.getElem_cons_zero, List.setIfInBounds_toArray, List.set_cons_zero, List.set_cons_succ])
       | (refine todoH (v := undef) rfl (by kernel_rfl) (fun _ _ _ h => h) (by assumption) (Or.inr ⟨by rfl, rfl⟩) ?_
          try simp only [Act.put, List.getElem_toArray, List.getElem_cons_succ, List.getElem_cons_zero, List.setIfInBounds_toArray, List.set_cons_zero, List.set_cons_succ])
      refine todone ?_
      refine wpAnyH_done (by kernel_rfl) ?_ _
      (try dsimp only [Straight])
      go_wp2_with fail
      go_ret
      exact ⟨rfl, hbW.drew⟩
  · obtain rfl : c = false := by rw [← hco]; unfold matB; exact decide_eq_false (by rw [HLX.out]; exact fun h => h2 h.1)
    have i1 : ((lx : Int) == 2) = false := by simp; omega
    have HCO := Lib.hid hco
    clear hco
    go_enter Tryz.func152, Tryz.ntmps152
    (try rw [hW])
    go_wp2_with fail
    (try rw [hW])
    clear hW
    refine wp_region_held_drew (S := fun _ => True) (by kernel_rfl) trivial (fun hHeld => ?_)
    refine todo [0, 1, 2, 3, 4, 5, 6, 7, 8, 9, 10, 11, 12, 13, 14, 15, 16, 17] ?_
    iterate 18
     first
     | (refine todoH (v := ?_) rfl (by kernel_rfl) (fun _ _ _ h => h) (by assumption) (Or.inl ⟨by rfl, ?_⟩) ?_
        rotate_left
        · intro w hSw; (try dsimp only at hSw); go_simp; (try with_reducible rfl)
        try simp only [Act.put, List.getElem_toArray, List.getElem_cons_succ, List.getElem_cons_zero, List.setIfInBounds_toArray, List.set_cons_zero, List.set_cons_succ])
     | (refine todoH (v := undef) rfl (by kernel_rfl) (fun _ _ _ h => h) (by assumption) (Or.inr ⟨by rfl, rfl⟩) ?_
        try simp only [Act.put, List.getElem_toArray, List.getElem_cons_succ, List.getElem_cons_zero, List.setIfInBounds_toArray, List.set_cons_zero, List.set_cons_succ])
    refine todone ?_
    refine wpAnyH_done (by kernel_rfl) ?_ _
    (try dsimp only [Straight])
    go_wp2_with fail
    go_ret
    exact ⟨rfl, hbW.drew⟩
set_option maxRecDepth 100000 in
set_option maxHeartbeats 8000000 in
theorem holds20_any {xs : List Int} {ls : List (List Int)} {a2 al : Option Addr} {c2 cl : Nat} {w : World} (A : ArgS w (.slice a2 xs.length c2) xs a2 c2) (na : a2 = none → c2 = 0) (hx : xs.length ≤ 1000) (L : RowL w (.slice al ls.length cl) ls al cl) (ok : ∀ x ∈ ls, OkS x) (hl : ls.length ≤ 1000){v : Int} {n : Nat} (g : GoodO v 20 n xs) (hn : ls.length = n) : Calls Tryz.prog 152 #[.agg #[.int .i64 20, .slice a2 xs.length c2, .slice al ls.length cl]] w fun e w' => e = .returned (.bool (holdI 20 xs ls)) ∧ Below w.heap.size w w' := by
  obtain ⟨c, hc⟩ : ∃ c, holdI 20 xs ls = c := ⟨_, rfl⟩
  rw [hc]
  have HC := Lib.hid hc
  clear hc
  have HA := Lib.hid A
  have HL := Lib.hid L
  have HOK := Lib.hid ok
  obtain ⟨m, hm⟩ : ∃ m, xs.length = m := ⟨_, rfl⟩
  obtain ⟨k, hk⟩ : ∃ k, ls.length = k := ⟨_, rfl⟩
  have HM := Lib.hid hm
  have HK := Lib.hid hk
  rw [hm] at hx ⊢
  rw [hk] at hl ⊢
  obtain ⟨W, hW⟩ : ∃ W, w.alloc (.cells #[.int .i64 20, .slice a2 m c2, .slice al k cl] 189) = W := ⟨_, rfl⟩
  have R0 : Row W w.heap.size 189 #[.int .i64 20, .slice a2 m c2, .slice al k cl] := by rw [← hW]; exact Row.new _ _ _
  have hbW : Below w.heap.size w W := by rw [← hW]; exact (Below.refl _ _).alloc (Nat.le_refl _) _
  obtain ⟨k0, k1, k2, _, _, _⟩ := R0.three
  clear A L ok hm hk
  have hk1 : 0 < k := by rw [← HK.out, hn]; have := (ar_one g).1; omega
  have hk1I : (0 : Int) < (k : Int) := by omega
  have okx := HOK.out _ (shp_in (i := 0) (by rw [HK.out]; omega))
  obtain ⟨b, o0, ax, cx, rfl, hbl, hcx, hAx, hnx⟩ := (HL.out.later hbW).at (i := 0) (by rw [HK.out]; omega)
  rw [Nat.add_zero] at hcx
  obtain ⟨x, hxe⟩ : ∃ x, shpI ls 0 = x := ⟨_, rfl⟩
  rw [hxe] at okx hcx hAx
  have hrk := okx.rank
  obtain ⟨lx, hlx⟩ : ∃ l, x.length = l := ⟨_, rfl⟩
  rw [hlx] at hcx hrk
  have HXE := Lib.hid hxe
  have HLX := Lib.hid hlx
  have HAX := Lib.hid hAx
  have HOX := Lib.hid okx
  have HR0 := Lib.hid R0
  have HNA := Lib.hid na
  have HG := Lib.hid g
  have HN := Lib.hid hn
  have HAW := Lib.hid (HA.out.later hbW)
  have HLW := Lib.hid (HL.out.later hbW)
  clear hxe hlx hAx okx R0 na g hn
  have hax := fun X (hX : Below W.heap.size W X) => axesS_any (lx : Int) (HAW.out.later hX) HNA.out (by rw [HM.out]; omega) (by omega) (by omega)
  obtain ⟨t, ht⟩ : ∃ t, axesB xs (lx : Int) = t := ⟨_, rfl⟩
  have hac : axesC xs (lx : Int) = if t = true then 0 else 11 := by unfold axesC; rw [ht]
  rw [HM.out, hac] at hax
  have HAC := Lib.hid hax
  have hco : t = c := by rw [← ht, ← HLX.out, ← HXE.out]; exact HC.out
  have HCO := Lib.hid hco
  clear ht hac hax hco
  go_enter Tryz.func152, Tryz.ntmps152
  (try rw [hW])
  go_wp2_with fail
  (try rw [hW])
  clear hW
  refine (HAC.out _ (Below.refl W.heap.size W)).mono ?_
  rintro e w2 ⟨rfl, hy⟩
  have E2 : Below w.heap.size w w2 := hbW.trans (((Below.refl W.heap.size W).trans (hy.mono (Below.refl W.heap.size W).size)).mono hbW.size)
  clear hy
  cases t with
  | true =>
    go_wp2_with fail
    go_ret
    exact ⟨by first | rfl | (rw [← HCO.out]; rfl), E2⟩
  | false =>
    go_wp2_with fail
    go_ret
    exact ⟨by first | rfl | (rw [← HCO.out]; rfl), E2⟩
theorem holds_any {o : Int} {xs : List Int} {ls : List (List Int)} {a2 al : Option Addr} {c2 cl : Nat} {w : World} (A : ArgS w (.slice a2 xs.length c2) xs a2 c2) (na : a2 = none → c2 = 0) (hx : xs.length ≤ 1000) (L : RowL w (.slice al ls.length cl) ls al cl) (ok : ∀ x ∈ ls, OkS x) (hl : ls.length ≤ 1000) {v : Int} {n : Nat} (g : GoodO v o n xs) (hn : ls.length = n) : Calls Tryz.prog 152 #[.agg #[.int .i64 o, .slice a2 xs.length c2, .slice al ls.length cl]] w fun e w' => e = .returned (.bool (holdI o xs ls)) ∧ Below w.heap.size w w' := by
  have ho := of_decide_eq_true g.inn
  have hoo : o = 1 ∨ o = 2 ∨ o = 3 ∨ o = 4 ∨ o = 5 ∨ o = 6 ∨ o = 7 ∨ o = 8 ∨ o = 9 ∨ o = 10 ∨ o = 11 ∨ o = 12 ∨ o = 13 ∨ o = 14 ∨ o = 15 ∨ o = 16 ∨ o = 17 ∨ o = 18 ∨ o = 19 ∨ o = 20 := by omega
  clear ho
  rcases hoo with rfl | rfl | rfl | rfl | rfl | rfl | rfl | rfl | rfl | rfl | rfl | rfl | rfl | rfl | rfl | rfl | rfl | rfl | rfl | rfl
  · exact holds1_any A na hx L ok hl g hn
  · exact holds2_any A na hx L ok hl g hn
  · exact holds3_any A na hx L ok hl g hn
  · exact holds4_any A na hx L ok hl g hn
  · exact holds5_any A na hx L ok hl g hn
  · exact holds6_any A na hx L ok hl g hn
  · exact holds7_any A na hx L ok hl g hn
  · exact holds8_any A na hx L ok hl g hn
  · exact holds9_any A na hx L ok hl g hn
  · exact holds10_any A na hx L ok hl g hn
  · exact holds11_any A na hx L ok hl g hn
  · exact holds12_any A na hx L ok hl g hn
  · exact holds13_any A na hx L ok hl g hn
  · exact holds14_any A na hx L ok hl g hn
  · exact holds15_any A na hx L ok hl g hn
  · exact holds16_any A na hx L ok hl g hn
  · exact holds17_any A na hx L ok hl g hn
  · exact holds18_any A na hx L ok hl g hn
  · exact holds19_any A na hx L ok hl g hn
  · exact holds20_any A na hx L ok hl g hn
end
end Go.Proofs.YtjgiacghlkkjfaaGreatDoor
