/-
  Part 22 of 29: contracts and what they rest on (ICode6).
-/
import Derived.Test.YtjgiacghlkkjfaaGreatDoorF1
import Derived.Test.YtjgiacghlkkjfaaGreatDoorF2
import Derived.Test.YtjgiacghlkkjfaaGreatDoorF3
import Derived.Test.YtjgiacghlkkjfaaGreatDoorF4
import Derived.Test.YtjgiacghlkkjfaaGreatDoorF5
import Derived.Test.YtjgiacghlkkjfaaGreatDoorF6
import Derived.Test.YtjgiacghlkkjfaaGreatDoorF7
import Derived.Test.YtjgiacghlkkjfaaGreatDoorF8
import Derived.Test.YtjgiacghlkkjfaaGreatDoorF9
import Derived.Test.YtjgiacghlkkjfaaGreatDoorF10
import Derived.Test.YtjgiacghlkkjfaaGreatDoorF11
import Derived.Test.YtjgiacghlkkjfaaGreatDoorF13
import Derived.Test.YtjgiacghlkkjfaaGreatDoorF14
import Derived.Test.YtjgiacghlkkjfaaGreatDoorF16
import Derived.Test.YtjgiacghlkkjfaaGreatDoorF17
import Derived.Test.YtjgiacghlkkjfaaGreatDoorF18
import Derived.Test.YtjgiacghlkkjfaaGreatDoorF19
import Derived.WalkKit
import Derived.Test.YtjgiacghlkkjfaaGreatDoorRows
import Derived.OrdersHeld
import Derived.Deep.RegionHeld
import Derived.BigQuiet
import Derived.Deep.QuietTactic
import Derived.Lib.Hide
import Derived.Lib.Small
import Derived.Lib.Walk
import Derived.Lib.BitFns
import Derived.Maps.AppendAt
import Derived.RangeFuncNested
import Derived.RangeFuncBound
import Derived.RangeFuncCalls
import Derived.RangeFuncLeaves
import Derived.Shelf.Abstract
import Derived.OwnWalkIn
import Derived.TacticsInMore
import Derived.LoopNIn
import Derived.LoopIn
import Derived.RangeFuncBox
import Derived.Deep.RegionHeld3
import Derived.OrdersIn
import Derived.StillTailTactics
import Derived.RangeFuncFrom
import Derived.Laws.EntriesVeiled
import Derived.ProofKit
import Derived.OpenShut
import Derived.JoinedCond
import Derived.Carry
import Derived.Laws.AppendOwnNone
import Derived.Lib.ItoaNum
import Derived.Deep.RegionLaw
import Derived.WalkMore
import Derived.Lib.SmallJoins
import Derived.IntWalk
import Derived.Deep.DeepCutAuto
import Derived.Laws.OwnMore
import Derived.ArgAppend
import Derived.Deep.Slices
import Derived.Laws.CopyOwn
import Derived.Lib.SliceRun
import Derived.SizedLaws
import Derived.Great.BuildSlice
namespace Go.Proofs.YtjgiacghlkkjfaaGreatDoor
set_option maxRecDepth 100000
section
open Go.RowKit
set_option linter.unusedVariables false
set_option linter.unusedSimpArgs false
set_option maxRecDepth 100000 in
set_option maxHeartbeats 8000000 in
theorem result1_any {xs : List Int} {ls : List (List Int)} {a2 al : Option Addr} {c2 cl : Nat} {w : World} (A : ArgS w (.slice a2 xs.length c2) xs a2 c2) (na : a2 = none → c2 = 0) (hx : xs.length ≤ 1000) (L : RowL w (.slice al ls.length cl) ls al cl) (ok : ∀ x ∈ ls, OkS x) (hl : ls.length ≤ 1000){v : Int} {n : Nat} (g : GoodO v 1 n xs) (hn : ls.length = n) (hho : holdI 1 xs ls = true) : Calls Tryz.prog 153 #[.agg #[.int .i64 1, .slice a2 xs.length c2, .slice al ls.length cl]] w fun e w' => ∃ r, e = .returned r ∧ ResS w.heap.size w' r (valI 1 xs ls) ∧ Below w.heap.size w w' := by
  obtain ⟨res, hres⟩ : ∃ c, valI 1 xs ls = c := ⟨_, rfl⟩
  rw [hres]
  have HRES := Lib.hid hres
  have HHO := Lib.hid hho
  clear hres hho
  have HA := Lib.hid A
  have HL := Lib.hid L
  have HOK := Lib.hid ok
  obtain ⟨m, hm⟩ : ∃ m, xs.length = m := ⟨_, rfl⟩
  obtain ⟨k, hk⟩ : ∃ k, ls.length = k := ⟨_, rfl⟩
  have HM := Lib.hid hm
  have HK := Lib.hid hk
  rw [hm] at hx ⊢
  rw [hk] at hl ⊢
  obtain ⟨W, hW⟩ : ∃ W, w.alloc (.cells #[.int .i64 1, .slice a2 m c2, .slice al k cl] 189) = W := ⟨_, rfl⟩
  have R0 : Row W w.heap.size 189 #[.int .i64 1, .slice a2 m c2, .slice al k cl] := by rw [← hW]; exact Row.new _ _ _
  have hbW : Below w.heap.size w W := by rw [← hW]; exact (Below.refl _ _).alloc (Nat.le_refl _) _
  obtain ⟨k0, k1, k2, _, _, _⟩ := R0.three
  clear A L ok hm hk
  have hk1 : 0 < k := by rw [← HK.out, hn]; have := (ar_one g).1; omega
  have hk1I : (0 : Int) < (k : Int) := by omega
  have okx := HOK.out _ (shp_in (i := 0) (by rw [HK.out]; omega))
  obtain ⟨b, o0, ax, cx, rfl, hbl, hcx, hAx, hnx⟩ := (HL.out.later hbW).at (i := 0) (by rw [HK.out]; omega)
  rw [Nat.add_zero] at hcx
  obtain ⟨x, hxe⟩ : ∃ x, shpI ls 0 = x := ⟨_, rfl⟩
  rw [hxe] at okx hcx hAx
  have hrk := okx.rank
  obtain ⟨lx, hlx⟩ : ∃ l, x.length = l := ⟨_, rfl⟩
  rw [hlx] at hcx hrk
  have HXE := Lib.hid hxe
  have HLX := Lib.hid hlx
  have HAX := Lib.hid hAx
  have HOX := Lib.hid okx
  have HR0 := Lib.hid R0
  have HNA := Lib.hid na
  have HG := Lib.hid g
  have HN := Lib.hid hn
  have HAW := Lib.hid (HA.out.later hbW)
  have HLW := Lib.hid (HL.out.later hbW)
  clear hxe hlx hAx okx R0 na g hn
  have hres : shpI ls 0 = res := HRES.out
  have hcc := cloneS_any HAX.out hnx (by rw [HLX.out]; omega)
  rw [HLX.out, ← HXE.out, hres] at hcc
  clear hres
  have HCC := Lib.hid hcc
  clear hcc
  go_enter Tryz.func153, Tryz.ntmps153
  (try rw [hW])
  go_wp2_with fail
  (try rw [hW])
  clear hW
  refine HCC.out.mono ?_
  rintro e w2 ⟨r, rfl, hr, hy⟩
  have B2 : Below w.heap.size w w2 := hbW.trans (hy.mono hbW.size)
  have hr2 := hr.mono hbW.size
  obtain ⟨ar_, cr_, rfl, hr3⟩ := res_slice11 hr2
  have HR3 := Lib.hid hr3
  clear hy hr hr2 hr3
  go_wp2_with fail
  go_ret
  exact ⟨_, rfl, HR3.out, B2⟩
set_option maxRecDepth 100000 in
set_option maxHeartbeats 8000000 in
theorem result2_any {xs : List Int} {ls : List (List Int)} {a2 al : Option Addr} {c2 cl : Nat} {w : World} (A : ArgS w (.slice a2 xs.length c2) xs a2 c2) (na : a2 = none → c2 = 0) (hx : xs.length ≤ 1000) (L : RowL w (.slice al ls.length cl) ls al cl) (ok : ∀ x ∈ ls, OkS x) (hl : ls.length ≤ 1000){v : Int} {n : Nat} (g : GoodO v 2 n xs) (hn : ls.length = n) (hho : holdI 2 xs ls = true) : Calls Tryz.prog 153 #[.agg #[.int .i64 2, .slice a2 xs.length c2, .slice al ls.length cl]] w fun e w' => ∃ r, e = .returned r ∧ ResS w.heap.size w' r (valI 2 xs ls) ∧ Below w.heap.size w w' := by
  obtain ⟨res, hres⟩ : ∃ c, valI 2 xs ls = c := ⟨_, rfl⟩
  rw [hres]
  have HRES := Lib.hid hres
  have HHO := Lib.hid hho
  clear hres hho
  have HA := Lib.hid A
  have HL := Lib.hid L
  have HOK := Lib.hid ok
  obtain ⟨m, hm⟩ : ∃ m, xs.length = m := ⟨_, rfl⟩
  obtain ⟨k, hk⟩ : ∃ k, ls.length = k := ⟨_, rfl⟩
  have HM := Lib.hid hm
  have HK := Lib.hid hk
  rw [hm] at hx ⊢
  rw [hk] at hl ⊢
  obtain ⟨W, hW⟩ : ∃ W, w.alloc (.cells #[.int .i64 2, .slice a2 m c2, .slice al k cl] 189) = W := ⟨_, rfl⟩
  have R0 : Row W w.heap.size 189 #[.int .i64 2, .slice a2 m c2, .slice al k cl] := by rw [← hW]; exact Row.new _ _ _
  have hbW : Below w.heap.size w W := by rw [← hW]; exact (Below.refl _ _).alloc (Nat.le_refl _) _
  obtain ⟨k0, k1, k2, _, _, _⟩ := R0.three
  clear A L ok hm hk
  have hk1 : 0 < k := by rw [← HK.out, hn]; have := (ar_one g).1; omega
  have hk1I : (0 : Int) < (k : Int) := by omega
  have okx := HOK.out _ (shp_in (i := 0) (by rw [HK.out]; omega))
  obtain ⟨b, o0, ax, cx, rfl, hbl, hcx, hAx, hnx⟩ := (HL.out.later hbW).at (i := 0) (by rw [HK.out]; omega)
  rw [Nat.add_zero] at hcx
  obtain ⟨x, hxe⟩ : ∃ x, shpI ls 0 = x := ⟨_, rfl⟩
  rw [hxe] at okx hcx hAx
  have hrk := okx.rank
  obtain ⟨lx, hlx⟩ : ∃ l, x.length = l := ⟨_, rfl⟩
  rw [hlx] at hcx hrk
  have HXE := Lib.hid hxe
  have HLX := Lib.hid hlx
  have HAX := Lib.hid hAx
  have HOX := Lib.hid okx
  have HR0 := Lib.hid R0
  have HNA := Lib.hid na
  have HG := Lib.hid g
  have HN := Lib.hid hn
  have HAW := Lib.hid (HA.out.later hbW)
  have HLW := Lib.hid (HL.out.later hbW)
  clear hxe hlx hAx okx R0 na g hn
  have hres : shpI ls 0 = res := HRES.out
  have hcc := cloneS_any HAX.out hnx (by rw [HLX.out]; omega)
  rw [HLX.out, ← HXE.out, hres] at hcc
  clear hres
  have HCC := Lib.hid hcc
  clear hcc
  go_enter Tryz.func153, Tryz.ntmps153
  (try rw [hW])
  go_wp2_with fail
  (try rw [hW])
  clear hW
  refine HCC.out.mono ?_
  rintro e w2 ⟨r, rfl, hr, hy⟩
  have B2 : Below w.heap.size w w2 := hbW.trans (hy.mono hbW.size)
  have hr2 := hr.mono hbW.size
  obtain ⟨ar_, cr_, rfl, hr3⟩ := res_slice11 hr2
  have HR3 := Lib.hid hr3
  clear hy hr hr2 hr3
  go_wp2_with fail
  go_ret
  exact ⟨_, rfl, HR3.out, B2⟩
set_option maxRecDepth 100000 in
set_option maxHeartbeats 8000000 in
theorem result3_any {xs : List Int} {ls : List (List Int)} {a2 al : Option Addr} {c2 cl : Nat} {w : World} (A : ArgS w (.slice a2 xs.length c2) xs a2 c2) (na : a2 = none → c2 = 0) (hx : xs.length ≤ 1000) (L : RowL w (.slice al ls.length cl) ls al cl) (ok : ∀ x ∈ ls, OkS x) (hl : ls.length ≤ 1000){v : Int} {n : Nat} (g : GoodO v 3 n xs) (hn : ls.length = n) (hho : holdI 3 xs ls = true) : Calls Tryz.prog 153 #[.agg #[.int .i64 3, .slice a2 xs.length c2, .slice al ls.length cl]] w fun e w' => ∃ r, e = .returned r ∧ ResS w.heap.size w' r (valI 3 xs ls) ∧ Below w.heap.size w w' := by
  obtain ⟨res, hres⟩ : ∃ c, valI 3 xs ls = c := ⟨_, rfl⟩
  rw [hres]
  have HRES := Lib.hid hres
  have HHO := Lib.hid hho
  clear hres hho
  have HA := Lib.hid A
  have HL := Lib.hid L
  have HOK := Lib.hid ok
  obtain ⟨m, hm⟩ : ∃ m, xs.length = m := ⟨_, rfl⟩
  obtain ⟨k, hk⟩ : ∃ k, ls.length = k := ⟨_, rfl⟩
  have HM := Lib.hid hm
  have HK := Lib.hid hk
  rw [hm] at hx ⊢
  rw [hk] at hl ⊢
  obtain ⟨W, hW⟩ : ∃ W, w.alloc (.cells #[.int .i64 3, .slice a2 m c2, .slice al k cl] 189) = W := ⟨_, rfl⟩
  have R0 : Row W w.heap.size 189 #[.int .i64 3, .slice a2 m c2, .slice al k cl] := by rw [← hW]; exact Row.new _ _ _
  have hbW : Below w.heap.size w W := by rw [← hW]; exact (Below.refl _ _).alloc (Nat.le_refl _) _
  obtain ⟨k0, k1, k2, _, _, _⟩ := R0.three
  clear A L ok hm hk
  have hk1 : 0 < k := by rw [← HK.out, hn]; have := (ar_one g).1; omega
  have hk1I : (0 : Int) < (k : Int) := by omega
  have okx := HOK.out _ (shp_in (i := 0) (by rw [HK.out]; omega))
  obtain ⟨b, o0, ax, cx, rfl, hbl, hcx, hAx, hnx⟩ := (HL.out.later hbW).at (i := 0) (by rw [HK.out]; omega)
  rw [Nat.add_zero] at hcx
  obtain ⟨x, hxe⟩ : ∃ x, shpI ls 0 = x := ⟨_, rfl⟩
  rw [hxe] at okx hcx hAx
  have hrk := okx.rank
  obtain ⟨lx, hlx⟩ : ∃ l, x.length = l := ⟨_, rfl⟩
  rw [hlx] at hcx hrk
  have HXE := Lib.hid hxe
  have HLX := Lib.hid hlx
  have HAX := Lib.hid hAx
  have HOX := Lib.hid okx
  have HR0 := Lib.hid R0
  have HNA := Lib.hid na
  have HG := Lib.hid g
  have HN := Lib.hid hn
  have HAW := Lib.hid (HA.out.later hbW)
  have HLW := Lib.hid (HL.out.later hbW)
  clear hxe hlx hAx okx R0 na g hn
  have hres : shpI ls 0 = res := HRES.out
  have hcc := cloneS_any HAX.out hnx (by rw [HLX.out]; omega)
  rw [HLX.out, ← HXE.out, hres] at hcc
  clear hres
  have HCC := Lib.hid hcc
  clear hcc
  go_enter Tryz.func153, Tryz.ntmps153
  (try rw [hW])
  go_wp2_with fail
  (try rw [hW])
  clear hW
  refine HCC.out.mono ?_
  rintro e w2 ⟨r, rfl, hr, hy⟩
  have B2 : Below w.heap.size w w2 := hbW.trans (hy.mono hbW.size)
  have hr2 := hr.mono hbW.size
  obtain ⟨ar_, cr_, rfl, hr3⟩ := res_slice11 hr2
  have HR3 := Lib.hid hr3
  clear hy hr hr2 hr3
  go_wp2_with fail
  go_ret
  exact ⟨_, rfl, HR3.out, B2⟩
set_option maxRecDepth 100000 in
set_option maxHeartbeats 8000000 in
theorem result4_any {xs : List Int} {ls : List (List Int)} {a2 al : Option Addr} {c2 cl : Nat} {w : World} (A : ArgS w (.slice a2 xs.length c2) xs a2 c2) (na : a2 = none → c2 = 0) (hx : xs.length ≤ 1000) (L : RowL w (.slice al ls.length cl) ls al cl) (ok : ∀ x ∈ ls, OkS x) (hl : ls.length ≤ 1000){v : Int} {n : Nat} (g : GoodO v 4 n xs) (hn : ls.length = n) (hho : holdI 4 xs ls = true) : Calls Tryz.prog 153 #[.agg #[.int .i64 4, .slice a2 xs.length c2, .slice al ls.length cl]] w fun e w' => ∃ r, e = .returned r ∧ ResS w.heap.size w' r (valI 4 xs ls) ∧ Below w.heap.size w w' := by
  obtain ⟨res, hres⟩ : ∃ c, valI 4 xs ls = c := ⟨_, rfl⟩
  rw [hres]
  have HRES := Lib.hid hres
  have HHO := Lib.hid hho
  clear hres hho
  have HA := Lib.hid A
  have HL := Lib.hid L
  have HOK := Lib.hid ok
  obtain ⟨m, hm⟩ : ∃ m, xs.length = m := ⟨_, rfl⟩
  obtain ⟨k, hk⟩ : ∃ k, ls.length = k := ⟨_, rfl⟩
  have HM := Lib.hid hm
  have HK := Lib.hid hk
  rw [hm] at hx ⊢
  rw [hk] at hl ⊢
  obtain ⟨W, hW⟩ : ∃ W, w.alloc (.cells #[.int .i64 4, .slice a2 m c2, .slice al k cl] 189) = W := ⟨_, rfl⟩
  have R0 : Row W w.heap.size 189 #[.int .i64 4, .slice a2 m c2, .slice al k cl] := by rw [← hW]; exact Row.new _ _ _
  have hbW : Below w.heap.size w W := by rw [← hW]; exact (Below.refl _ _).alloc (Nat.le_refl _) _
  obtain ⟨k0, k1, k2, _, _, _⟩ := R0.three
  clear A L ok hm hk
  have hk1 : 0 < k := by rw [← HK.out, hn]; have := (ar_one g).1; omega
  have hk1I : (0 : Int) < (k : Int) := by omega
  have okx := HOK.out _ (shp_in (i := 0) (by rw [HK.out]; omega))
  obtain ⟨b, o0, ax, cx, rfl, hbl, hcx, hAx, hnx⟩ := (HL.out.later hbW).at (i := 0) (by rw [HK.out]; omega)
  rw [Nat.add_zero] at hcx
  obtain ⟨x, hxe⟩ : ∃ x, shpI ls 0 = x := ⟨_, rfl⟩
  rw [hxe] at okx hcx hAx
  have hrk := okx.rank
  obtain ⟨lx, hlx⟩ : ∃ l, x.length = l := ⟨_, rfl⟩
  rw [hlx] at hcx hrk
  have HXE := Lib.hid hxe
  have HLX := Lib.hid hlx
  have HAX := Lib.hid hAx
  have HOX := Lib.hid okx
  have HR0 := Lib.hid R0
  have HNA := Lib.hid na
  have HG := Lib.hid g
  have HN := Lib.hid hn
  have HAW := Lib.hid (HA.out.later hbW)
  have HLW := Lib.hid (HL.out.later hbW)
  clear hxe hlx hAx okx R0 na g hn
  have hres : shpI ls 0 = res := HRES.out
  have hcc := cloneS_any HAX.out hnx (by rw [HLX.out]; omega)
  rw [HLX.out, ← HXE.out, hres] at hcc
  clear hres
  have HCC := Lib.hid hcc
  clear hcc
  go_enter Tryz.func153, Tryz.ntmps153
  (try rw [hW])
  go_wp2_with fail
  (try rw [hW])
  clear hW
  refine HCC.out.mono ?_
  rintro e w2 ⟨r, rfl, hr, hy⟩
  have B2 : Below w.heap.size w w2 := hbW.trans (hy.mono hbW.size)
  have hr2 := hr.mono hbW.size
  obtain ⟨ar_, cr_, rfl, hr3⟩ := res_slice11 hr2
  have HR3 := Lib.hid hr3
  clear hy hr hr2 hr3
  go_wp2_with fail
  go_ret
  exact ⟨_, rfl, HR3.out, B2⟩
set_option maxRecDepth 100000 in
set_option maxHeartbeats 8000000 in
theorem result5_any {xs : List Int} {ls : List (List Int)} {a2 al : Option Addr} {c2 cl : Nat} {w : World} (A : ArgS w (.slice a2 xs.length c2) xs a2 c2) (na : a2 = none → c2 = 0) (hx : xs.length ≤ 1000) (L : RowL w (.slice al ls.length cl) ls al cl) (ok : ∀ x ∈ ls, OkS x) (hl : ls.length ≤ 1000){v : Int} {n : Nat} (g : GoodO v 5 n xs) (hn : ls.length = n) (hho : holdI 5 xs ls = true) : Calls Tryz.prog 153 #[.agg #[.int .i64 5, .slice a2 xs.length c2, .slice al ls.length cl]] w fun e w' => ∃ r, e = .returned r ∧ ResS w.heap.size w' r (valI 5 xs ls) ∧ Below w.heap.size w w' := by
  obtain ⟨res, hres⟩ : ∃ c, valI 5 xs ls = c := ⟨_, rfl⟩
  rw [hres]
  have HRES := Lib.hid hres
  have HHO := Lib.hid hho
  clear hres hho
  have HA := Lib.hid A
  have HL := Lib.hid L
  have HOK := Lib.hid ok
  obtain ⟨m, hm⟩ : ∃ m, xs.length = m := ⟨_, rfl⟩
  obtain ⟨k, hk⟩ : ∃ k, ls.length = k := ⟨_, rfl⟩
  have HM := Lib.hid hm
  have HK := Lib.hid hk
  rw [hm] at hx ⊢
  rw [hk] at hl ⊢
  obtain ⟨W, hW⟩ : ∃ W, w.alloc (.cells #[.int .i64 5, .slice a2 m c2, .slice al k cl] 189) = W := ⟨_, rfl⟩
  have R0 : Row W w.heap.size 189 #[.int .i64 5, .slice a2 m c2, .slice al k cl] := by rw [← hW]; exact Row.new _ _ _
  have hbW : Below w.heap.size w W := by rw [← hW]; exact (Below.refl _ _).alloc (Nat.le_refl _) _
  obtain ⟨k0, k1, k2, _, _, _⟩ := R0.three
  clear A L ok hm hk
  have hk1 : 0 < k := by rw [← HK.out, hn]; have := (ar_one g).1; omega
  have hk1I : (0 : Int) < (k : Int) := by omega
  have okx := HOK.out _ (shp_in (i := 0) (by rw [HK.out]; omega))
  obtain ⟨b, o0, ax, cx, rfl, hbl, hcx, hAx, hnx⟩ := (HL.out.later hbW).at (i := 0) (by rw [HK.out]; omega)
  rw [Nat.add_zero] at hcx
  obtain ⟨x, hxe⟩ : ∃ x, shpI ls 0 = x := ⟨_, rfl⟩
  rw [hxe] at okx hcx hAx
  have hrk := okx.rank
  obtain ⟨lx, hlx⟩ : ∃ l, x.length = l := ⟨_, rfl⟩
  rw [hlx] at hcx hrk
  have HXE := Lib.hid hxe
  have HLX := Lib.hid hlx
  have HAX := Lib.hid hAx
  have HOX := Lib.hid okx
  have HR0 := Lib.hid R0
  have HNA := Lib.hid na
  have HG := Lib.hid g
  have HN := Lib.hid hn
  have HAW := Lib.hid (HA.out.later hbW)
  have HLW := Lib.hid (HL.out.later hbW)
  clear hxe hlx hAx okx R0 na g hn
  have hres : shpI ls 0 = res := HRES.out
  have hcc := cloneS_any HAX.out hnx (by rw [HLX.out]; omega)
  rw [HLX.out, ← HXE.out, hres] at hcc
  clear hres
  have HCC := Lib.hid hcc
  clear hcc
  go_enter Tryz.func153, Tryz.ntmps153
  (try rw [hW])
  go_wp2_with fail
  (try rw [hW])
  clear hW
  refine HCC.out.mono ?_
  rintro e w2 ⟨r, rfl, hr, hy⟩
  have B2 : Below w.heap.size w w2 := hbW.trans (hy.mono hbW.size)
  have hr2 := hr.mono hbW.size
  obtain ⟨ar_, cr_, rfl, hr3⟩ := res_slice11 hr2
  have HR3 := Lib.hid hr3
  clear hy hr hr2 hr3
  go_wp2_with fail
  go_ret
  exact ⟨_, rfl, HR3.out, B2⟩
set_option maxRecDepth 100000 in
set_option maxHeartbeats 8000000 in
theorem result6_any {xs : List Int} {ls : List (List Int)} {a2 al : Option Addr} {c2 cl : Nat} {w : World} (A : ArgS w (.slice a2 xs.length c2) xs a2 c2) (na : a2 = none → c2 = 0) (hx : xs.length ≤ 1000) (L : RowL w (.slice al ls.length cl) ls al cl) (ok : ∀ x ∈ ls, OkS x) (hl : ls.length ≤ 1000){v : Int} {n : Nat} (g : GoodO v 6 n xs) (hn : ls.length = n) (hho : holdI 6 xs ls = true) : Calls Tryz.prog 153 #[.agg #[.int .i64 6, .slice a2 xs.length c2, .slice al ls.length cl]] w fun e w' => ∃ r, e = .returned r ∧ ResS w.heap.size w' r (valI 6 xs ls) ∧ Below w.heap.size w w' := by
  obtain ⟨res, hres⟩ : ∃ c, valI 6 xs ls = c := ⟨_, rfl⟩
  rw [hres]
  have HRES := Lib.hid hres
  have HHO := Lib.hid hho
  clear hres hho
  have HA := Lib.hid A
  have HL := Lib.hid L
  have HOK := Lib.hid ok
  obtain ⟨m, hm⟩ : ∃ m, xs.length = m := ⟨_, rfl⟩
  obtain ⟨k, hk⟩ : ∃ k, ls.length = k := ⟨_, rfl⟩
  have HM := Lib.hid hm
  have HK := Lib.hid hk
  rw [hm] at hx ⊢
  rw [hk] at hl ⊢
  obtain ⟨W, hW⟩ : ∃ W, w.alloc (.cells #[.int .i64 6, .slice a2 m c2, .slice al k cl] 189) = W := ⟨_, rfl⟩
  have R0 : Row W w.heap.size 189 #[.int .i64 6, .slice a2 m c2, .slice al k cl] := by rw [← hW]; exact Row.new _ _ _
  have hbW : Below w.heap.size w W := by rw [← hW]; exact (Below.refl _ _).alloc (Nat.le_refl _) _
  obtain ⟨k0, k1, k2, _, _, _⟩ := R0.three
  clear A L ok hm hk
  have hk1 : 0 < k := by rw [← HK.out, hn]; have := (ar_one g).1; omega
  have hk1I : (0 : Int) < (k : Int) := by omega
  have okx := HOK.out _ (shp_in (i := 0) (by rw [HK.out]; omega))
  obtain ⟨b, o0, ax, cx, rfl, hbl, hcx, hAx, hnx⟩ := (HL.out.later hbW).at (i := 0) (by rw [HK.out]; omega)
  rw [Nat.add_zero] at hcx
  obtain ⟨x, hxe⟩ : ∃ x, shpI ls 0 = x := ⟨_, rfl⟩
  rw [hxe] at okx hcx hAx
  have hrk := okx.rank
  obtain ⟨lx, hlx⟩ : ∃ l, x.length = l := ⟨_, rfl⟩
  rw [hlx] at hcx hrk
  have HXE := Lib.hid hxe
  have HLX := Lib.hid hlx
  have HAX := Lib.hid hAx
  have HOX := Lib.hid okx
  have HR0 := Lib.hid R0
  have HNA := Lib.hid na
  have HG := Lib.hid g
  have HN := Lib.hid hn
  have HAW := Lib.hid (HA.out.later hbW)
  have HLW := Lib.hid (HL.out.later hbW)
  clear hxe hlx hAx okx R0 na g hn
  have hres : shpI ls 0 = res := HRES.out
  have hcc := cloneS_any HAX.out hnx (by rw [HLX.out]; omega)
  rw [HLX.out, ← HXE.out, hres] at hcc
  clear hres
  have HCC := Lib.hid hcc
  clear hcc
  go_enter Tryz.func153, Tryz.ntmps153
  (try rw [hW])
  go_wp2_with fail
  (try rw [hW])
  clear hW
  refine HCC.out.mono ?_
  rintro e w2 ⟨r, rfl, hr, hy⟩
  have B2 : Below w.heap.size w w2 := hbW.trans (hy.mono hbW.size)
  have hr2 := hr.mono hbW.size
  obtain ⟨ar_, cr_, rfl, hr3⟩ := res_slice11 hr2
  have HR3 := Lib.hid hr3
  clear hy hr hr2 hr3
  go_wp2_with fail
  go_ret
  exact ⟨_, rfl, HR3.out, B2⟩
set_option maxRecDepth 100000 in
set_option maxHeartbeats 8000000 in
theorem result7_any {xs : List Int} {ls : List (List Int)} {a2 al : Option Addr} {c2 cl : Nat} {w : World} (A : ArgS w (.slice a2 xs.length c2) xs a2 c2) (na : a2 = none → c2 = 0) (hx : xs.length ≤ 1000) (L : RowL w (.slice al ls.length cl) ls al cl) (ok : ∀ x ∈ ls, OkS x) (hl : ls.length ≤ 1000){v : Int} {n : Nat} (g : GoodO v 7 n xs) (hn : ls.length = n) (hho : holdI 7 xs ls = true) : Calls Tryz.prog 153 #[.agg #[.int .i64 7, .slice a2 xs.length c2, .slice al ls.length cl]] w fun e w' => ∃ r, e = .returned r ∧ ResS w.heap.size w' r (valI 7 xs ls) ∧ Below w.heap.size w w' := by
  obtain ⟨res, hres⟩ : ∃ c, valI 7 xs ls = c := ⟨_, rfl⟩
  rw [hres]
  have HRES := Lib.hid hres
  have HHO := Lib.hid hho
  clear hres hho
  have HA := Lib.hid A
  have HL := Lib.hid L
  have HOK := Lib.hid ok
  obtain ⟨m, hm⟩ : ∃ m, xs.length = m := ⟨_, rfl⟩
  obtain ⟨k, hk⟩ : ∃ k, ls.length = k := ⟨_, rfl⟩
  have HM := Lib.hid hm
  have HK := Lib.hid hk
  rw [hm] at hx ⊢
  rw [hk] at hl ⊢
  obtain ⟨W, hW⟩ : ∃ W, w.alloc (.cells #[.int .i64 7, .slice a2 m c2, .slice al k cl] 189) = W := ⟨_, rfl⟩
  have R0 : Row W w.heap.size 189 #[.int .i64 7, .slice a2 m c2, .slice al k cl] := by rw [← hW]; exact Row.new _ _ _
  have hbW : Below w.heap.size w W := by rw [← hW]; exact (Below.refl _ _).alloc (Nat.le_refl _) _
  obtain ⟨k0, k1, k2, _, _, _⟩ := R0.three
  clear A L ok hm hk
  have hk1 : 0 < k := by rw [← HK.out, hn]; have := (ar_one g).1; omega
  have hk1I : (0 : Int) < (k : Int) := by omega
  have okx := HOK.out _ (shp_in (i := 0) (by rw [HK.out]; omega))
  obtain ⟨b, o0, ax, cx, rfl, hbl, hcx, hAx, hnx⟩ := (HL.out.later hbW).at (i := 0) (by rw [HK.out]; omega)
  rw [Nat.add_zero] at hcx
  obtain ⟨x, hxe⟩ : ∃ x, shpI ls 0 = x := ⟨_, rfl⟩
  rw [hxe] at okx hcx hAx
  have hrk := okx.rank
  obtain ⟨lx, hlx⟩ : ∃ l, x.length = l := ⟨_, rfl⟩
  rw [hlx] at hcx hrk
  have HXE := Lib.hid hxe
  have HLX := Lib.hid hlx
  have HAX := Lib.hid hAx
  have HOX := Lib.hid okx
  have HR0 := Lib.hid R0
  have HNA := Lib.hid na
  have HG := Lib.hid g
  have HN := Lib.hid hn
  have HAW := Lib.hid (HA.out.later hbW)
  have HLW := Lib.hid (HL.out.later hbW)
  clear hxe hlx hAx okx R0 na g hn
  have hres : shpI ls 0 = res := HRES.out
  have hcc := cloneS_any HAX.out hnx (by rw [HLX.out]; omega)
  rw [HLX.out, ← HXE.out, hres] at hcc
  clear hres
  have HCC := Lib.hid hcc
  clear hcc
  go_enter Tryz.func153, Tryz.ntmps153
  (try rw [hW])
  go_wp2_with fail
  (try rw [hW])
  clear hW
  refine HCC.out.mono ?_
  rintro e w2 ⟨r, rfl, hr, hy⟩
  have B2 : Below w.heap.size w w2 := hbW.trans (hy.mono hbW.size)
  have hr2 := hr.mono hbW.size
  obtain ⟨ar_, cr_, rfl, hr3⟩ := res_slice11 hr2
  have HR3 := Lib.hid hr3
  clear hy hr hr2 hr3
  go_wp2_with fail
  go_ret
  exact ⟨_, rfl, HR3.out, B2⟩
set_option maxRecDepth 100000 in
set_option maxHeartbeats 8000000 in
theorem result8_any {xs : List Int} {ls : List (List Int)} {a2 al : Option Addr} {c2 cl : Nat} {w : World} (A : ArgS w (.slice a2 xs.length c2) xs a2 c2) (na : a2 = none → c2 = 0) (hx : xs.length ≤ 1000) (L : RowL w (.slice al ls.length cl) ls al cl) (ok : ∀ x ∈ ls, OkS x) (hl : ls.length ≤ 1000){v : Int} {n : Nat} (g : GoodO v 8 n xs) (hn : ls.length = n) (hho : holdI 8 xs ls = true) : Calls Tryz.prog 153 #[.agg #[.int .i64 8, .slice a2 xs.length c2, .slice al ls.length cl]] w fun e w' => ∃ r, e = .returned r ∧ ResS w.heap.size w' r (valI 8 xs ls) ∧ Below w.heap.size w w' := by
  obtain ⟨res, hres⟩ : ∃ c, valI 8 xs ls = c := ⟨_, rfl⟩
  rw [hres]
  have HRES := Lib.hid hres
  have HHO := Lib.hid hho
  clear hres hho
  have HA := Lib.hid A
  have HL := Lib.hid L
  have HOK := Lib.hid ok
  obtain ⟨m, hm⟩ : ∃ m, xs.length = m := ⟨_, rfl⟩
  obtain ⟨k, hk⟩ : ∃ k, ls.length = k := ⟨_, rfl⟩
  have HM := Lib.hid hm
  have HK := Lib.hid hk
  rw [hm] at hx ⊢
  rw [hk] at hl ⊢
  obtain ⟨W, hW⟩ : ∃ W, w.alloc (.cells #[.int .i64 8, .slice a2 m c2, .slice al k cl] 189) = W := ⟨_, rfl⟩
  have R0 : Row W w.heap.size 189 #[.int .i64 8, .slice a2 m c2, .slice al k cl] := by rw [← hW]; exact Row.new _ _ _
  have hbW : Below w.heap.size w W := by rw [← hW]; exact (Below.refl _ _).alloc (Nat.le_refl _) _
  obtain ⟨k0, k1, k2, _, _, _⟩ := R0.three
  clear A L ok hm hk
  have hk1 : 0 < k := by rw [← HK.out, hn]; have := (ar_one g).1; omega
  have hk1I : (0 : Int) < (k : Int) := by omega
  have okx := HOK.out _ (shp_in (i := 0) (by rw [HK.out]; omega))
  obtain ⟨b, o0, ax, cx, rfl, hbl, hcx, hAx, hnx⟩ := (HL.out.later hbW).at (i := 0) (by rw [HK.out]; omega)
  rw [Nat.add_zero] at hcx
  obtain ⟨x, hxe⟩ : ∃ x, shpI ls 0 = x := ⟨_, rfl⟩
  rw [hxe] at okx hcx hAx
  have hrk := okx.rank
  obtain ⟨lx, hlx⟩ : ∃ l, x.length = l := ⟨_, rfl⟩
  rw [hlx] at hcx hrk
  have HXE := Lib.hid hxe
  have HLX := Lib.hid hlx
  have HAX := Lib.hid hAx
  have HOX := Lib.hid okx
  have HR0 := Lib.hid R0
  have HNA := Lib.hid na
  have HG := Lib.hid g
  have HN := Lib.hid hn
  have HAW := Lib.hid (HA.out.later hbW)
  have HLW := Lib.hid (HL.out.later hbW)
  clear hxe hlx hAx okx R0 na g hn
  have hres : shpI ls 0 = res := HRES.out
  have hcc := cloneS_any HAX.out hnx (by rw [HLX.out]; omega)
  rw [HLX.out, ← HXE.out, hres] at hcc
  clear hres
  have HCC := Lib.hid hcc
  clear hcc
  go_enter Tryz.func153, Tryz.ntmps153
  (try rw [hW])
  go_wp2_with fail
  (try rw [hW])
  clear hW
  refine HCC.out.mono ?_
  rintro e w2 ⟨r, rfl, hr, hy⟩
  have B2 : Below w.heap.size w w2 := hbW.trans (hy.mono hbW.size)
  have hr2 := hr.mono hbW.size
  obtain ⟨ar_, cr_, rfl, hr3⟩ := res_slice11 hr2
  have HR3 := Lib.hid hr3
  clear hy hr hr2 hr3
  go_wp2_with fail
  go_ret
  exact ⟨_, rfl, HR3.out, B2⟩
set_option maxRecDepth 100000 in
set_option maxHeartbeats 8000000 in
theorem result9_any {xs : List Int} {ls : List (List Int)} {a2 al : Option Addr} {c2 cl : Nat} {w : World} (A : ArgS w (.slice a2 xs.length c2) xs a2 c2) (na : a2 = none → c2 = 0) (hx : xs.length ≤ 1000) (L : RowL w (.slice al ls.length cl) ls al cl) (ok : ∀ x ∈ ls, OkS x) (hl : ls.length ≤ 1000){v : Int} {n : Nat} (g : GoodO v 9 n xs) (hn : ls.length = n) (hho : holdI 9 xs ls = true) : Calls Tryz.prog 153 #[.agg #[.int .i64 9, .slice a2 xs.length c2, .slice al ls.length cl]] w fun e w' => ∃ r, e = .returned r ∧ ResS w.heap.size w' r (valI 9 xs ls) ∧ Below w.heap.size w w' := by
  obtain ⟨res, hres⟩ : ∃ c, valI 9 xs ls = c := ⟨_, rfl⟩
  rw [hres]
  have HRES := Lib.hid hres
  have HHO := Lib.hid hho
  clear hres hho
  have HA := Lib.hid A
  have HL := Lib.hid L
  have HOK := Lib.hid ok
  obtain ⟨m, hm⟩ : ∃ m, xs.length = m := ⟨_, rfl⟩
  obtain ⟨k, hk⟩ : ∃ k, ls.length = k := ⟨_, rfl⟩
  have HM := Lib.hid hm
  have HK := Lib.hid hk
  rw [hm] at hx ⊢
  rw [hk] at hl ⊢
  obtain ⟨W, hW⟩ : ∃ W, w.alloc (.cells #[.int .i64 9, .slice a2 m c2, .slice al k cl] 189) = W := ⟨_, rfl⟩
  have R0 : Row W w.heap.size 189 #[.int .i64 9, .slice a2 m c2, .slice al k cl] := by rw [← hW]; exact Row.new _ _ _
  have hbW : Below w.heap.size w W := by rw [← hW]; exact (Below.refl _ _).alloc (Nat.le_refl _) _
  obtain ⟨k0, k1, k2, _, _, _⟩ := R0.three
  clear A L ok hm hk
  have hk1 : 0 < k := by rw [← HK.out, hn]; have := (ar_one g).1; omega
  have hk1I : (0 : Int) < (k : Int) := by omega
  have okx := HOK.out _ (shp_in (i := 0) (by rw [HK.out]; omega))
  obtain ⟨b, o0, ax, cx, rfl, hbl, hcx, hAx, hnx⟩ := (HL.out.later hbW).at (i := 0) (by rw [HK.out]; omega)
  rw [Nat.add_zero] at hcx
  obtain ⟨x, hxe⟩ : ∃ x, shpI ls 0 = x := ⟨_, rfl⟩
  rw [hxe] at okx hcx hAx
  have hrk := okx.rank
  obtain ⟨lx, hlx⟩ : ∃ l, x.length = l := ⟨_, rfl⟩
  rw [hlx] at hcx hrk
  have HXE := Lib.hid hxe
  have HLX := Lib.hid hlx
  have HAX := Lib.hid hAx
  have HOX := Lib.hid okx
  have HR0 := Lib.hid R0
  have HNA := Lib.hid na
  have HG := Lib.hid g
  have HN := Lib.hid hn
  have HAW := Lib.hid (HA.out.later hbW)
  have HLW := Lib.hid (HL.out.later hbW)
  clear hxe hlx hAx okx R0 na g hn
  have hres : shpI ls 0 = res := HRES.out
  have hcc := cloneS_any HAX.out hnx (by rw [HLX.out]; omega)
  rw [HLX.out, ← HXE.out, hres] at hcc
  clear hres
  have HCC := Lib.hid hcc
  clear hcc
  go_enter Tryz.func153, Tryz.ntmps153
  (try rw [hW])
  go_wp2_with fail
  (try rw [hW])
  clear hW
  refine HCC.out.mono ?_
  rintro e w2 ⟨r, rfl, hr, hy⟩
  have B2 : Below w.heap.size w w2 := hbW.trans (hy.mono hbW.size)
  have hr2 := hr.mono hbW.size
  obtain ⟨ar_, cr_, rfl, hr3⟩ := res_slice11 hr2
  have HR3 := Lib.hid hr3
  clear hy hr hr2 hr3
  go_wp2_with fail
  go_ret
  exact ⟨_, rfl, HR3.out, B2⟩
set_option maxRecDepth 100000 in
set_option maxHeartbeats 8000000 in
theorem result10_any {xs : List Int} {ls : List (List Int)} {a2 al : Option Addr} {c2 cl : Nat} {w : World} (A : ArgS w (.slice a2 xs.length c2) xs a2 c2) (na : a2 = none → c2 = 0) (hx : xs.length ≤ 1000) (L : RowL w (.slice al ls.length cl) ls al cl) (ok : ∀ x ∈ ls, OkS x) (hl : ls.length ≤ 1000){v : Int} {n : Nat} (g : GoodO v 10 n xs) (hn : ls.length = n) (hho : holdI 10 xs ls = true) : Calls Tryz.prog 153 #[.agg #[.int .i64 10, .slice a2 xs.length c2, .slice al ls.length cl]] w fun e w' => ∃ r, e = .returned r ∧ ResS w.heap.size w' r (valI 10 xs ls) ∧ Below w.heap.size w w' := by
  obtain ⟨res, hres⟩ : ∃ c, valI 10 xs ls = c := ⟨_, rfl⟩
  rw [hres]
  have HRES := Lib.hid hres
  have HHO := Lib.hid hho
  clear hres hho
  have HA := Lib.hid A
  have HL := Lib.hid L
  have HOK := Lib.hid ok
  obtain ⟨m, hm⟩ : ∃ m, xs.length = m := ⟨_, rfl⟩
  obtain ⟨k, hk⟩ : ∃ k, ls.length = k := ⟨_, rfl⟩
  have HM := Lib.hid hm
  have HK := Lib.hid hk
  rw [hm] at hx ⊢
  rw [hk] at hl ⊢
  obtain ⟨W, hW⟩ : ∃ W, w.alloc (.cells #[.int .i64 10, .slice a2 m c2, .slice al k cl] 189) = W := ⟨_, rfl⟩
  have R0 : Row W w.heap.size 189 #[.int .i64 10, .slice a2 m c2, .slice al k cl] := by rw [← hW]; exact Row.new _ _ _
  have hbW : Below w.heap.size w W := by rw [← hW]; exact (Below.refl _ _).alloc (Nat.le_refl _) _
  obtain ⟨k0, k1, k2, _, _, _⟩ := R0.three
  clear A L ok hm hk
  have hk1 : 0 < k := by rw [← HK.out, hn]; have := (ar_one g).1; omega
  have hk1I : (0 : Int) < (k : Int) := by omega
  have okx := HOK.out _ (shp_in (i := 0) (by rw [HK.out]; omega))
  obtain ⟨b, o0, ax, cx, rfl, hbl, hcx, hAx, hnx⟩ := (HL.out.later hbW).at (i := 0) (by rw [HK.out]; omega)
  rw [Nat.add_zero] at hcx
  obtain ⟨x, hxe⟩ : ∃ x, shpI ls 0 = x := ⟨_, rfl⟩
  rw [hxe] at okx hcx hAx
  have hrk := okx.rank
  obtain ⟨lx, hlx⟩ : ∃ l, x.length = l := ⟨_, rfl⟩
  rw [hlx] at hcx hrk
  have HXE := Lib.hid hxe
  have HLX := Lib.hid hlx
  have HAX := Lib.hid hAx
  have HOX := Lib.hid okx
  have HR0 := Lib.hid R0
  have HNA := Lib.hid na
  have HG := Lib.hid g
  have HN := Lib.hid hn
  have HAW := Lib.hid (HA.out.later hbW)
  have HLW := Lib.hid (HL.out.later hbW)
  clear hxe hlx hAx okx R0 na g hn
  have hk2 : 1 < k := by rw [← HK.out, HN.out]; have := ar_two HG.out (by simp); omega
  have hk2I : (1 : Int) < (k : Int) := by omega
  have oky := HOK.out _ (shp_in (i := 1) (by rw [HK.out]; omega))
  obtain ⟨b', o', ay, cy, he, hbl2, hcy, hAy, hny⟩ := HLW.out.at (i := 1) (by rw [HK.out]; omega)
  cases he
  obtain ⟨y, hye⟩ : ∃ y, shpI ls 1 = y := ⟨_, rfl⟩
  rw [hye] at oky hcy hAy
  have hrky := oky.rank
  obtain ⟨ly, hly⟩ : ∃ l, y.length = l := ⟨_, rfl⟩
  rw [hly] at hcy hrky
  have HYE := Lib.hid hye
  have HLY := Lib.hid hly
  have HAY := Lib.hid hAy
  have HOY := Lib.hid oky
  clear hye hly hAy oky
  have hmb : matB (shpI ls 0) (shpI ls 1) = true := HHO.out
  have hmm := of_decide_eq_true hmb
  rw [HXE.out, HYE.out, HLX.out, HLY.out] at hmm
  have hlx2 : lx = 2 := hmm.1
  have hly2 : ly = 2 := hmm.2.1
  obtain ⟨bx, ox, rfl, h1c⟩ := HAX.out.at (i := 0) (by rw [HLX.out]; omega)
  obtain ⟨by_, oy, rfl, h0c⟩ := HAY.out.at (i := 1) (by rw [HLY.out]; omega)
  rw [Nat.add_zero] at h1c
  have hxi : (0 : Int) < (lx : Int) := by omega
  have hxn : 0 < lx := by omega
  have hyn : 1 < ly := by omega
  have hyi : (1 : Int) < (ly : Int) := by omega
  obtain ⟨p, hp⟩ : ∃ p, x.getD 0 0 = p := ⟨_, rfl⟩
  obtain ⟨q, hq⟩ : ∃ q, y.getD 1 0 = q := ⟨_, rfl⟩
  have hpw := HAX.out.wf.getD 0
  have hqw := HAY.out.wf.getD 1
  rw [hp] at h1c hpw
  rw [hq] at h0c hqw
  obtain rfl : [p, q] = res := by rw [← HRES.out, ← hp, ← hq, ← HXE.out, ← HYE.out]; rfl
  have l1 := World.block_lt_of_cell? _ _ h1c
  have l0 := World.block_lt_of_cell? _ _ h0c
  have MK := Lib.hid (show ∀ X, Below W.heap.size W X → (fun X => X.cell? ⟨bx, ox, none⟩ = some (.int .i64 p) ∧ X.cell? ⟨by_, oy + 1, none⟩ = some (.int .i64 q) ∧ X.cell? ⟨w.heap.size, 2, none⟩ = some (.slice (some ⟨b, o0, none⟩) k cl) ∧ X.cell? ⟨b, o0 + 1, none⟩ = some (.slice (some ⟨by_, oy, none⟩) ly cy)) X from fun X h => by
    obtain ⟨g0, g1, g2, _⟩ := (HR0.out.later h).three
    exact ⟨(h.cell l1).trans h1c, (h.cell l0).trans h0c, g2, (h.cell (World.block_lt_of_cell? _ _ hcy)).trans hcy⟩)
  have Z0 : Below W.heap.size W W.drew := (Below.refl _ _).drew
  have hpq := Lib.hid (show Wid [p, q] from fun t ht => by
    simp only [List.mem_cons, List.not_mem_nil, or_false] at ht
    rcases ht with rfl | rfl
    · exact hpw
    · exact hqw)
  clear hp hq h1c h0c l1 l0 hmb hmm hlx2 hly2 hpw hqw
  go_enter Tryz.func153, Tryz.ntmps153
  (try rw [hW])
  go_wp2_with fail
  (try rw [hW])
  clear hW
  refine wp_region_held_drew (S := fun X => X.cell? ⟨bx, ox, none⟩ = some (.int .i64 p) ∧ X.cell? ⟨by_, oy + 1, none⟩ = some (.int .i64 q) ∧ X.cell? ⟨w.heap.size, 2, none⟩ = some (.slice (some ⟨b, o0, none⟩) k cl) ∧ X.cell? ⟨b, o0 + 1, none⟩ = some (.slice (some ⟨by_, oy, none⟩) ly cy)) (by kernel_rfl) (MK.out _ Z0) (fun hHeld => ?_)
  obtain ⟨z0, hdrh⟩ : ∃ Y, W.drew = Y := ⟨_, rfl⟩
  rw [hdrh] at Z0 hHeld ⊢
  clear hdrh
  refine todo [0, 1, 2, 3, 4, 5, 6, 7, 8] ?_
  iterate 9
   first
   | (refine todoH (v := ?_) rfl (by kernel_rfl) (fun _ _ _ h => h) (by assumption) (Or.inl ⟨by rfl, ?_⟩) ?_
      rotate_left
      · intro w hSw; (try dsimp only at hSw); go_simp; (try with_reducible rfl)
      try simp only [Act.put, List.getElem_toArray, List.getElem_cons_succ, List.getElem_cons_zero, List.setIfInBounds_toArray, List.set_cons_zero, List.set_cons_succ])
   | (refine todoH (v := undef) rfl (by kernel_rfl) (fun _ _ _ h => h) (by assumption) (Or.inr ⟨by rfl, rfl⟩) ?_
      try simp only [Act.put, List.getElem_toArray, List.getElem_cons_succ, List.getElem_cons_zero, List.setIfInBounds_toArray, List.set_cons_zero, List.set_cons_succ])
  refine todone ?_
  obtain ⟨z1, hh1⟩ : ∃ Y, z0.alloc (.cells #[.int .i64 p, .int .i64 q] 3) = Y := ⟨_, rfl⟩
  have Z1 : Below W.heap.size W z1 := by rw [← hh1]; exact Z0.alloc Z0.size _
  have Rh1 : Row z1 z0.heap.size 3 #[.int .i64 p, .int .i64 q] := by rw [← hh1]; exact Row.new _ _ _
  refine wpAnyH_ready (rs := [9]) (by kernel_rfl) (by simp) ?_
  refine AllReadyH.cons rfl (fun K hK => ?sh_9) AllReadyH.nil
  go_simp
  (try rw [hh1])
  clear hh1
  refine hK.out _ _ (MK.out _ Z1) (fun hHeld2 => ?mh_9)
  clear hK K hHeld
  have hHeld := hHeld2
  clear hHeld2
  try simp only [Act.put, List.getElem_toArray, List.getElem_cons_succ, List.getElem_cons_zero, List.setIfInBounds_toArray, List.set_cons_zero, List.set_cons_succ]
  refine todo [10] ?_
  iterate 1
   first
   | (refine todoH (v := ?_) rfl (by kernel_rfl) (fun _ _ _ h => h) (by assumption) (Or.inl ⟨by rfl, ?_⟩) ?_
      rotate_left
      · intro w hSw; (try dsimp only at hSw); go_simp; (try with_reducible rfl)
      try simp only [Act.put, List.getElem_toArray, List.getElem_cons_succ, List.getElem_cons_zero, List.setIfInBounds_toArray, List.set_cons_zero, List.set_cons_succ])
   | (refine todoH (v := undef) rfl (by kernel_rfl) (fun _ _ _ h => h) (by assumption) (Or.inr ⟨by rfl, rfl⟩) ?_
      try simp only [Act.put, List.getElem_toArray, List.getElem_cons_succ, List.getElem_cons_zero, List.setIfInBounds_toArray, List.set_cons_zero, List.set_cons_succ])
  refine todone ?_
  refine wpAnyH_done (by kernel_rfl) ?_ _
  (try dsimp only [Straight])
  have hE : Below w.heap.size w z1 := hbW.trans (Z1.mono hbW.size)
  have hgz := Z0.size
  have hgw := hbW.size
  have HRh := Lib.hid Rh1
  clear Rh1
  go_wp2_with fail
  go_ret
  exact ⟨_, rfl, ⟨⟨rfl, .inr ⟨z0.heap.size, 2, #[.int .i64 p, .int .i64 q], rfl, by omega, HRh.out, Nat.le_refl _, by unfold maxLen; omega, by simp, by simp⟩⟩, hpq.out⟩, hE⟩
set_option maxRecDepth 100000 in
set_option maxHeartbeats 8000000 in
theorem result11_any {xs : List Int} {ls : List (List Int)} {a2 al : Option Addr} {c2 cl : Nat} {w : World} (A : ArgS w (.slice a2 xs.length c2) xs a2 c2) (na : a2 = none → c2 = 0) (hx : xs.length ≤ 1000) (L : RowL w (.slice al ls.length cl) ls al cl) (ok : ∀ x ∈ ls, OkS x) (hl : ls.length ≤ 1000){v : Int} {n : Nat} (g : GoodO v 11 n xs) (hn : ls.length = n) (hho : holdI 11 xs ls = true) : Calls Tryz.prog 153 #[.agg #[.int .i64 11, .slice a2 xs.length c2, .slice al ls.length cl]] w fun e w' => ∃ r, e = .returned r ∧ ResS w.heap.size w' r (valI 11 xs ls) ∧ Below w.heap.size w w' := by
  obtain ⟨res, hres⟩ : ∃ c, valI 11 xs ls = c := ⟨_, rfl⟩
  rw [hres]
  have HRES := Lib.hid hres
  have HHO := Lib.hid hho
  clear hres hho
  have HA := Lib.hid A
  have HL := Lib.hid L
  have HOK := Lib.hid ok
  obtain ⟨m, hm⟩ : ∃ m, xs.length = m := ⟨_, rfl⟩
  obtain ⟨k, hk⟩ : ∃ k, ls.length = k := ⟨_, rfl⟩
  have HM := Lib.hid hm
  have HK := Lib.hid hk
  rw [hm] at hx ⊢
  rw [hk] at hl ⊢
  obtain ⟨W, hW⟩ : ∃ W, w.alloc (.cells #[.int .i64 11, .slice a2 m c2, .slice al k cl] 189) = W := ⟨_, rfl⟩
  have R0 : Row W w.heap.size 189 #[.int .i64 11, .slice a2 m c2, .slice al k cl] := by rw [← hW]; exact Row.new _ _ _
  have hbW : Below w.heap.size w W := by rw [← hW]; exact (Below.refl _ _).alloc (Nat.le_refl _) _
  obtain ⟨k0, k1, k2, _, _, _⟩ := R0.three
  clear A L ok hm hk
  have hk1 : 0 < k := by rw [← HK.out, hn]; have := (ar_one g).1; omega
  have hk1I : (0 : Int) < (k : Int) := by omega
  have okx := HOK.out _ (shp_in (i := 0) (by rw [HK.out]; omega))
  obtain ⟨b, o0, ax, cx, rfl, hbl, hcx, hAx, hnx⟩ := (HL.out.later hbW).at (i := 0) (by rw [HK.out]; omega)
  rw [Nat.add_zero] at hcx
  obtain ⟨x, hxe⟩ : ∃ x, shpI ls 0 = x := ⟨_, rfl⟩
  rw [hxe] at okx hcx hAx
  have hrk := okx.rank
  obtain ⟨lx, hlx⟩ : ∃ l, x.length = l := ⟨_, rfl⟩
  rw [hlx] at hcx hrk
  have HXE := Lib.hid hxe
  have HLX := Lib.hid hlx
  have HAX := Lib.hid hAx
  have HOX := Lib.hid okx
  have HR0 := Lib.hid R0
  have HNA := Lib.hid na
  have HG := Lib.hid g
  have HN := Lib.hid hn
  have HAW := Lib.hid (HA.out.later hbW)
  have HLW := Lib.hid (HL.out.later hbW)
  clear hxe hlx hAx okx R0 na g hn
  have hres : trS (shpI ls 0) xs = res := HRES.out
  have hml : xs.length = (shpI ls 0).length := of_decide_eq_true HHO.out
  have hpp := fit_tr HG.out.fit
  have hcc := permuted_any (o := 11) HAW.out HNA.out (by rw [HM.out]; exact hx) HLW.out HOK.out (by rw [HK.out]; exact hl) (by rw [HK.out]; exact hk1) (fun t ht => by have := (hpp.2.mem t).1 ht; omega)
  rw [HM.out, HK.out, hres] at hcc
  clear hpp hml hres
  have HCC := Lib.hid hcc
  clear hcc
  go_enter Tryz.func153, Tryz.ntmps153
  (try rw [hW])
  go_wp2_with fail
  (try rw [hW])
  clear hW
  refine HCC.out.mono ?_
  rintro e w2 ⟨r, rfl, hr, hy⟩
  have B2 : Below w.heap.size w w2 := hbW.trans (hy.mono hbW.size)
  have hr2 := hr.mono hbW.size
  obtain ⟨ar_, cr_, rfl, hr3⟩ := res_slice11 hr2
  have HR3 := Lib.hid hr3
  clear hy hr hr2 hr3
  go_wp2_with fail
  go_ret
  exact ⟨_, rfl, HR3.out, B2⟩
set_option maxRecDepth 100000 in
set_option maxHeartbeats 8000000 in
theorem result12_any {xs : List Int} {ls : List (List Int)} {a2 al : Option Addr} {c2 cl : Nat} {w : World} (A : ArgS w (.slice a2 xs.length c2) xs a2 c2) (na : a2 = none → c2 = 0) (hx : xs.length ≤ 1000) (L : RowL w (.slice al ls.length cl) ls al cl) (ok : ∀ x ∈ ls, OkS x) (hl : ls.length ≤ 1000){v : Int} {n : Nat} (g : GoodO v 12 n xs) (hn : ls.length = n) (hho : holdI 12 xs ls = true) : Calls Tryz.prog 153 #[.agg #[.int .i64 12, .slice a2 xs.length c2, .slice al ls.length cl]] w fun e w' => ∃ r, e = .returned r ∧ ResS w.heap.size w' r (valI 12 xs ls) ∧ Below w.heap.size w w' := by
  obtain ⟨res, hres⟩ : ∃ c, valI 12 xs ls = c := ⟨_, rfl⟩
  rw [hres]
  have HRES := Lib.hid hres
  have HHO := Lib.hid hho
  clear hres hho
  have HA := Lib.hid A
  have HL := Lib.hid L
  have HOK := Lib.hid ok
  obtain ⟨m, hm⟩ : ∃ m, xs.length = m := ⟨_, rfl⟩
  obtain ⟨k, hk⟩ : ∃ k, ls.length = k := ⟨_, rfl⟩
  have HM := Lib.hid hm
  have HK := Lib.hid hk
  rw [hm] at hx ⊢
  rw [hk] at hl ⊢
  obtain ⟨W, hW⟩ : ∃ W, w.alloc (.cells #[.int .i64 12, .slice a2 m c2, .slice al k cl] 189) = W := ⟨_, rfl⟩
  have R0 : Row W w.heap.size 189 #[.int .i64 12, .slice a2 m c2, .slice al k cl] := by rw [← hW]; exact Row.new _ _ _
  have hbW : Below w.heap.size w W := by rw [← hW]; exact (Below.refl _ _).alloc (Nat.le_refl _) _
  obtain ⟨k0, k1, k2, _, _, _⟩ := R0.three
  clear A L ok hm hk
  have hk1 : 0 < k := by rw [← HK.out, hn]; have := (ar_one g).1; omega
  have hk1I : (0 : Int) < (k : Int) := by omega
  have okx := HOK.out _ (shp_in (i := 0) (by rw [HK.out]; omega))
  obtain ⟨b, o0, ax, cx, rfl, hbl, hcx, hAx, hnx⟩ := (HL.out.later hbW).at (i := 0) (by rw [HK.out]; omega)
  rw [Nat.add_zero] at hcx
  obtain ⟨x, hxe⟩ : ∃ x, shpI ls 0 = x := ⟨_, rfl⟩
  rw [hxe] at okx hcx hAx
  have hrk := okx.rank
  obtain ⟨lx, hlx⟩ : ∃ l, x.length = l := ⟨_, rfl⟩
  rw [hlx] at hcx hrk
  have HXE := Lib.hid hxe
  have HLX := Lib.hid hlx
  have HAX := Lib.hid hAx
  have HOX := Lib.hid okx
  have HR0 := Lib.hid R0
  have HNA := Lib.hid na
  have HG := Lib.hid g
  have HN := Lib.hid hn
  have HAW := Lib.hid (HA.out.later hbW)
  have HLW := Lib.hid (HL.out.later hbW)
  clear hxe hlx hAx okx R0 na g hn
  have hres : xs = res := HRES.out
  have hcc := cloneI_any HAW.out HNA.out (by rw [HM.out]; omega)
  rw [hres] at hcc
  rw [show res.length = m by rw [← hres]; exact HM.out] at hcc
  clear hres
  have HCC := Lib.hid hcc
  clear hcc
  go_enter Tryz.func153, Tryz.ntmps153
  (try rw [hW])
  go_wp2_with fail
  (try rw [hW])
  clear hW
  refine HCC.out.mono ?_
  rintro e w2 ⟨r, rfl, hr, hy⟩
  have B2 : Below w.heap.size w w2 := hbW.trans (hy.mono hbW.size)
  have hr2 := hr.mono hbW.size
  obtain ⟨ar_, cr_, rfl, hr3⟩ := res_slice11 hr2
  have HR3 := Lib.hid hr3
  clear hy hr hr2 hr3
  go_wp2_with fail
  go_ret
  exact ⟨_, rfl, HR3.out, B2⟩
set_option maxRecDepth 100000 in
set_option maxHeartbeats 8000000 in
theorem result13_any {xs : List Int} {ls : List (List Int)} {a2 al : Option Addr} {c2 cl : Nat} {w : World} (A : ArgS w (.slice a2 xs.length c2) xs a2 c2) (na : a2 = none → c2 = 0) (hx : xs.length ≤ 1000) (L : RowL w (.slice al ls.length cl) ls al cl) (ok : ∀ x ∈ ls, OkS x) (hl : ls.length ≤ 1000){v : Int} {n : Nat} (g : GoodO v 13 n xs) (hn : ls.length = n) (hho : holdI 13 xs ls = true) : Calls Tryz.prog 153 #[.agg #[.int .i64 13, .slice a2 xs.length c2, .slice al ls.length cl]] w fun e w' => ∃ r, e = .returned r ∧ ResS w.heap.size w' r (valI 13 xs ls) ∧ Below w.heap.size w w' := by
  obtain ⟨res, hres⟩ : ∃ c, valI 13 xs ls = c := ⟨_, rfl⟩
  rw [hres]
  have HRES := Lib.hid hres
  have HHO := Lib.hid hho
  clear hres hho
  have HA := Lib.hid A
  have HL := Lib.hid L
  have HOK := Lib.hid ok
  obtain ⟨m, hm⟩ : ∃ m, xs.length = m := ⟨_, rfl⟩
  obtain ⟨k, hk⟩ : ∃ k, ls.length = k := ⟨_, rfl⟩
  have HM := Lib.hid hm
  have HK := Lib.hid hk
  rw [hm] at hx ⊢
  rw [hk] at hl ⊢
  obtain ⟨W, hW⟩ : ∃ W, w.alloc (.cells #[.int .i64 13, .slice a2 m c2, .slice al k cl] 189) = W := ⟨_, rfl⟩
  have R0 : Row W w.heap.size 189 #[.int .i64 13, .slice a2 m c2, .slice al k cl] := by rw [← hW]; exact Row.new _ _ _
  have hbW : Below w.heap.size w W := by rw [← hW]; exact (Below.refl _ _).alloc (Nat.le_refl _) _
  obtain ⟨k0, k1, k2, _, _, _⟩ := R0.three
  clear A L ok hm hk
  have hk1 : 0 < k := by rw [← HK.out, hn]; have := (ar_one g).1; omega
  have hk1I : (0 : Int) < (k : Int) := by omega
  have okx := HOK.out _ (shp_in (i := 0) (by rw [HK.out]; omega))
  obtain ⟨b, o0, ax, cx, rfl, hbl, hcx, hAx, hnx⟩ := (HL.out.later hbW).at (i := 0) (by rw [HK.out]; omega)
  rw [Nat.add_zero] at hcx
  obtain ⟨x, hxe⟩ : ∃ x, shpI ls 0 = x := ⟨_, rfl⟩
  rw [hxe] at okx hcx hAx
  have hrk := okx.rank
  obtain ⟨lx, hlx⟩ : ∃ l, x.length = l := ⟨_, rfl⟩
  rw [hlx] at hcx hrk
  have HXE := Lib.hid hxe
  have HLX := Lib.hid hlx
  have HAX := Lib.hid hAx
  have HOX := Lib.hid okx
  have HR0 := Lib.hid R0
  have HNA := Lib.hid na
  have HG := Lib.hid g
  have HN := Lib.hid hn
  have HAW := Lib.hid (HA.out.later hbW)
  have HLW := Lib.hid (HL.out.later hbW)
  clear hxe hlx hAx okx R0 na g hn
  have hres : xs = res := HRES.out
  have hcc := cloneI_any HAW.out HNA.out (by rw [HM.out]; omega)
  rw [hres] at hcc
  rw [show res.length = m by rw [← hres]; exact HM.out] at hcc
  clear hres
  have HCC := Lib.hid hcc
  clear hcc
  go_enter Tryz.func153, Tryz.ntmps153
  (try rw [hW])
  go_wp2_with fail
  (try rw [hW])
  clear hW
  refine HCC.out.mono ?_
  rintro e w2 ⟨r, rfl, hr, hy⟩
  have B2 : Below w.heap.size w w2 := hbW.trans (hy.mono hbW.size)
  have hr2 := hr.mono hbW.size
  obtain ⟨ar_, cr_, rfl, hr3⟩ := res_slice11 hr2
  have HR3 := Lib.hid hr3
  clear hy hr hr2 hr3
  go_wp2_with fail
  go_ret
  exact ⟨_, rfl, HR3.out, B2⟩
set_option maxRecDepth 100000 in
set_option maxHeartbeats 8000000 in
theorem result14_any {xs : List Int} {ls : List (List Int)} {a2 al : Option Addr} {c2 cl : Nat} {w : World} (A : ArgS w (.slice a2 xs.length c2) xs a2 c2) (na : a2 = none → c2 = 0) (hx : xs.length ≤ 1000) (L : RowL w (.slice al ls.length cl) ls al cl) (ok : ∀ x ∈ ls, OkS x) (hl : ls.length ≤ 1000){v : Int} {n : Nat} (g : GoodO v 14 n xs) (hn : ls.length = n) (hho : holdI 14 xs ls = true) : Calls Tryz.prog 153 #[.agg #[.int .i64 14, .slice a2 xs.length c2, .slice al ls.length cl]] w fun e w' => ∃ r, e = .returned r ∧ ResS w.heap.size w' r (valI 14 xs ls) ∧ Below w.heap.size w w' := by
  obtain ⟨res, hres⟩ : ∃ c, valI 14 xs ls = c := ⟨_, rfl⟩
  rw [hres]
  have HRES := Lib.hid hres
  have HHO := Lib.hid hho
  clear hres hho
  have HA := Lib.hid A
  have HL := Lib.hid L
  have HOK := Lib.hid ok
  obtain ⟨m, hm⟩ : ∃ m, xs.length = m := ⟨_, rfl⟩
  obtain ⟨k, hk⟩ : ∃ k, ls.length = k := ⟨_, rfl⟩
  have HM := Lib.hid hm
  have HK := Lib.hid hk
  rw [hm] at hx ⊢
  rw [hk] at hl ⊢
  obtain ⟨W, hW⟩ : ∃ W, w.alloc (.cells #[.int .i64 14, .slice a2 m c2, .slice al k cl] 189) = W := ⟨_, rfl⟩
  have R0 : Row W w.heap.size 189 #[.int .i64 14, .slice a2 m c2, .slice al k cl] := by rw [← hW]; exact Row.new _ _ _
  have hbW : Below w.heap.size w W := by rw [← hW]; exact (Below.refl _ _).alloc (Nat.le_refl _) _
  obtain ⟨k0, k1, k2, _, _, _⟩ := R0.three
  clear A L ok hm hk
  have hk1 : 0 < k := by rw [← HK.out, hn]; have := (ar_one g).1; omega
  have hk1I : (0 : Int) < (k : Int) := by omega
  have okx := HOK.out _ (shp_in (i := 0) (by rw [HK.out]; omega))
  obtain ⟨b, o0, ax, cx, rfl, hbl, hcx, hAx, hnx⟩ := (HL.out.later hbW).at (i := 0) (by rw [HK.out]; omega)
  rw [Nat.add_zero] at hcx
  obtain ⟨x, hxe⟩ : ∃ x, shpI ls 0 = x := ⟨_, rfl⟩
  rw [hxe] at okx hcx hAx
  have hrk := okx.rank
  obtain ⟨lx, hlx⟩ : ∃ l, x.length = l := ⟨_, rfl⟩
  rw [hlx] at hcx hrk
  have HXE := Lib.hid hxe
  have HLX := Lib.hid hlx
  have HAX := Lib.hid hAx
  have HOX := Lib.hid okx
  have HR0 := Lib.hid R0
  have HNA := Lib.hid na
  have HG := Lib.hid g
  have HN := Lib.hid hn
  have HAW := Lib.hid (HA.out.later hbW)
  have HLW := Lib.hid (HL.out.later hbW)
  clear hxe hlx hAx okx R0 na g hn
  have hres : dropS (shpI ls 0) xs = res := HRES.out
  have hcc := dropC_any HAX.out HAW.out hnx HNA.out (by rw [HLX.out]; omega) (by rw [HM.out]; omega)
  rw [HLX.out, HM.out, ← HXE.out, hres] at hcc
  clear hres
  have HCC := Lib.hid hcc
  clear hcc
  go_enter Tryz.func153, Tryz.ntmps153
  (try rw [hW])
  go_wp2_with fail
  (try rw [hW])
  clear hW
  refine HCC.out.mono ?_
  rintro e w2 ⟨r, rfl, hr, hy⟩
  have B2 : Below w.heap.size w w2 := hbW.trans (hy.mono hbW.size)
  have hr2 := hr.mono hbW.size
  obtain ⟨ar_, cr_, rfl, hr3⟩ := res_slice11 hr2
  have HR3 := Lib.hid hr3
  clear hy hr hr2 hr3
  go_wp2_with fail
  go_ret
  exact ⟨_, rfl, HR3.out, B2⟩
set_option maxRecDepth 100000 in
set_option maxHeartbeats 8000000 in
theorem result15_any {xs : List Int} {ls : List (List Int)} {a2 al : Option Addr} {c2 cl : Nat} {w : World} (A : ArgS w (.slice a2 xs.length c2) xs a2 c2) (na : a2 = none → c2 = 0) (hx : xs.length ≤ 1000) (L : RowL w (.slice al ls.length cl) ls al cl) (ok : ∀ x ∈ ls, OkS x) (hl : ls.length ≤ 1000){v : Int} {n : Nat} (g : GoodO v 15 n xs) (hn : ls.length = n) (hho : holdI 15 xs ls = true) : Calls Tryz.prog 153 #[.agg #[.int .i64 15, .slice a2 xs.length c2, .slice al ls.length cl]] w fun e w' => ∃ r, e = .returned r ∧ ResS w.heap.size w' r (valI 15 xs ls) ∧ Below w.heap.size w w' := by
  obtain ⟨res, hres⟩ : ∃ c, valI 15 xs ls = c := ⟨_, rfl⟩
  rw [hres]
  have HRES := Lib.hid hres
  have HHO := Lib.hid hho
  clear hres hho
  have HA := Lib.hid A
  have HL := Lib.hid L
  have HOK := Lib.hid ok
  obtain ⟨m, hm⟩ : ∃ m, xs.length = m := ⟨_, rfl⟩
  obtain ⟨k, hk⟩ : ∃ k, ls.length = k := ⟨_, rfl⟩
  have HM := Lib.hid hm
  have HK := Lib.hid hk
  rw [hm] at hx ⊢
  rw [hk] at hl ⊢
  obtain ⟨W, hW⟩ : ∃ W, w.alloc (.cells #[.int .i64 15, .slice a2 m c2, .slice al k cl] 189) = W := ⟨_, rfl⟩
  have R0 : Row W w.heap.size 189 #[.int .i64 15, .slice a2 m c2, .slice al k cl] := by rw [← hW]; exact Row.new _ _ _
  have hbW : Below w.heap.size w W := by rw [← hW]; exact (Below.refl _ _).alloc (Nat.le_refl _) _
  obtain ⟨k0, k1, k2, _, _, _⟩ := R0.three
  clear A L ok hm hk
  have hk1 : 0 < k := by rw [← HK.out, hn]; have := (ar_one g).1; omega
  have hk1I : (0 : Int) < (k : Int) := by omega
  have okx := HOK.out _ (shp_in (i := 0) (by rw [HK.out]; omega))
  obtain ⟨b, o0, ax, cx, rfl, hbl, hcx, hAx, hnx⟩ := (HL.out.later hbW).at (i := 0) (by rw [HK.out]; omega)
  rw [Nat.add_zero] at hcx
  obtain ⟨x, hxe⟩ : ∃ x, shpI ls 0 = x := ⟨_, rfl⟩
  rw [hxe] at okx hcx hAx
  have hrk := okx.rank
  obtain ⟨lx, hlx⟩ : ∃ l, x.length = l := ⟨_, rfl⟩
  rw [hlx] at hcx hrk
  have HXE := Lib.hid hxe
  have HLX := Lib.hid hlx
  have HAX := Lib.hid hAx
  have HOX := Lib.hid okx
  have HR0 := Lib.hid R0
  have HNA := Lib.hid na
  have HG := Lib.hid g
  have HN := Lib.hid hn
  have HAW := Lib.hid (HA.out.later hbW)
  have HLW := Lib.hid (HL.out.later hbW)
  clear hxe hlx hAx okx R0 na g hn
  have hbo : (withinB (shpI ls 0) xs && decide (xs.length = 2 * (shpI ls 0).length)) = true := HHO.out
  rw [Bool.and_eq_true, decide_eq_true_iff] at hbo
  have hll := hbo.2
  have hres : slS (shpI ls 0) xs = res := HRES.out
  have hcc := sizedS_any (o := 15) HAW.out HNA.out (by rw [HM.out]; exact hx) HLW.out HOK.out (by rw [HK.out]; exact hl) (by rw [HK.out]; exact hk1) hll (fun i hi => by
    have h1 := bnd_at HG.out.bnd (2 * i)
    have h2 := bnd_at HG.out.bnd (2 * i + 1)
    exact IntWalk.i64_in _ (by unfold sndP fstP; omega))
  rw [HM.out, HK.out] at hcc
  rw [show ((List.range (shpI ls 0).length).map fun i : Nat => sndP xs i - fstP xs i) = res from hres] at hcc
  clear hll hres hbo
  have HCC := Lib.hid hcc
  clear hcc
  go_enter Tryz.func153, Tryz.ntmps153
  (try rw [hW])
  go_wp2_with fail
  (try rw [hW])
  clear hW
  refine HCC.out.mono ?_
  rintro e w2 ⟨r, rfl, hr, hy⟩
  have B2 : Below w.heap.size w w2 := hbW.trans (hy.mono hbW.size)
  have hr2 := hr.mono hbW.size
  obtain ⟨ar_, cr_, rfl, hr3⟩ := res_slice11 hr2
  have HR3 := Lib.hid hr3
  clear hy hr hr2 hr3
  go_wp2_with fail
  go_ret
  exact ⟨_, rfl, HR3.out, B2⟩
set_option maxRecDepth 100000 in
set_option maxHeartbeats 8000000 in
theorem result16_any {xs : List Int} {ls : List (List Int)} {a2 al : Option Addr} {c2 cl : Nat} {w : World} (A : ArgS w (.slice a2 xs.length c2) xs a2 c2) (na : a2 = none → c2 = 0) (hx : xs.length ≤ 1000) (L : RowL w (.slice al ls.length cl) ls al cl) (ok : ∀ x ∈ ls, OkS x) (hl : ls.length ≤ 1000){v : Int} {n : Nat} (g : GoodO v 16 n xs) (hn : ls.length = n) (hho : holdI 16 xs ls = true) : Calls Tryz.prog 153 #[.agg #[.int .i64 16, .slice a2 xs.length c2, .slice al ls.length cl]] w fun e w' => ∃ r, e = .returned r ∧ ResS w.heap.size w' r (valI 16 xs ls) ∧ Below w.heap.size w w' := by
  obtain ⟨res, hres⟩ : ∃ c, valI 16 xs ls = c := ⟨_, rfl⟩
  rw [hres]
  have HRES := Lib.hid hres
  have HHO := Lib.hid hho
  clear hres hho
  have HA := Lib.hid A
  have HL := Lib.hid L
  have HOK := Lib.hid ok
  obtain ⟨m, hm⟩ : ∃ m, xs.length = m := ⟨_, rfl⟩
  obtain ⟨k, hk⟩ : ∃ k, ls.length = k := ⟨_, rfl⟩
  have HM := Lib.hid hm
  have HK := Lib.hid hk
  rw [hm] at hx ⊢
  rw [hk] at hl ⊢
  obtain ⟨W, hW⟩ : ∃ W, w.alloc (.cells #[.int .i64 16, .slice a2 m c2, .slice al k cl] 189) = W := ⟨_, rfl⟩
  have R0 : Row W w.heap.size 189 #[.int .i64 16, .slice a2 m c2, .slice al k cl] := by rw [← hW]; exact Row.new _ _ _
  have hbW : Below w.heap.size w W := by rw [← hW]; exact (Below.refl _ _).alloc (Nat.le_refl _) _
  obtain ⟨k0, k1, k2, _, _, _⟩ := R0.three
  clear A L ok hm hk
  have hk1 : 0 < k := by rw [← HK.out, hn]; have := (ar_one g).1; omega
  have hk1I : (0 : Int) < (k : Int) := by omega
  have okx := HOK.out _ (shp_in (i := 0) (by rw [HK.out]; omega))
  obtain ⟨b, o0, ax, cx, rfl, hbl, hcx, hAx, hnx⟩ := (HL.out.later hbW).at (i := 0) (by rw [HK.out]; omega)
  rw [Nat.add_zero] at hcx
  obtain ⟨x, hxe⟩ : ∃ x, shpI ls 0 = x := ⟨_, rfl⟩
  rw [hxe] at okx hcx hAx
  have hrk := okx.rank
  obtain ⟨lx, hlx⟩ : ∃ l, x.length = l := ⟨_, rfl⟩
  rw [hlx] at hcx hrk
  have HXE := Lib.hid hxe
  have HLX := Lib.hid hlx
  have HAX := Lib.hid hAx
  have HOX := Lib.hid okx
  have HR0 := Lib.hid R0
  have HNA := Lib.hid na
  have HG := Lib.hid g
  have HN := Lib.hid hn
  have HAW := Lib.hid (HA.out.later hbW)
  have HLW := Lib.hid (HL.out.later hbW)
  clear hxe hlx hAx okx R0 na g hn
  have hll : xs.length = 2 * (shpI ls 0).length := of_decide_eq_true HHO.out
  have hres : padI (shpI ls 0) xs = res := HRES.out
  have hcc := sizedP_any (o := 16) HAW.out HNA.out (by rw [HM.out]; exact hx) HLW.out HOK.out (by rw [HK.out]; exact hl) (by rw [HK.out]; exact hk1) hll (fun i hi => by
    have h1 := bnd_at HG.out.bnd (2 * i)
    have h2 := bnd_at HG.out.bnd (2 * i + 1)
    have okx := HOX.out
    rw [← HXE.out] at okx
    have h3 := getD_le_prod okx.pos hi
    have h4 := okx.few
    have h5 := okx.pos.getD hi
    have e1 : IntKind.i64.wrap ((shpI ls 0).getD i 0 + fstP xs i) = (shpI ls 0).getD i 0 + fstP xs i := IntWalk.i64_in _ (by unfold fstP; omega)
    rw [e1]
    exact IntWalk.i64_in _ (by unfold sndP fstP; omega))
  rw [HM.out, HK.out] at hcc
  rw [show ((List.range (shpI ls 0).length).map fun i : Nat => (shpI ls 0).getD i 0 + fstP xs i + sndP xs i) = res from hres] at hcc
  clear hll hres
  have HCC := Lib.hid hcc
  clear hcc
  go_enter Tryz.func153, Tryz.ntmps153
  (try rw [hW])
  go_wp2_with fail
  (try rw [hW])
  clear hW
  refine HCC.out.mono ?_
  rintro e w2 ⟨r, rfl, hr, hy⟩
  have B2 : Below w.heap.size w w2 := hbW.trans (hy.mono hbW.size)
  have hr2 := hr.mono hbW.size
  obtain ⟨ar_, cr_, rfl, hr3⟩ := res_slice11 hr2
  have HR3 := Lib.hid hr3
  clear hy hr hr2 hr3
  go_wp2_with fail
  go_ret
  exact ⟨_, rfl, HR3.out, B2⟩
set_option maxRecDepth 100000 in
set_option maxHeartbeats 8000000 in
theorem result17_any {xs : List Int} {ls : List (List Int)} {a2 al : Option Addr} {c2 cl : Nat} {w : World} (A : ArgS w (.slice a2 xs.length c2) xs a2 c2) (na : a2 = none → c2 = 0) (hx : xs.length ≤ 1000) (L : RowL w (.slice al ls.length cl) ls al cl) (ok : ∀ x ∈ ls, OkS x) (hl : ls.length ≤ 1000){v : Int} {n : Nat} (g : GoodO v 17 n xs) (hn : ls.length = n) (hho : holdI 17 xs ls = true) : Calls Tryz.prog 153 #[.agg #[.int .i64 17, .slice a2 xs.length c2, .slice al ls.length cl]] w fun e w' => ∃ r, e = .returned r ∧ ResS w.heap.size w' r (valI 17 xs ls) ∧ Below w.heap.size w w' := by
  obtain ⟨res, hres⟩ : ∃ c, valI 17 xs ls = c := ⟨_, rfl⟩
  rw [hres]
  have HRES := Lib.hid hres
  have HHO := Lib.hid hho
  clear hres hho
  have HA := Lib.hid A
  have HL := Lib.hid L
  have HOK := Lib.hid ok
  obtain ⟨m, hm⟩ : ∃ m, xs.length = m := ⟨_, rfl⟩
  obtain ⟨k, hk⟩ : ∃ k, ls.length = k := ⟨_, rfl⟩
  have HM := Lib.hid hm
  have HK := Lib.hid hk
  rw [hm] at hx ⊢
  rw [hk] at hl ⊢
  obtain ⟨W, hW⟩ : ∃ W, w.alloc (.cells #[.int .i64 17, .slice a2 m c2, .slice al k cl] 189) = W := ⟨_, rfl⟩
  have R0 : Row W w.heap.size 189 #[.int .i64 17, .slice a2 m c2, .slice al k cl] := by rw [← hW]; exact Row.new _ _ _
  have hbW : Below w.heap.size w W := by rw [← hW]; exact (Below.refl _ _).alloc (Nat.le_refl _) _
  obtain ⟨k0, k1, k2, _, _, _⟩ := R0.three
  clear A L ok hm hk
  have hk1 : 0 < k := by rw [← HK.out, hn]; have := (ar_one g).1; omega
  have hk1I : (0 : Int) < (k : Int) := by omega
  have okx := HOK.out _ (shp_in (i := 0) (by rw [HK.out]; omega))
  obtain ⟨b, o0, ax, cx, rfl, hbl, hcx, hAx, hnx⟩ := (HL.out.later hbW).at (i := 0) (by rw [HK.out]; omega)
  rw [Nat.add_zero] at hcx
  obtain ⟨x, hxe⟩ : ∃ x, shpI ls 0 = x := ⟨_, rfl⟩
  rw [hxe] at okx hcx hAx
  have hrk := okx.rank
  obtain ⟨lx, hlx⟩ : ∃ l, x.length = l := ⟨_, rfl⟩
  rw [hlx] at hcx hrk
  have HXE := Lib.hid hxe
  have HLX := Lib.hid hlx
  have HAX := Lib.hid hAx
  have HOX := Lib.hid okx
  have HR0 := Lib.hid R0
  have HNA := Lib.hid na
  have HG := Lib.hid g
  have HN := Lib.hid hn
  have HAW := Lib.hid (HA.out.later hbW)
  have HLW := Lib.hid (HL.out.later hbW)
  clear hxe hlx hAx okx R0 na g hn
  have hres : catS (xs.getD 0 0).toNat ls = res := HRES.out
  obtain ⟨f1, f2, f3⟩ := fit_one HG.out.fit
  obtain ⟨a, ha⟩ : ∃ a : Nat, xs.getD 0 0 = (a : Int) := ⟨(xs.getD 0 0).toNat, by omega⟩
  have hxa : xs = [(a : Int)] := by
    obtain ⟨y, rfl⟩ := List.length_eq_one_iff.1 f1
    simp at ha
    rw [ha]
  have hho := HHO.out
  rw [hxa, hold_cat (by omega)] at hho
  obtain ⟨hk9, hall⟩ := of_decide_eq_true hho
  rw [ha, Int.toNat_natCast] at hres
  have hcc := joined_call (o := 17) (a := a) HAW.out HNA.out (by rw [HM.out]; exact hx) HLW.out HOK.out (by rw [HK.out]; exact hl) (by rw [HK.out]; exact hk1) (by rw [f1]; exact Nat.zero_lt_one) ha (fun y hy => by rw [(hall y hy).1]; exact hk9)
  rw [HM.out, HK.out, hres] at hcc
  clear hres f1 f2 f3 ha hxa hho hall hk9
  have HCC := Lib.hid hcc
  clear hcc
  go_enter Tryz.func153, Tryz.ntmps153
  (try rw [hW])
  go_wp2_with fail
  (try rw [hW])
  clear hW
  refine HCC.out.mono ?_
  rintro e w2 ⟨r, rfl, hr, hy⟩
  have B2 : Below w.heap.size w w2 := hbW.trans (hy.mono hbW.size)
  have hr2 := hr.mono hbW.size
  obtain ⟨ar_, cr_, rfl, hr3⟩ := res_slice11 hr2
  have HR3 := Lib.hid hr3
  clear hy hr hr2 hr3
  go_wp2_with fail
  go_ret
  exact ⟨_, rfl, HR3.out, B2⟩
set_option maxRecDepth 100000 in
set_option maxHeartbeats 8000000 in
theorem result18_any {xs : List Int} {ls : List (List Int)} {a2 al : Option Addr} {c2 cl : Nat} {w : World} (A : ArgS w (.slice a2 xs.length c2) xs a2 c2) (na : a2 = none → c2 = 0) (hx : xs.length ≤ 1000) (L : RowL w (.slice al ls.length cl) ls al cl) (ok : ∀ x ∈ ls, OkS x) (hl : ls.length ≤ 1000){v : Int} {n : Nat} (g : GoodO v 18 n xs) (hn : ls.length = n) (hho : holdI 18 xs ls = true) : Calls Tryz.prog 153 #[.agg #[.int .i64 18, .slice a2 xs.length c2, .slice al ls.length cl]] w fun e w' => ∃ r, e = .returned r ∧ ResS w.heap.size w' r (valI 18 xs ls) ∧ Below w.heap.size w w' := by
  obtain ⟨res, hres⟩ : ∃ c, valI 18 xs ls = c := ⟨_, rfl⟩
  rw [hres]
  have HRES := Lib.hid hres
  have HHO := Lib.hid hho
  clear hres hho
  have HA := Lib.hid A
  have HL := Lib.hid L
  have HOK := Lib.hid ok
  obtain ⟨m, hm⟩ : ∃ m, xs.length = m := ⟨_, rfl⟩
  obtain ⟨k, hk⟩ : ∃ k, ls.length = k := ⟨_, rfl⟩
  have HM := Lib.hid hm
  have HK := Lib.hid hk
  rw [hm] at hx ⊢
  rw [hk] at hl ⊢
  obtain ⟨W, hW⟩ : ∃ W, w.alloc (.cells #[.int .i64 18, .slice a2 m c2, .slice al k cl] 189) = W := ⟨_, rfl⟩
  have R0 : Row W w.heap.size 189 #[.int .i64 18, .slice a2 m c2, .slice al k cl] := by rw [← hW]; exact Row.new _ _ _
  have hbW : Below w.heap.size w W := by rw [← hW]; exact (Below.refl _ _).alloc (Nat.le_refl _) _
  obtain ⟨k0, k1, k2, _, _, _⟩ := R0.three
  clear A L ok hm hk
  have hk1 : 0 < k := by rw [← HK.out, hn]; have := (ar_one g).1; omega
  have hk1I : (0 : Int) < (k : Int) := by omega
  have okx := HOK.out _ (shp_in (i := 0) (by rw [HK.out]; omega))
  obtain ⟨b, o0, ax, cx, rfl, hbl, hcx, hAx, hnx⟩ := (HL.out.later hbW).at (i := 0) (by rw [HK.out]; omega)
  rw [Nat.add_zero] at hcx
  obtain ⟨x, hxe⟩ : ∃ x, shpI ls 0 = x := ⟨_, rfl⟩
  rw [hxe] at okx hcx hAx
  have hrk := okx.rank
  obtain ⟨lx, hlx⟩ : ∃ l, x.length = l := ⟨_, rfl⟩
  rw [hlx] at hcx hrk
  have HXE := Lib.hid hxe
  have HLX := Lib.hid hlx
  have HAX := Lib.hid hAx
  have HOX := Lib.hid okx
  have HR0 := Lib.hid R0
  have HNA := Lib.hid na
  have HG := Lib.hid g
  have HN := Lib.hid hn
  have HAW := Lib.hid (HA.out.later hbW)
  have HLW := Lib.hid (HL.out.later hbW)
  clear hxe hlx hAx okx R0 na g hn
  have hres : shpI ls 0 = res := HRES.out
  have hcc := cloneS_any HAX.out hnx (by rw [HLX.out]; omega)
  rw [HLX.out, ← HXE.out, hres] at hcc
  clear hres
  have HCC := Lib.hid hcc
  clear hcc
  go_enter Tryz.func153, Tryz.ntmps153
  (try rw [hW])
  go_wp2_with fail
  (try rw [hW])
  clear hW
  refine HCC.out.mono ?_
  rintro e w2 ⟨r, rfl, hr, hy⟩
  have B2 : Below w.heap.size w w2 := hbW.trans (hy.mono hbW.size)
  have hr2 := hr.mono hbW.size
  obtain ⟨ar_, cr_, rfl, hr3⟩ := res_slice11 hr2
  have HR3 := Lib.hid hr3
  clear hy hr hr2 hr3
  go_wp2_with fail
  go_ret
  exact ⟨_, rfl, HR3.out, B2⟩
set_option maxRecDepth 100000 in
set_option maxHeartbeats 8000000 in
theorem result19_any {xs : List Int} {ls : List (List Int)} {a2 al : Option Addr} {c2 cl : Nat} {w : World} (A : ArgS w (.slice a2 xs.length c2) xs a2 c2) (na : a2 = none → c2 = 0) (hx : xs.length ≤ 1000) (L : RowL w (.slice al ls.length cl) ls al cl) (ok : ∀ x ∈ ls, OkS x) (hl : ls.length ≤ 1000){v : Int} {n : Nat} (g : GoodO v 19 n xs) (hn : ls.length = n) (hho : holdI 19 xs ls = true) : Calls Tryz.prog 153 #[.agg #[.int .i64 19, .slice a2 xs.length c2, .slice al ls.length cl]] w fun e w' => ∃ r, e = .returned r ∧ ResS w.heap.size w' r (valI 19 xs ls) ∧ Below w.heap.size w w' := by
  obtain ⟨res, hres⟩ : ∃ c, valI 19 xs ls = c := ⟨_, rfl⟩
  rw [hres]
  have HRES := Lib.hid hres
  have HHO := Lib.hid hho
  clear hres hho
  have HA := Lib.hid A
  have HL := Lib.hid L
  have HOK := Lib.hid ok
  obtain ⟨m, hm⟩ : ∃ m, xs.length = m := ⟨_, rfl⟩
  obtain ⟨k, hk⟩ : ∃ k, ls.length = k := ⟨_, rfl⟩
  have HM := Lib.hid hm
  have HK := Lib.hid hk
  rw [hm] at hx ⊢
  rw [hk] at hl ⊢
  obtain ⟨W, hW⟩ : ∃ W, w.alloc (.cells #[.int .i64 19, .slice a2 m c2, .slice al k cl] 189) = W := ⟨_, rfl⟩
  have R0 : Row W w.heap.size 189 #[.int .i64 19, .slice a2 m c2, .slice al k cl] := by rw [← hW]; exact Row.new _ _ _
  have hbW : Below w.heap.size w W := by rw [← hW]; exact (Below.refl _ _).alloc (Nat.le_refl _) _
  obtain ⟨k0, k1, k2, _, _, _⟩ := R0.three
  clear A L ok hm hk
  have hk1 : 0 < k := by rw [← HK.out, hn]; have := (ar_one g).1; omega
  have hk1I : (0 : Int) < (k : Int) := by omega
  have okx := HOK.out _ (shp_in (i := 0) (by rw [HK.out]; omega))
  obtain ⟨b, o0, ax, cx, rfl, hbl, hcx, hAx, hnx⟩ := (HL.out.later hbW).at (i := 0) (by rw [HK.out]; omega)
  rw [Nat.add_zero] at hcx
  obtain ⟨x, hxe⟩ : ∃ x, shpI ls 0 = x := ⟨_, rfl⟩
  rw [hxe] at okx hcx hAx
  have hrk := okx.rank
  obtain ⟨lx, hlx⟩ : ∃ l, x.length = l := ⟨_, rfl⟩
  rw [hlx] at hcx hrk
  have HXE := Lib.hid hxe
  have HLX := Lib.hid hlx
  have HAX := Lib.hid hAx
  have HOX := Lib.hid okx
  have HR0 := Lib.hid R0
  have HNA := Lib.hid na
  have HG := Lib.hid g
  have HN := Lib.hid hn
  have HAW := Lib.hid (HA.out.later hbW)
  have HLW := Lib.hid (HL.out.later hbW)
  clear hxe hlx hAx okx R0 na g hn
  have hk2 : 1 < k := by rw [← HK.out, HN.out]; have := ar_three HG.out; omega
  have hk2I : (1 : Int) < (k : Int) := by omega
  have oky := HOK.out _ (shp_in (i := 1) (by rw [HK.out]; omega))
  obtain ⟨b', o', ay, cy, he, hbl2, hcy, hAy, hny⟩ := HLW.out.at (i := 1) (by rw [HK.out]; omega)
  cases he
  obtain ⟨y, hye⟩ : ∃ y, shpI ls 1 = y := ⟨_, rfl⟩
  rw [hye] at oky hcy hAy
  have hrky := oky.rank
  obtain ⟨ly, hly⟩ : ∃ l, y.length = l := ⟨_, rfl⟩
  rw [hly] at hcy hrky
  have HYE := Lib.hid hye
  have HLY := Lib.hid hly
  have HAY := Lib.hid hAy
  have HOY := Lib.hid oky
  clear hye hly hAy oky
  have hmb : matB (shpI ls 0) (shpI ls 1) = true := HHO.out
  have hmm := of_decide_eq_true hmb
  rw [HXE.out, HYE.out, HLX.out, HLY.out] at hmm
  have hlx2 : lx = 2 := hmm.1
  have hly2 : ly = 2 := hmm.2.1
  obtain ⟨bx, ox, rfl, h1c⟩ := HAX.out.at (i := 0) (by rw [HLX.out]; omega)
  obtain ⟨by_, oy, rfl, h0c⟩ := HAY.out.at (i := 1) (by rw [HLY.out]; omega)
  rw [Nat.add_zero] at h1c
  have hxi : (0 : Int) < (lx : Int) := by omega
  have hxn : 0 < lx := by omega
  have hyn : 1 < ly := by omega
  have hyi : (1 : Int) < (ly : Int) := by omega
  obtain ⟨p, hp⟩ : ∃ p, x.getD 0 0 = p := ⟨_, rfl⟩
  obtain ⟨q, hq⟩ : ∃ q, y.getD 1 0 = q := ⟨_, rfl⟩
  have hpw := HAX.out.wf.getD 0
  have hqw := HAY.out.wf.getD 1
  rw [hp] at h1c hpw
  rw [hq] at h0c hqw
  obtain rfl : [p, q] = res := by rw [← HRES.out, ← hp, ← hq, ← HXE.out, ← HYE.out]; rfl
  have l1 := World.block_lt_of_cell? _ _ h1c
  have l0 := World.block_lt_of_cell? _ _ h0c
  have MK := Lib.hid (show ∀ X, Below W.heap.size W X → (fun X => X.cell? ⟨bx, ox, none⟩ = some (.int .i64 p) ∧ X.cell? ⟨by_, oy + 1, none⟩ = some (.int .i64 q) ∧ X.cell? ⟨w.heap.size, 2, none⟩ = some (.slice (some ⟨b, o0, none⟩) k cl) ∧ X.cell? ⟨b, o0 + 1, none⟩ = some (.slice (some ⟨by_, oy, none⟩) ly cy)) X from fun X h => by
    obtain ⟨g0, g1, g2, _⟩ := (HR0.out.later h).three
    exact ⟨(h.cell l1).trans h1c, (h.cell l0).trans h0c, g2, (h.cell (World.block_lt_of_cell? _ _ hcy)).trans hcy⟩)
  have Z0 : Below W.heap.size W W.drew := (Below.refl _ _).drew
  have hpq := Lib.hid (show Wid [p, q] from fun t ht => by
    simp only [List.mem_cons, List.not_mem_nil, or_false] at ht
    rcases ht with rfl | rfl
    · exact hpw
    · exact hqw)
  clear hp hq h1c h0c l1 l0 hmb hmm hlx2 hly2 hpw hqw
  go_enter Tryz.func153, Tryz.ntmps153
  (try rw [hW])
  go_wp2_with fail
  (try rw [hW])
  clear hW
  refine wp_region_held_drew (S := fun X => X.cell? ⟨bx, ox, none⟩ = some (.int .i64 p) ∧ X.cell? ⟨by_, oy + 1, none⟩ = some (.int .i64 q) ∧ X.cell? ⟨w.heap.size, 2, none⟩ = some (.slice (some ⟨b, o0, none⟩) k cl) ∧ X.cell? ⟨b, o0 + 1, none⟩ = some (.slice (some ⟨by_, oy, none⟩) ly cy)) (by kernel_rfl) (MK.out _ Z0) (fun hHeld => ?_)
  obtain ⟨z0, hdrh⟩ : ∃ Y, W.drew = Y := ⟨_, rfl⟩
  rw [hdrh] at Z0 hHeld ⊢
  clear hdrh
  refine todo [0, 1, 2, 3, 4, 5, 6, 7, 8] ?_
  iterate 9
   first
   | (refine todoH (v := ?_) rfl (by kernel_rfl) (fun _ _ _ h => h) (by assumption) (Or.inl ⟨by rfl, ?_⟩) ?_
      rotate_left
      · intro w hSw; (try dsimp only at hSw); go_simp; (try with_reducible rfl)
      try simp only [Act.put, List.getElem_toArray, List.getElem_cons_succ, List.getElem_cons_zero, List.setIfInBounds_toArray, List.set_cons_zero, List.set_cons_succ])
   | (refine todoH (v := undef) rfl (by kernel_rfl) (fun _ _ _ h => h) (by assumption) (Or.inr ⟨by rfl, rfl⟩) ?_
      try simp only [Act.put, List.getElem_toArray, List.getElem_cons_succ, List.getElem_cons_zero, List.setIfInBounds_toArray, List.set_cons_zero, List.set_cons_succ])
  refine todone ?_
  obtain ⟨z1, hh1⟩ : ∃ Y, z0.alloc (.cells #[.int .i64 p, .int .i64 q] 3) = Y := ⟨_, rfl⟩
  have Z1 : Below W.heap.size W z1 := by rw [← hh1]; exact Z0.alloc Z0.size _
  have Rh1 : Row z1 z0.heap.size 3 #[.int .i64 p, .int .i64 q] := by rw [← hh1]; exact Row.new _ _ _
  refine wpAnyH_ready (rs := [9]) (by kernel_rfl) (by simp) ?_
  refine AllReadyH.cons rfl (fun K hK => ?sh_9) AllReadyH.nil
  go_simp
  (try rw [hh1])
  clear hh1
  refine hK.out _ _ (MK.out _ Z1) (fun hHeld2 => ?mh_9)
  clear hK K hHeld
  have hHeld := hHeld2
  clear hHeld2
  try simp only [Act.put, List.getElem_toArray, List.getElem_cons_succ, List.getElem_cons_zero, List.setIfInBounds_toArray, List.set_cons_zero, List.set_cons_succ]
  refine todo [10] ?_
  iterate 1
   first
   | (refine todoH (v := ?_) rfl (by kernel_rfl) (fun _ _ _ h => h) (by assumption) (Or.inl ⟨by rfl, ?_⟩) ?_
      rotate_left
      · intro w hSw; (try dsimp only at hSw); go_simp; (try with_reducible rfl)
      try simp only [Act.put, List.getElem_toArray, List.getElem_cons_succ, List.getElem_cons_zero, List.setIfInBounds_toArray, List.set_cons_zero, List.set_cons_succ])
   | (refine todoH (v := undef) rfl (by kernel_rfl) (fun _ _ _ h => h) (by assumption) (Or.inr ⟨by rfl, rfl⟩) ?_
      try simp only [Act.put, List.getElem_toArray, List.getElem_cons_succ, List.getElem_cons_zero, List.setIfInBounds_toArray, List.set_cons_zero, List.set_cons_succ])
  refine todone ?_
  refine wpAnyH_done (by kernel_rfl) ?_ _
  (try dsimp only [Straight])
  have hE : Below w.heap.size w z1 := hbW.trans (Z1.mono hbW.size)
  have hgz := Z0.size
  have hgw := hbW.size
  have HRh := Lib.hid Rh1
  clear Rh1
  go_wp2_with fail
  go_ret
  exact ⟨_, rfl, ⟨⟨rfl, .inr ⟨z0.heap.size, 2, #[.int .i64 p, .int .i64 q], rfl, by omega, HRh.out, Nat.le_refl _, by unfold maxLen; omega, by simp, by simp⟩⟩, hpq.out⟩, hE⟩
set_option maxRecDepth 100000 in
set_option maxHeartbeats 8000000 in
theorem result20_any {xs : List Int} {ls : List (List Int)} {a2 al : Option Addr} {c2 cl : Nat} {w : World} (A : ArgS w (.slice a2 xs.length c2) xs a2 c2) (na : a2 = none → c2 = 0) (hx : xs.length ≤ 1000) (L : RowL w (.slice al ls.length cl) ls al cl) (ok : ∀ x ∈ ls, OkS x) (hl : ls.length ≤ 1000){v : Int} {n : Nat} (g : GoodO v 20 n xs) (hn : ls.length = n) (hho : holdI 20 xs ls = true) : Calls Tryz.prog 153 #[.agg #[.int .i64 20, .slice a2 xs.length c2, .slice al ls.length cl]] w fun e w' => ∃ r, e = .returned r ∧ ResS w.heap.size w' r (valI 20 xs ls) ∧ Below w.heap.size w w' := by
  obtain ⟨res, hres⟩ : ∃ c, valI 20 xs ls = c := ⟨_, rfl⟩
  rw [hres]
  have HRES := Lib.hid hres
  have HHO := Lib.hid hho
  clear hres hho
  have HA := Lib.hid A
  have HL := Lib.hid L
  have HOK := Lib.hid ok
  obtain ⟨m, hm⟩ : ∃ m, xs.length = m := ⟨_, rfl⟩
  obtain ⟨k, hk⟩ : ∃ k, ls.length = k := ⟨_, rfl⟩
  have HM := Lib.hid hm
  have HK := Lib.hid hk
  rw [hm] at hx ⊢
  rw [hk] at hl ⊢
  obtain ⟨W, hW⟩ : ∃ W, w.alloc (.cells #[.int .i64 20, .slice a2 m c2, .slice al k cl] 189) = W := ⟨_, rfl⟩
  have R0 : Row W w.heap.size 189 #[.int .i64 20, .slice a2 m c2, .slice al k cl] := by rw [← hW]; exact Row.new _ _ _
  have hbW : Below w.heap.size w W := by rw [← hW]; exact (Below.refl _ _).alloc (Nat.le_refl _) _
  obtain ⟨k0, k1, k2, _, _, _⟩ := R0.three
  clear A L ok hm hk
  have hk1 : 0 < k := by rw [← HK.out, hn]; have := (ar_one g).1; omega
  have hk1I : (0 : Int) < (k : Int) := by omega
  have okx := HOK.out _ (shp_in (i := 0) (by rw [HK.out]; omega))
  obtain ⟨b, o0, ax, cx, rfl, hbl, hcx, hAx, hnx⟩ := (HL.out.later hbW).at (i := 0) (by rw [HK.out]; omega)
  rw [Nat.add_zero] at hcx
  obtain ⟨x, hxe⟩ : ∃ x, shpI ls 0 = x := ⟨_, rfl⟩
  rw [hxe] at okx hcx hAx
  have hrk := okx.rank
  obtain ⟨lx, hlx⟩ : ∃ l, x.length = l := ⟨_, rfl⟩
  rw [hlx] at hcx hrk
  have HXE := Lib.hid hxe
  have HLX := Lib.hid hlx
  have HAX := Lib.hid hAx
  have HOX := Lib.hid okx
  have HR0 := Lib.hid R0
  have HNA := Lib.hid na
  have HG := Lib.hid g
  have HN := Lib.hid hn
  have HAW := Lib.hid (HA.out.later hbW)
  have HLW := Lib.hid (HL.out.later hbW)
  clear hxe hlx hAx okx R0 na g hn
  have hres : dropS (shpI ls 0) xs = res := HRES.out
  have hcc := dropC_any HAX.out HAW.out hnx HNA.out (by rw [HLX.out]; omega) (by rw [HM.out]; omega)
  rw [HLX.out, HM.out, ← HXE.out, hres] at hcc
  clear hres
  have HCC := Lib.hid hcc
  clear hcc
  go_enter Tryz.func153, Tryz.ntmps153
  (try rw [hW])
  go_wp2_with fail
  (try rw [hW])
  clear hW
  refine HCC.out.mono ?_
  rintro e w2 ⟨r, rfl, hr, hy⟩
  have B2 : Below w.heap.size w w2 := hbW.trans (hy.mono hbW.size)
  have hr2 := hr.mono hbW.size
  obtain ⟨ar_, cr_, rfl, hr3⟩ := res_slice11 hr2
  have HR3 := Lib.hid hr3
  clear hy hr hr2 hr3
  go_wp2_with fail
  go_ret
  exact ⟨_, rfl, HR3.out, B2⟩
theorem result_any {o : Int} {xs : List Int} {ls : List (List Int)} {a2 al : Option Addr} {c2 cl : Nat} {w : World} (A : ArgS w (.slice a2 xs.length c2) xs a2 c2) (na : a2 = none → c2 = 0) (hx : xs.length ≤ 1000) (L : RowL w (.slice al ls.length cl) ls al cl) (ok : ∀ x ∈ ls, OkS x) (hl : ls.length ≤ 1000) {v : Int} {n : Nat} (g : GoodO v o n xs) (hn : ls.length = n) (hho : holdI o xs ls = true) : Calls Tryz.prog 153 #[.agg #[.int .i64 o, .slice a2 xs.length c2, .slice al ls.length cl]] w fun e w' => ∃ r, e = .returned r ∧ ResS w.heap.size w' r (valI o xs ls) ∧ Below w.heap.size w w' := by
  have ho := of_decide_eq_true g.inn
  have hoo : o = 1 ∨ o = 2 ∨ o = 3 ∨ o = 4 ∨ o = 5 ∨ o = 6 ∨ o = 7 ∨ o = 8 ∨ o = 9 ∨ o = 10 ∨ o = 11 ∨ o = 12 ∨ o = 13 ∨ o = 14 ∨ o = 15 ∨ o = 16 ∨ o = 17 ∨ o = 18 ∨ o = 19 ∨ o = 20 := by omega
  clear ho
  rcases hoo with rfl | rfl | rfl | rfl | rfl | rfl | rfl | rfl | rfl | rfl | rfl | rfl | rfl | rfl | rfl | rfl | rfl | rfl | rfl | rfl
  · exact result1_any A na hx L ok hl g hn hho
  · exact result2_any A na hx L ok hl g hn hho
  · exact result3_any A na hx L ok hl g hn hho
  · exact result4_any A na hx L ok hl g hn hho
  · exact result5_any A na hx L ok hl g hn hho
  · exact result6_any A na hx L ok hl g hn hho
  · exact result7_any A na hx L ok hl g hn hho
  · exact result8_any A na hx L ok hl g hn hho
  · exact result9_any A na hx L ok hl g hn hho
  · exact result10_any A na hx L ok hl g hn hho
  · exact result11_any A na hx L ok hl g hn hho
  · exact result12_any A na hx L ok hl g hn hho
  · exact result13_any A na hx L ok hl g hn hho
  · exact result14_any A na hx L ok hl g hn hho
  · exact result15_any A na hx L ok hl g hn hho
  · exact result16_any A na hx L ok hl g hn hho
  · exact result17_any A na hx L ok hl g hn hho
  · exact result18_any A na hx L ok hl g hn hho
  · exact result19_any A na hx L ok hl g hn hho
  · exact result20_any A na hx L ok hl g hn hho
end
end Go.Proofs.YtjgiacghlkkjfaaGreatDoor
