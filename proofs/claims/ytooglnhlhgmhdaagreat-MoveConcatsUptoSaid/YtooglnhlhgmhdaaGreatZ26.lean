/-
  Layer 9's laws: the helpers whole, own, of, is; the functions of move at answers that are handed in again. (Made by wip/gen/gen_mkit.py.)
-/
import Derived.Test.YtooglnhlhgmhdaaGreatZ1
import Derived.Test.YtooglnhlhgmhdaaGreatZ2
import Derived.Test.YtooglnhlhgmhdaaGreatZ3
import Derived.Test.YtooglnhlhgmhdaaGreatZ5
import Derived.Test.YtooglnhlhgmhdaaGreatZ7
import Derived.Test.YtooglnhlhgmhdaaGreatZ11
import Derived.Test.YtooglnhlhgmhdaaGreatZ12
import Derived.Test.YtooglnhlhgmhdaaGreatZ13
import Derived.Test.YtooglnhlhgmhdaaGreatZ14
import Derived.Test.YtooglnhlhgmhdaaGreatZ15
import Derived.Test.YtooglnhlhgmhdaaGreatZ16
import Derived.Test.YtooglnhlhgmhdaaGreatZ17
import Derived.Test.YtooglnhlhgmhdaaGreatZ18
import Derived.Test.YtooglnhlhgmhdaaGreatZ19
import Derived.Test.YtooglnhlhgmhdaaGreatZ21
import Derived.Test.YtooglnhlhgmhdaaGreatZ24
import Derived.Test.YtooglnhlhgmhdaaGreatZ25
import Derived.WalkKit
import Derived.Test.YtooglnhlhgmhdaaGreatRows
import Derived.BigQuiet
import Derived.Deep.QuietTactic
import Derived.Lib.Hide
import Derived.Lib.Small
import Derived.Lib.Walk
import Derived.Lib.BitFns
import Derived.Maps.AppendAt
import Derived.RangeFuncNested
import Derived.RangeFuncBound
import Derived.RangeFuncCalls
import Derived.RangeFuncLeaves
import Derived.Shelf.Abstract
import Derived.OwnWalkIn
import Derived.TacticsInMore
import Derived.LoopNIn
import Derived.LoopIn
import Derived.RangeFuncBox
import Derived.Deep.RegionHeld3
import Derived.OrdersIn
import Derived.StillTailTactics
import Derived.RangeFuncFrom
import Derived.Laws.EntriesVeiled
import Derived.ProofKit
import Derived.OpenShut
import Derived.JoinedCond
import Derived.Carry
import Derived.Laws.AppendOwnNone
import Derived.Lib.ItoaNum
import Derived.Deep.RegionLaw
import Derived.WalkMore
import Derived.Lib.SmallJoins
import Derived.IntWalk
import Derived.Deep.DeepCutAuto
import Derived.Laws.OwnMore
import Derived.OrdersHeld
import Derived.Deep.RegionHeld
import Derived.ArgAppend
import Derived.Deep.Slices
import Derived.Laws.CopyOwn
import Derived.Lib.SliceRun
namespace Go.Proofs.YtooglnhlhgmhdaaGreat
set_option maxRecDepth 100000
section
open Go.RowKit
set_option linter.unusedVariables false
set_option linter.unusedSimpArgs false
set_option maxRecDepth 100000 in
set_option maxHeartbeats 4000000 in
theorem whole9_any {w : World} {u v : Value} {s xs : List Int} {a b : Option Addr} {ca cb : Nat} (A : ArgS w u s a ca) (na : a = none → ca = 0) (B : ArgS w v xs b cb) (hs : s.length ≤ 1000) (hq : xs.length ≤ 1000) :
    Calls Tryz.prog 51 #[u, v] w fun e w' => ∃ r, e = .returned r ∧ ResT w.heap.size w' r s (xs.map intQ) 6 ∧ Below w.heap.size w w' := by
  obtain ⟨i0, hi, hz0, hz1, hz2⟩ := info_parts infoR
  have HA := Lib.hid A
  have NA := Lib.hid na
  have HB := Lib.hid B
  obtain rfl := A.is
  obtain rfl := B.is
  clear A na B
  go_enter Tryz.func51, Tryz.ntmps51
  go_wp2
  have R1 : Row ((w.alloc (.cells #[.slice none 0 0, .slice none 0 0] 26)).alloc (.cells #[.slice a s.length ca, .slice none 0 0] 34)) w.heap.size 26 #[.slice none 0 0, .slice none 0 0] := (Row.new _ _ _).alloc _
  have R2 : Row ((w.alloc (.cells #[.slice none 0 0, .slice none 0 0] 26)).alloc (.cells #[.slice a s.length ca, .slice none 0 0] 34)) (w.heap.size + 1) 34 #[.slice a s.length ca, .slice none 0 0] := by have h := (Row.new (w.alloc (.cells #[.slice none 0 0, .slice none 0 0] 26)) 34 #[.slice a s.length ca, .slice none 0 0]); simp only [World.size_alloc] at h; exact h
  have hBW : Below w.heap.size w ((w.alloc (.cells #[.slice none 0 0, .slice none 0 0] 26)).alloc (.cells #[.slice a s.length ca, .slice none 0 0] 34)) := ((Below.refl _ _).alloc (by simp) _).alloc (by simp) _
  have H1 := Lib.hid R1
  have H2 := Lib.hid R2
  have HBW := Lib.hid hBW
  clear R1 R2 hBW
  go_loopw [6] (fun i wr => ∃ (k : Nat) (v : Value), i = .int .i64 (k : Int) ∧ k ≤ xs.length ∧ Row wr w.heap.size 26 #[.slice none 0 0, .slice none 0 0] ∧
    Row wr (w.heap.size + 1) 34 #[.slice a s.length ca, v] ∧ RowO w.heap.size 75 (fun W v x => ResR w.heap.size W v x 6) wr v ((xs.take k).map intQ) ∧ Below w.heap.size w wr) (fun i _ => xs.length - (intOf i).toNat)
  case atStart => exact ⟨0, _, rfl, Nat.zero_le _, H1.out, H2.out, RowO.nil _ _ _ _, HBW.out⟩
  case round =>
    obtain ⟨k, v, rfl, hk, r1, r2, ⟨es, hown, hall⟩, hb⟩ := hrel
    have hsz := hb.size
    have hlt2 := r2.lt
    have c21 := r2.cell 1
    have hle : es.length = k := by rw [hall.1]; simp [hk]
    by_cases hlt : k < xs.length
    · obtain ⟨bb, o, hbo, hc⟩ := (HB.out.later hb).at hlt
      have hc0 := (HB.out.at hlt)
      have hqk := getD_some hlt
      have hwx := HB.out.wf.getD k
      obtain ⟨x, hxe⟩ : ∃ x, xs.getD k 0 = x := ⟨_, rfl⟩
      rw [hxe] at hc hqk hwx hc0
      have hb0 : bb < w.heap.size := by
        obtain ⟨b', o', e', h'⟩ := hc0
        rw [hbo] at e'
        cases e'
        exact World.block_lt_of_cell? w _ h'
      obtain ⟨hx0, hx1⟩ := hwx
      subst hbo
      obtain ⟨r, hrv, hrb, hrne⟩ := hown.hits hsz
      have n2 := hrne _ _ _ r2 (by decide)
      have n1 := hrne _ _ _ r1 (by decide)
      have mkS : ∀ X, Kept r wr X → X.cell? ⟨w.heap.size + 1, 1, none⟩ = some v ∧ X.cell? ⟨bb, o + k, none⟩ = some (.int .i64 x) ∧ Kept r wr X := fun X h => ⟨h.cell c21 n2, h.cell hc (by show bb ≠ r; omega), h⟩
      have hltI : (k : Int) < (xs.length : Int) := by omega
      have hS0 := mkS wr.drew ((Kept.refl r wr).drew)
      have HQK := Lib.hid hqk
      clear hc0 hxe hqk
      go_wp2_with fail
      refine wp_region_L (S := (fun X => X.cell? ⟨w.heap.size + 1, 1, none⟩ = some v ∧ X.cell? ⟨bb, o + k, none⟩ = some (.int .i64 x) ∧ Kept r wr X)) (z := 10) (by kernel_rfl) hS0 (fun hHeld => ?_)
      refine todo [0, 1, 2, 3, 4, 5] ?_
      iterate 6
       refine todoL (v := ?_) rfl (by kernel_rfl) (fun _ _ _ h => h) (by assumption) (Or.inl ⟨by rfl, ?_⟩) ?_
       rotate_left
       · intro w hSw; (try dsimp only at hSw); go_simp; (try with_reducible rfl)
       try simp only [Act.put, List.getElem_toArray, List.getElem_cons_succ, List.getElem_cons_zero, List.setIfInBounds_toArray, List.set_cons_zero, List.set_cons_succ]
      refine todone ?_
      refine wpAnyL_one (i := 6) (by kernel_rfl) rfl (fun K hK => ?sb6)
      go_simp
      refine (intRR_any x _ hx0 hx1).mono ?_
      rintro e w5 ⟨rv, rfl, qv, hb5⟩
      have Q5 := Lib.hid qv
      obtain ⟨m5, f1, l1, j1, f2, l2, j2, rfl⟩ := qv.shape
      clear qv
      go_simp
      have hB5 : Below w.heap.size w w5 := (hb.drew).trans (hb5.mono hsz)
      have hk5 : Kept r wr w5 := ((Kept.refl r wr).drew).below hb5
      refine hK.out _ _ (fun _ => mkS _ hk5) (fun hHeld2 => ?mb6)
      clear hK K hHeld
      have hHeld := hHeld2 (by decide)
      clear hHeld2
      try simp only [Act.put, List.setIfInBounds_toArray, List.set_cons_zero, List.set_cons_succ]
      refine wpAnyL_one (i := 7) (by kernel_rfl) rfl (fun K hK => ?sb7)
      go_simp
      refine hK.out _ _ (fun _ => mkS _ (hk5.alloc _)) (fun hHeld2 => ?mb7)
      clear hK K hHeld
      have hHeld := hHeld2 (by decide)
      clear hHeld2
      try simp only [Act.put, List.setIfInBounds_toArray, List.set_cons_zero, List.set_cons_succ]
      refine wpAnyL_one (i := 8) (by kernel_rfl) rfl (fun K hK => ?sb8)
      have hb5w : Below wr.heap.size wr w5 := (Below.refl _ wr).drew.trans hb5
      have hown5 : OwnE w.heap.size 75 w5 v es := hown.later hb5w
      have hall5 : AllE (fun v x => ResR w.heap.size w5 v x 6) es ((xs.take k).map intQ) := hall.imp fun u x _ h => h.later hb5w
      have hsz5 := hB5.size
      refine step_append_ownT rfl _ _ 32 rfl w.heap.size 75 i0 _ 3 56 Tryz.underlying32 hi hz0 hz1 hz2 rfl (by decide) _ es.length (flat3 es) rfl (hown5.later ((Below.refl _ _).alloc (Nat.le_refl _) _)) ⟨w5.heap.size, 0, none⟩ 1 1 [.bool m5, .slice f1 l1 j1, .slice f2 l2 j2] rfl rfl (cell_three_new _ _ _ _ _) (by simp [Value.oneCell']) (by unfold maxLen; omega) (by omega) (by simp; omega) ?_
      intro v' w6 hown' hgrow _
      obtain ⟨av, cv, rfl⟩ := ownT_slice hown'
      have hk6 : Kept r wr w6 := (hk5.alloc _).grown hgrow hrv
      refine hK.out _ _ (fun _ => mkS _ hk6) (fun hHeld2 => ?mb8)
      clear hK K hHeld
      have hHeld := hHeld2 (by decide)
      clear hHeld2
      try simp only [Act.put, List.setIfInBounds_toArray, List.set_cons_zero, List.set_cons_succ]
      refine wpAnyL_take (i := 9) (v := ?va9) rfl (by kernel_rfl) (by kernel_rfl) (by kernel_rfl) (by kernel_rfl) (fun _ _ _ h => h) (Or.inl ⟨by rfl, ?ha9⟩) (by assumption) ?ra9
      case ha9 =>
        intro w hSw
        try dsimp only at hSw
        go_simp
        try with_reducible rfl
      try simp only [Act.put, List.setIfInBounds_toArray, List.set_cons_zero, List.set_cons_succ]
      have R26 := r2.kept hk6 n2
      have f21 := R26.free 1
      have d21 := R26.cell 1
      refine wpAnyL_one (i := 10) (by kernel_rfl) rfl (fun K hK => ?sb10)
      go_simp
      refine hK.out _ _ (fun h => absurd rfl h) (fun _ => ?mb10)
      clear hK K
      try simp only [Act.put, List.setIfInBounds_toArray, List.set_cons_zero, List.set_cons_succ]
      refine wpAnyL_done (by kernel_rfl) ?_ _
      go_wp2
      go_roundw
      case rel =>
        have hx5 : ResR w.heap.size w5 (E3.agg ⟨.bool m5, .slice f1 l1 j1, .slice f2 l2 j2⟩) (intQ x) 6 := Q5.out.mono (by show w.heap.size ≤ wr.heap.size; exact hsz)
        obtain ⟨hrow6, hb6⟩ := pushE (P := fun W v x => ResR w.heap.size W v x 6) (e := ⟨.bool m5, .slice f1 l1 j1, .slice f2 l2 j2⟩) hB5 hsz5 hown5 hall5 hx5 (fun u y h => ResR.apart hown5 hgrow (by decide) h) hown' hgrow
        rw [hle] at hrow6
        have r16 := r1.kept hk6 n1
        refine ⟨k + 1, _, by go_num, by omega, r16.far (by show w.heap.size ≠ w.heap.size + 1; omega) _, R26.set21 _, ?_, hb6.setCell (by show w.heap.size ≤ w.heap.size + 1; omega) _⟩
        rw [take_nextL HQK.out, List.map_append]
        exact hrow6.far R26 (by decide) (kept1 _) (fun u y h => h.far R26 (by decide) (kept1 _))
      case measure => simp [intOf]; omega
    · obtain rfl : k = xs.length := by omega
      have hltI : ¬ (xs.length : Int) < (xs.length : Int) := by omega
      rw [List.take_length] at hall
      obtain ⟨av, cv, rfl⟩ := ownT_slice hown
      rw [hle] at r2 hown
      have fE : RowO w.heap.size 75 (fun W v x => ResR w.heap.size W v x 6) wr (.slice av xs.length cv) (xs.map intQ) := ⟨es, hown, hall⟩
      have fT := fE.at_
      have TT : TensR wr (.agg #[.slice a s.length ca, .slice av xs.length cv]) s (xs.map intQ) 6 a ca av cv := ⟨by rw [List.length_map], HA.out.later hb, NA.out, by rw [List.length_map]; exact fT.2.1.imp (fun v x _ h => h.arg), fT.2.2⟩
      have hback := backT_any TT (by omega) (by rw [List.length_map]; omega) (by omega)
      have c20 := r2.cell 0
      have d21 := r2.cell 1
      have HR1 := Lib.hid r1
      clear hown hall hle fE fT TT c21
      go_wp2_with (go_at_call 91; refine hback.mono ?_; rintro e w7 ⟨fa, fb, fca, fcb, rfl, fS, fO, hb7⟩; simp only [List.length_map] at fO; have R17 := HR1.out.later hb7; obtain ⟨c10, c11, g10, g11⟩ := R17.two; have R1s := R17.set2 (.slice fa s.length fca) (.slice fb xs.length fcb); obtain ⟨zz0, zz1, _, _⟩ := R1s.two; have HFS := Lib.hid fS; have HFO := Lib.hid fO; have HR17 := Lib.hid R17; clear fS fO R1s R17)
      have hB7 : Below w.heap.size w w7 := hb.trans (hb7.mono hsz)
      have hT7 : ResT w.heap.size w7 (.agg #[.slice fa s.length fca, .slice fb xs.length fcb]) s (xs.map intQ) 6 := ⟨fa, fb, fca, fcb, by rw [List.length_map], HFS.out.mono hsz, by rw [List.length_map]; exact HFO.out.mono hsz (fun v x h => h.mono hsz)⟩
      refine bodyPost_ret (v := .agg #[.slice fa s.length fca, .slice fb xs.length fcb]) (by simp [results, Tryz.results51, go_sem, zz0, zz1]) rfl ⟨_, rfl, ?_, ?_⟩
      · exact hT7.far HR17.out (by decide) (by decide) (by decide) (kept2 _ _)
      · exact below_set2 hB7 (Nat.le_refl _) _ _
/-- the ending of an operation that must succeed -/
def Good9 (base : Nat) (w' : World) (e : Ending) (s : List Int) (L : List Rat) (N : Nat) : Prop :=
  ∃ (a b : Option Addr) (ca cb : Nat), e = .returned (.tuple #[.agg #[.slice a s.length ca, .slice b L.length cb], .int .i64 0]) ∧ ResT base w' (.agg #[.slice a s.length ca, .slice b L.length cb]) s L N
theorem One.good9 {base N : Nat} {w : World} {e : Ending} {c : Int} {s : List Int} {L L' : List Rat} (h : One base w e c s L N) (h0 : c = 0) (hL : L = L') : Good9 base w e s L' N := by
  subst hL
  subst h0
  rcases h with ⟨_, r, rfl, hT⟩ | ⟨h, _⟩
  · obtain ⟨a, b, ca, cb, rfl, _⟩ := id hT
    exact ⟨a, b, ca, cb, rfl, hT⟩
  · exact absurd rfl h
theorem orL2 {x y : Int} (h : x = 0) : orL [x, y] = y := by
  subst h
  simp [orL]
  exact fun h => h.symm
/-- a tensor that may be: its shape, and how many elements it has -/
structure Ok9 (s : List Int) (k : Nat) : Prop where
  ok : OkS s
  len : (k : Int) = prodS s
theorem Ok9.may {s : List Int} {k : Nat} {qs : List Q3} (h : Ok9 s k) (hk : qs.length = k) (hok : ∀ q ∈ qs, okQ q = true) : mayT s qs = 0 := mayT_ok (mayC_ok h.ok) (by rw [hk, h.ok.count]; exact h.len) hok
theorem ok9_of {s : List Int} {qs : List Q3} (h : mayT s qs = 0) : Ok9 s qs.length := ⟨mayC_zero.1 (mayT_rank h), by rw [(mayT_valid h).1, (mayC_zero.1 (mayT_rank h)).count]⟩
theorem Ok9.le {s : List Int} {k : Nat} (h : Ok9 s k) : s.length ≤ 4 ∧ k ≤ 1024 := ⟨h.ok.rank, by have := h.len; have := h.ok.few; omega⟩
def trV (s p : List Int) (L : List Rat) : List Rat := fillV (trS s p) fun xs => elV s L (trI p xs)
def slV (s t : List Int) (L : List Rat) : List Rat := fillV (slS s t) fun xs => elV s L ((List.range s.length).map fun i : Nat => IntKind.i64.wrap (xs.getD i 0 + fstP t i))
def pdV (s t : List Int) (L : List Rat) : List Rat := fillV (pdW s t) fun xs => elV s L ((List.range s.length).map fun i : Nat => IntKind.i64.wrap (xs.getD i 0 - fstP t i))
theorem transK {b1 n : Nat} {w : World} {u : Value} {s t : List Int} {L : List Rat} {ad : Option Addr} {cd : Nat} (h1 : ResT b1 w u s L n) (D : ArgS w (.slice ad t.length cd) t ad cd) (nd : ad = none → cd = 0) (ht : t.length ≤ 8000000) (hs : Ok9 s L.length) (hn : n ≤ 2000000) (hp : permC t s.length = 0) :
    Calls Tryz.prog 13 #[u, .slice ad t.length cd] w fun e w' => Good9 w.heap.size w' e (trS s t) (trV s t L) (n + 2) ∧ Below w.heap.size w w' := by
  obtain ⟨q1, a1, c1, ca1, cc1, T1, e1, l1, k1⟩ := h1.tens
  have g1 : q1.length = L.length := by rw [← e1]; simp
  have m1 := hs.may g1 k1
  have hle := hs.le
  exact (transpose_any T1 D nd (by omega) ht (by omega) l1 (by omega)).mono fun e w' ⟨h, hb⟩ => ⟨h.good9 ((orL2 m1).trans hp) (by rw [e1]; rfl), hb⟩
theorem sliceK {b1 n : Nat} {w : World} {u : Value} {s t : List Int} {L : List Rat} {ad : Option Addr} {cd : Nat} (h1 : ResT b1 w u s L n) (D : ArgS w (.slice ad t.length cd) t ad cd) (nd : ad = none → cd = 0) (ht : t.length ≤ 8000000) (hs : Ok9 s L.length) (hn : n ≤ 2000000) (hp : slC s t = 0) :
    Calls Tryz.prog 24 #[u, .slice ad t.length cd] w fun e w' => Good9 w.heap.size w' e (slS s t) (slV s t L) (n + 2) ∧ Below w.heap.size w w' := by
  obtain ⟨q1, a1, c1, ca1, cc1, T1, e1, l1, k1⟩ := h1.tens
  have g1 : q1.length = L.length := by rw [← e1]; simp
  have m1 := hs.may g1 k1
  have hle := hs.le
  exact (slice_any T1 D nd (by omega) ht (by omega) l1 (by omega)).mono fun e w' ⟨h, hb⟩ => ⟨h.good9 ((orL2 m1).trans hp) (by rw [e1]; rfl), hb⟩
theorem padK {b1 n : Nat} {w : World} {u : Value} {s t : List Int} {L : List Rat} {ad : Option Addr} {cd : Nat} (h1 : ResT b1 w u s L n) (D : ArgS w (.slice ad t.length cd) t ad cd) (nd : ad = none → cd = 0) (ht : t.length ≤ 8000000) (hs : Ok9 s L.length) (hn : n ≤ 2000000) (hp : pdCW s t = 0) :
    Calls Tryz.prog 26 #[u, .slice ad t.length cd] w fun e w' => Good9 w.heap.size w' e (pdW s t) (pdV s t L) (n + 2) ∧ Below w.heap.size w w' := by
  obtain ⟨q1, a1, c1, ca1, cc1, T1, e1, l1, k1⟩ := h1.tens
  have g1 : q1.length = L.length := by rw [← e1]; simp
  have m1 := hs.may g1 k1
  have hle := hs.le
  exact (pad_any T1 D nd (by omega) ht (by omega) l1 (by omega)).mono fun e w' ⟨h, hb⟩ => ⟨h.good9 ((orL2 m1).trans hp) (by rw [e1]; rfl), hb⟩
/-- the reference's tensor: as it came, or of rank 0 -/
def shV (s : List Int) (qs : List Q3) : List Int := if mayT s qs = 0 then s else []
def elsV (s : List Int) (qs : List Q3) : List Rat := if mayT s qs = 0 then qs.map Q3.rat else [intQ 0]
set_option maxRecDepth 100000 in
set_option maxHeartbeats 4000000 in
theorem of9_any {n : Nat} {w : World} {v : Value} {s : List Int} {qs : List Q3} {a b : Option Addr} {ca cb : Nat} (T : TensQ w v s qs a ca b cb) (hs : s.length ≤ 1000000000) (hq : qs.length ≤ 1000000000) (hl : lensQ qs n) (hn : n ≤ 134217728) :
    Calls Tryz.prog 17 #[v] w fun e w' => ∃ r, e = .returned r ∧ TenR w' r (shV s qs) (elsV s qs) (5 * n + 6) ∧ Below w.heap.size w w' := by
  have HT := Lib.hid T
  obtain rfl := T.is
  obtain ⟨W, hW⟩ : ∃ W, ((w.alloc (.cells #[.slice a s.length ca, .slice b qs.length cb] 26)).alloc (.cells #[.slice none 0 0, .slice none 0 0] 34)) = W := ⟨_, rfl⟩
  have R0 : Row W (w.heap.size) 26 #[.slice a s.length ca, .slice b qs.length cb] := by rw [← hW]; exact (Row.new _ _ _).alloc _
  have R1 : Row W (w.heap.size + 1) 34 #[.slice none 0 0, .slice none 0 0] := by rw [← hW]; have h := Row.new (w.alloc (.cells #[.slice a s.length ca, .slice b qs.length cb] 26)) 34 #[.slice none 0 0, .slice none 0 0]; (try simp only [World.size_alloc] at h); exact h
  have hBW : Below w.heap.size w W := by rw [← hW]; exact (((Below.refl _ _).alloc (by (try simp) <;> omega) _).alloc (by (try simp) <;> omega) _)
  have hsW : W.heap.size = w.heap.size + 1 + 1 := by rw [← hW]; simp
  have hm := mayT_any (HT.out.later hBW) hq (fun q hq => ⟨Nat.le_trans (hl q hq).1 (by omega), Nat.le_trans (hl q hq).2 (by omega)⟩)
  obtain ⟨c, hc⟩ : ∃ c, mayT s qs = c := ⟨_, rfl⟩
  have HL := Lib.hid hl
  rw [hc] at hm
  obtain ⟨c0, c1, _, _⟩ := R0.two
  by_cases h0 : c = 0
  · subst h0
    have e1 : shV s qs = s := by unfold shV; rw [if_pos hc]
    have e2 : elsV s qs = qs.map Q3.rat := by unfold elsV; rw [if_pos hc]
    have hof := fun (X : World) (hX : Below w.heap.size w X) => ofT_any (HT.out.later hX) (by omega) hq HL.out hn
    have HOF := Lib.hid hof
    rw [e1, e2]
    clear T hc e1 e2 hl hof
    go_enter Tryz.func17, Tryz.ntmps17
    (try rw [hW])
    go_wp2_with (go_at_call 28; refine hm.mono ?_; rintro e w1 ⟨rfl, hb1⟩; obtain ⟨k0, k1, _, _⟩ := (R0.later hb1).two)
    have hB1 : Below w.heap.size w w1 := hBW.trans (hb1.mono (by omega))
    refine (HOF.out w1 hB1).mono ?_
    rintro e w2 ⟨a', b', ca', cb', rfl, RS, RO, hb2⟩
    have P2 := (R1.later hb1).later hb2
    have s1 := hb1.size
    have s2 := hb2.size
    obtain ⟨u0, u1, g0, g1⟩ := P2.two
    have HRS := Lib.hid RS
    have HRO := Lib.hid RO
    clear RS RO
    obtain ⟨l, hl⟩ : ∃ l, qs.length = l := ⟨_, rfl⟩
    have HL2 := Lib.hid hl
    rw [hl]
    clear hl
    go_wp2_with fail
    have P3 := P2.set2 (.slice a' s.length ca') (.slice b' l cb')
    obtain ⟨z0, z1, _, _⟩ := P3.two
    refine bodyPost_ret (v := .agg #[.slice a' s.length ca', .slice b' l cb']) (by simp [results, Tryz.results17, go_sem, z0, z1]) rfl ⟨_, rfl, ?_, below_set2 (hB1.trans (hb2.mono (by omega))) (by omega) _ _⟩
    rw [← HL2.out]
    exact ⟨a', ca', b', cb', ofT_tens (by simp) (HRS.out.far P2 (by decide) (kept2 _ _)) ((HRO.out.far P2 (by decide) (kept2 _ _) (fun u y h => h.far P2 (by decide) (kept2 _ _))).mono (Nat.le_refl _) (fun v x h => h.more (by omega)))⟩
  · have hne : (c != 0) = true := by simp [h0]
    have e1 : shV s qs = [] := by unfold shV; rw [if_neg (by rw [hc]; exact h0)]
    have e2 : elsV s qs = [intQ 0] := by unfold elsV; rw [if_neg (by rw [hc]; exact h0)]
    rw [e1, e2]
    clear T hc e1 e2 hl h0
    go_enter Tryz.func17, Tryz.ntmps17
    (try rw [hW])
    go_wp2_with (go_at_call 28; refine hm.mono ?_; rintro e w1 ⟨rfl, hb1⟩)
    have hB1 : Below w.heap.size w w1 := hBW.trans (hb1.mono (by omega))
    refine (intRR_any 0 w1 (by omega) (by omega)).mono ?_
    rintro e w2 ⟨r, rfl, qv, hb2⟩
    have Q2 := Lib.hid qv
    obtain ⟨m5, f1, l1, j1, f2, l2, j2, rfl⟩ := qv.shape
    clear qv
    have s1 := hb1.size
    have s2 := hb2.size
    obtain ⟨V, hV⟩ : ∃ V, w2.alloc (.cells #[.bool m5, .slice f1 l1 j1, .slice f2 l2 j2] 75) = V := ⟨_, rfl⟩
    have RL : Row V w2.heap.size 75 #[.bool m5, .slice f1 l1 j1, .slice f2 l2 j2] := by rw [← hV]; exact Row.new _ _ _
    have b3 : Below w2.heap.size w2 V := by rw [← hV]; exact (Below.refl _ _).alloc (Nat.le_refl _) _
    have P2 := ((R1.later hb1).later hb2).later b3
    have QV := Q2.out.later b3
    obtain ⟨u0, u1, g0, g1⟩ := P2.two
    have hB3 : Below w.heap.size w V := (hB1.trans (hb2.mono (by omega))).trans (b3.mono (by omega))
    go_wp2_with fail
    (try rw [hV])
    have P3 := P2.set2 (.slice none 0 0) (.slice (some ⟨w2.heap.size, 0, none⟩) 1 1)
    obtain ⟨z0, z1, _, _⟩ := P3.two
    have RL3 : Row _ w2.heap.size 75 #[.bool m5, .slice f1 l1 j1, .slice f2 l2 j2] := (kept2 (.slice none 0 0) (.slice (some ⟨w2.heap.size, 0, none⟩) 1 1) w2.heap.size (show w2.heap.size ≠ w.heap.size + 1 by omega)).trans RL
    refine bodyPost_ret (v := .agg #[.slice none 0 0, .slice (some ⟨w2.heap.size, 0, none⟩) 1 1]) (by simp [results, Tryz.results17, go_sem, z0, z1]) rfl ⟨_, rfl, ?_, below_set2 hB3 (by omega) _ _⟩
    refine ⟨none, 0, some ⟨w2.heap.size, 0, none⟩, 1, rfl, nil_argS _, (fun _ => rfl), ⟨rfl, Nat.le_refl _, .inr ⟨w2.heap.size, 0, [⟨.bool m5, .slice f1 l1 j1, .slice f2 l2 j2⟩], rfl, fun i e he => ?_, rfl, fun i e x he hx => ?_⟩⟩, (fun h => by cases h)⟩
    · match i, he with
      | 0, he => simp at he; subst he; exact ⟨RL3.cell 0, RL3.cell 1, RL3.cell 2⟩
      | i + 1, he => simp at he
    · match i, he, hx with
      | 0, he, hx => simp at he hx; subst he; subst hx; exact ((QV.far P2 (by decide) (kept2 _ _)).more (by omega)).arg
      | i + 1, he, hx => simp at he
end
end Go.Proofs.YtooglnhlhgmhdaaGreat
