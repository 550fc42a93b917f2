/-
  Layer 9's law MoveBack: turned, and what comes back.
-/
import Derived.Test.YtooglnhlhgmhdaaGreatV1
import Derived.Test.YtooglnhlhgmhdaaGreatV2
import Derived.Test.YtooglnhlhgmhdaaGreatV3
import Derived.Test.YtooglnhlhgmhdaaGreatV4
import Derived.Test.YtooglnhlhgmhdaaGreatV5
import Derived.Test.YtooglnhlhgmhdaaGreatV7
import Derived.Test.YtooglnhlhgmhdaaGreatV9
import Derived.Test.YtooglnhlhgmhdaaGreatV13
import Derived.Test.YtooglnhlhgmhdaaGreatV14
import Derived.Test.YtooglnhlhgmhdaaGreatV16
import Derived.Test.YtooglnhlhgmhdaaGreatV17
import Derived.Test.YtooglnhlhgmhdaaGreatV18
import Derived.Test.YtooglnhlhgmhdaaGreatV20
import Derived.Test.YtooglnhlhgmhdaaGreatV21
import Derived.Test.YtooglnhlhgmhdaaGreatV22
import Derived.Test.YtooglnhlhgmhdaaGreatV23
import Derived.Test.YtooglnhlhgmhdaaGreatV25
import Derived.Test.YtooglnhlhgmhdaaGreatV26
import Derived.Test.YtooglnhlhgmhdaaGreatV29
import Derived.Test.YtooglnhlhgmhdaaGreatV30
import Derived.Test.YtooglnhlhgmhdaaGreatV31
import Derived.WalkKit
import Derived.Test.YtooglnhlhgmhdaaGreatRows
import Derived.BigQuiet
import Derived.Deep.QuietTactic
import Derived.Lib.Hide
import Derived.Lib.Small
import Derived.Lib.Walk
import Derived.Lib.BitFns
import Derived.Maps.AppendAt
import Derived.RangeFuncNested
import Derived.RangeFuncBound
import Derived.RangeFuncCalls
import Derived.RangeFuncLeaves
import Derived.Shelf.Abstract
import Derived.OwnWalkIn
import Derived.TacticsInMore
import Derived.LoopNIn
import Derived.LoopIn
import Derived.RangeFuncBox
import Derived.Deep.RegionHeld3
import Derived.OrdersIn
import Derived.StillTailTactics
import Derived.RangeFuncFrom
import Derived.Laws.EntriesVeiled
import Derived.ProofKit
import Derived.OpenShut
import Derived.JoinedCond
import Derived.Carry
import Derived.Laws.AppendOwnNone
import Derived.Lib.ItoaNum
import Derived.Deep.RegionLaw
import Derived.WalkMore
import Derived.Lib.SmallJoins
import Derived.IntWalk
import Derived.Deep.DeepCutAuto
import Derived.Laws.OwnMore
import Derived.OrdersHeld
import Derived.Deep.RegionHeld
import Derived.ArgAppend
import Derived.Deep.Slices
import Derived.Laws.CopyOwn
import Derived.Lib.SliceRun
namespace Go.Proofs.YtooglnhlhgmhdaaGreat
set_option maxRecDepth 100000
section
open Go.RowKit
set_option linter.unusedVariables false
set_option linter.unusedSimpArgs false
theorem dotT7_any {n B : Nat} {w : World} {u v : Value} {s1 s2 : List Int} {q1 q2 : List Q3} {a1 b1 a2 b2 : Option Addr} {ca1 cb1 ca2 cb2 : Nat} (T1 : TensQ w u s1 q1 a1 ca1 b1 cb1) (T2 : TensQ w v s2 q2 a2 ca2 b2 cb2) (hs1 : s1.length ≤ 1048576) (hs2 : s2.length ≤ 1048576) (hq1 : q1.length ≤ 1048576) (hq2 : q2.length ≤ 1048576) (hl1 : lensQ q1 n) (hl2 : lensQ q2 n) (hn : n ≤ 4000000)
    (hfit : dotC s1 s2 q1 q2 = 0 → ∀ k, k ≤ q1.length → FitQ (dotN (q1.map Q3.rat) (q2.map Q3.rat) k) B) (hB : B ≤ 100000000) :
    Calls Tryz.prog 37 #[u, v] w fun e w' => ∃ r, e = .returned (.tuple #[r, .int .i64 (dotC s1 s2 q1 q2)]) ∧ (dotC s1 s2 q1 q2 = 0 → ResQ w.heap.size w' r (dotN (q1.map Q3.rat) (q2.map Q3.rat) q1.length) (B / 32 + 1)) ∧ (dotC s1 s2 q1 q2 ≠ 0 → r = noRat) ∧ Below w.heap.size w w' := by
  by_cases h : dotC s1 s2 q1 q2 = 0
  · have hf := hfit h
    have h2 := h
    unfold dotC at h2
    by_cases m1 : mayT s1 q1 = 0
    · by_cases m2 : mayT s2 q2 = 0
      · by_cases hs : s1 = s2
        · rw [h]
          refine (dotGood_any T1 T2 hs1 hs2 hq1 hq2 hl1 hl2 hn m1 m2 hs hf hB).mono ?_
          rintro e w' ⟨r, rfl, hr, hb⟩
          exact ⟨r, rfl, fun _ => hr, fun h => absurd rfl h, hb⟩
        · rw [if_neg (by simp [m1]), if_neg (by simp [m2]), if_pos hs] at h2
          cases h2
      · rw [if_neg (by simp [m1]), if_pos m2] at h2
        exact absurd h2 m2
    · rw [if_pos m1] at h2
      exact absurd h2 m1
  · refine (dotBad_any (B0 := B) T1 T2 hs1 hs2 hq1 hq2 hl1 hl2 hn h).mono ?_
    rintro e w' ⟨r, rfl, hr, hb⟩
    exact ⟨r, rfl, fun h2 => absurd h2 h, fun _ => hr, hb⟩
end
section
open Go.RowKit
set_option linter.unusedVariables false
set_option linter.unusedSimpArgs false
set_option maxRecDepth 100000 in
set_option maxHeartbeats 4000000 in
theorem whole9_any {w : World} {u v : Value} {s xs : List Int} {a b : Option Addr} {ca cb : Nat} (A : ArgS w u s a ca) (na : a = none → ca = 0) (B : ArgS w v xs b cb) (hs : s.length ≤ 1000) (hq : xs.length ≤ 1000) :
    Calls Tryz.prog 51 #[u, v] w fun e w' => ∃ r, e = .returned r ∧ ResT w.heap.size w' r s (xs.map intQ) 6 ∧ Below w.heap.size w w' := by
  obtain ⟨i0, hi, hz0, hz1, hz2⟩ := info_parts infoR
  have HA := Lib.hid A
  have NA := Lib.hid na
  have HB := Lib.hid B
  obtain rfl := A.is
  obtain rfl := B.is
  clear A na B
  go_enter Tryz.func51, Tryz.ntmps51
  go_wp2
  have R1 : Row ((w.alloc (.cells #[.slice none 0 0, .slice none 0 0] 26)).alloc (.cells #[.slice a s.length ca, .slice none 0 0] 34)) w.heap.size 26 #[.slice none 0 0, .slice none 0 0] := (Row.new _ _ _).alloc _
  have R2 : Row ((w.alloc (.cells #[.slice none 0 0, .slice none 0 0] 26)).alloc (.cells #[.slice a s.length ca, .slice none 0 0] 34)) (w.heap.size + 1) 34 #[.slice a s.length ca, .slice none 0 0] := by have h := (Row.new (w.alloc (.cells #[.slice none 0 0, .slice none 0 0] 26)) 34 #[.slice a s.length ca, .slice none 0 0]); simp only [World.size_alloc] at h; exact h
  have hBW : Below w.heap.size w ((w.alloc (.cells #[.slice none 0 0, .slice none 0 0] 26)).alloc (.cells #[.slice a s.length ca, .slice none 0 0] 34)) := ((Below.refl _ _).alloc (by simp) _).alloc (by simp) _
  have H1 := Lib.hid R1
  have H2 := Lib.hid R2
  have HBW := Lib.hid hBW
  clear R1 R2 hBW
  go_loopw [6] (fun i wr => ∃ (k : Nat) (v : Value), i = .int .i64 (k : Int) ∧ k ≤ xs.length ∧ Row wr w.heap.size 26 #[.slice none 0 0, .slice none 0 0] ∧
    Row wr (w.heap.size + 1) 34 #[.slice a s.length ca, v] ∧ RowO w.heap.size 75 (fun W v x => ResR w.heap.size W v x 6) wr v ((xs.take k).map intQ) ∧ Below w.heap.size w wr) (fun i _ => xs.length - (intOf i).toNat)
  case atStart => exact ⟨0, _, rfl, Nat.zero_le _, H1.out, H2.out, RowO.nil _ _ _ _, HBW.out⟩
  case round =>
    obtain ⟨k, v, rfl, hk, r1, r2, ⟨es, hown, hall⟩, hb⟩ := hrel
    have hsz := hb.size
    have hlt2 := r2.lt
    have c21 := r2.cell 1
    have hle : es.length = k := by rw [hall.1]; simp [hk]
    by_cases hlt : k < xs.length
    · obtain ⟨bb, o, hbo, hc⟩ := (HB.out.later hb).at hlt
      have hc0 := (HB.out.at hlt)
      have hqk := getD_some hlt
      have hwx := HB.out.wf.getD k
      obtain ⟨x, hxe⟩ : ∃ x, xs.getD k 0 = x := ⟨_, rfl⟩
      rw [hxe] at hc hqk hwx hc0
      have hb0 : bb < w.heap.size := by
        obtain ⟨b', o', e', h'⟩ := hc0
        rw [hbo] at e'
        cases e'
        exact World.block_lt_of_cell? w _ h'
      obtain ⟨hx0, hx1⟩ := hwx
      subst hbo
      obtain ⟨r, hrv, hrb, hrne⟩ := hown.hits hsz
      have n2 := hrne _ _ _ r2 (by decide)
      have n1 := hrne _ _ _ r1 (by decide)
      have mkS : ∀ X, Kept r wr X → X.cell? ⟨w.heap.size + 1, 1, none⟩ = some v ∧ X.cell? ⟨bb, o + k, none⟩ = some (.int .i64 x) ∧ Kept r wr X := fun X h => ⟨h.cell c21 n2, h.cell hc (by show bb ≠ r; omega), h⟩
      have hltI : (k : Int) < (xs.length : Int) := by omega
      have hS0 := mkS wr.drew ((Kept.refl r wr).drew)
      have HQK := Lib.hid hqk
      clear hc0 hxe hqk
      go_wp2_with fail
      refine wp_region_L (S := (fun X => X.cell? ⟨w.heap.size + 1, 1, none⟩ = some v ∧ X.cell? ⟨bb, o + k, none⟩ = some (.int .i64 x) ∧ Kept r wr X)) (z := 10) (by kernel_rfl) hS0 (fun hHeld => ?_)
      refine todo [0, 1, 2, 3, 4, 5] ?_
      iterate 6
       refine todoL (v := ?_) rfl (by kernel_rfl) (fun _ _ _ h => h) (by assumption) (Or.inl ⟨by rfl, ?_⟩) ?_
       rotate_left
       · intro w hSw; (try dsimp only at hSw); go_simp; (try with_reducible rfl)
       try simp only [Act.put, List.getElem_toArray, List.getElem_cons_succ, List.getElem_cons_zero, List.setIfInBounds_toArray, List.set_cons_zero, List.set_cons_succ]
      refine todone ?_
      refine wpAnyL_one (i := 6) (by kernel_rfl) rfl (fun K hK => ?sb6)
      go_simp
      refine (intRR_any x _ hx0 hx1).mono ?_
      rintro e w5 ⟨rv, rfl, qv, hb5⟩
      have Q5 := Lib.hid qv
      obtain ⟨m5, f1, l1, j1, f2, l2, j2, rfl⟩ := qv.shape
      clear qv
      go_simp
      have hB5 : Below w.heap.size w w5 := (hb.drew).trans (hb5.mono hsz)
      have hk5 : Kept r wr w5 := ((Kept.refl r wr).drew).below hb5
      refine hK.out _ _ (fun _ => mkS _ hk5) (fun hHeld2 => ?mb6)
      clear hK K hHeld
      have hHeld := hHeld2 (by decide)
      clear hHeld2
      try simp only [Act.put, List.setIfInBounds_toArray, List.set_cons_zero, List.set_cons_succ]
      refine wpAnyL_one (i := 7) (by kernel_rfl) rfl (fun K hK => ?sb7)
      go_simp
      refine hK.out _ _ (fun _ => mkS _ (hk5.alloc _)) (fun hHeld2 => ?mb7)
      clear hK K hHeld
      have hHeld := hHeld2 (by decide)
      clear hHeld2
      try simp only [Act.put, List.setIfInBounds_toArray, List.set_cons_zero, List.set_cons_succ]
      refine wpAnyL_one (i := 8) (by kernel_rfl) rfl (fun K hK => ?sb8)
      have hb5w : Below wr.heap.size wr w5 := (Below.refl _ wr).drew.trans hb5
      have hown5 : OwnE w.heap.size 75 w5 v es := hown.later hb5w
      have hall5 : AllE (fun v x => ResR w.heap.size w5 v x 6) es ((xs.take k).map intQ) := hall.imp fun u x _ h => h.later hb5w
      have hsz5 := hB5.size
      refine step_append_ownT rfl _ _ 32 rfl w.heap.size 75 i0 _ 3 56 Tryz.underlying32 hi hz0 hz1 hz2 rfl (by decide) _ es.length (flat3 es) rfl (hown5.later ((Below.refl _ _).alloc (Nat.le_refl _) _)) ⟨w5.heap.size, 0, none⟩ 1 1 [.bool m5, .slice f1 l1 j1, .slice f2 l2 j2] rfl rfl (cell_three_new _ _ _ _ _) (by simp [Value.oneCell']) (by unfold maxLen; omega) (by omega) (by simp; omega) ?_
      intro v' w6 hown' hgrow _
      obtain ⟨av, cv, rfl⟩ := ownT_slice hown'
      have hk6 : Kept r wr w6 := (hk5.alloc _).grown hgrow hrv
      refine hK.out _ _ (fun _ => mkS _ hk6) (fun hHeld2 => ?mb8)
      clear hK K hHeld
      have hHeld := hHeld2 (by decide)
      clear hHeld2
      try simp only [Act.put, List.setIfInBounds_toArray, List.set_cons_zero, List.set_cons_succ]
      refine wpAnyL_take (i := 9) (v := ?va9) rfl (by kernel_rfl) (by kernel_rfl) (by kernel_rfl) (by kernel_rfl) (fun _ _ _ h => h) (Or.inl ⟨by rfl, ?ha9⟩) (by assumption) ?ra9
      case ha9 =>
        intro w hSw
        try dsimp only at hSw
        go_simp
        try with_reducible rfl
      try simp only [Act.put, List.setIfInBounds_toArray, List.set_cons_zero, List.set_cons_succ]
      have R26 := r2.kept hk6 n2
      have f21 := R26.free 1
      have d21 := R26.cell 1
      refine wpAnyL_one (i := 10) (by kernel_rfl) rfl (fun K hK => ?sb10)
      go_simp
      refine hK.out _ _ (fun h => absurd rfl h) (fun _ => ?mb10)
      clear hK K
      try simp only [Act.put, List.setIfInBounds_toArray, List.set_cons_zero, List.set_cons_succ]
      refine wpAnyL_done (by kernel_rfl) ?_ _
      go_wp2
      go_roundw
      case rel =>
        have hx5 : ResR w.heap.size w5 (E3.agg ⟨.bool m5, .slice f1 l1 j1, .slice f2 l2 j2⟩) (intQ x) 6 := Q5.out.mono (by show w.heap.size ≤ wr.heap.size; exact hsz)
        obtain ⟨hrow6, hb6⟩ := pushE (P := fun W v x => ResR w.heap.size W v x 6) (e := ⟨.bool m5, .slice f1 l1 j1, .slice f2 l2 j2⟩) hB5 hsz5 hown5 hall5 hx5 (fun u y h => ResR.apart hown5 hgrow (by decide) h) hown' hgrow
        rw [hle] at hrow6
        have r16 := r1.kept hk6 n1
        refine ⟨k + 1, _, by go_num, by omega, r16.far (by show w.heap.size ≠ w.heap.size + 1; omega) _, R26.set21 _, ?_, hb6.setCell (by show w.heap.size ≤ w.heap.size + 1; omega) _⟩
        rw [take_nextL HQK.out, List.map_append]
        exact hrow6.far R26 (by decide) (kept1 _) (fun u y h => h.far R26 (by decide) (kept1 _))
      case measure => simp [intOf]; omega
    · obtain rfl : k = xs.length := by omega
      have hltI : ¬ (xs.length : Int) < (xs.length : Int) := by omega
      rw [List.take_length] at hall
      obtain ⟨av, cv, rfl⟩ := ownT_slice hown
      rw [hle] at r2 hown
      have fE : RowO w.heap.size 75 (fun W v x => ResR w.heap.size W v x 6) wr (.slice av xs.length cv) (xs.map intQ) := ⟨es, hown, hall⟩
      have fT := fE.at_
      have TT : TensR wr (.agg #[.slice a s.length ca, .slice av xs.length cv]) s (xs.map intQ) 6 a ca av cv := ⟨by rw [List.length_map], HA.out.later hb, NA.out, by rw [List.length_map]; exact fT.2.1.imp (fun v x _ h => h.arg), fT.2.2⟩
      have hback := backT_any TT (by omega) (by rw [List.length_map]; omega) (by omega)
      have c20 := r2.cell 0
      have d21 := r2.cell 1
      have HR1 := Lib.hid r1
      clear hown hall hle fE fT TT c21
      go_wp2_with (go_at_call 91; refine hback.mono ?_; rintro e w7 ⟨fa, fb, fca, fcb, rfl, fS, fO, hb7⟩; simp only [List.length_map] at fO; have R17 := HR1.out.later hb7; obtain ⟨c10, c11, g10, g11⟩ := R17.two; have R1s := R17.set2 (.slice fa s.length fca) (.slice fb xs.length fcb); obtain ⟨zz0, zz1, _, _⟩ := R1s.two; have HFS := Lib.hid fS; have HFO := Lib.hid fO; have HR17 := Lib.hid R17; clear fS fO R1s R17)
      have hB7 : Below w.heap.size w w7 := hb.trans (hb7.mono hsz)
      have hT7 : ResT w.heap.size w7 (.agg #[.slice fa s.length fca, .slice fb xs.length fcb]) s (xs.map intQ) 6 := ⟨fa, fb, fca, fcb, by rw [List.length_map], HFS.out.mono hsz, by rw [List.length_map]; exact HFO.out.mono hsz (fun v x h => h.mono hsz)⟩
      refine bodyPost_ret (v := .agg #[.slice fa s.length fca, .slice fb xs.length fcb]) (by simp [results, Tryz.results51, go_sem, zz0, zz1]) rfl ⟨_, rfl, ?_, ?_⟩
      · exact hT7.far HR17.out (by decide) (by decide) (by decide) (kept2 _ _)
      · exact below_set2 hB7 (Nat.le_refl _) _ _
/-- the ending of an operation that must succeed -/
def Good9 (base : Nat) (w' : World) (e : Ending) (s : List Int) (L : List Rat) (N : Nat) : Prop :=
  ∃ (a b : Option Addr) (ca cb : Nat), e = .returned (.tuple #[.agg #[.slice a s.length ca, .slice b L.length cb], .int .i64 0]) ∧ ResT base w' (.agg #[.slice a s.length ca, .slice b L.length cb]) s L N
theorem One.good9 {base N : Nat} {w : World} {e : Ending} {c : Int} {s : List Int} {L L' : List Rat} (h : One base w e c s L N) (h0 : c = 0) (hL : L = L') : Good9 base w e s L' N := by
  subst hL
  subst h0
  rcases h with ⟨_, r, rfl, hT⟩ | ⟨h, _⟩
  · obtain ⟨a, b, ca, cb, rfl, _⟩ := id hT
    exact ⟨a, b, ca, cb, rfl, hT⟩
  · exact absurd rfl h
theorem orL2 {x y : Int} (h : x = 0) : orL [x, y] = y := by
  subst h
  simp [orL]
  exact fun h => h.symm
/-- a tensor that may be: its shape, and how many elements it has -/
structure Ok9 (s : List Int) (k : Nat) : Prop where
  ok : OkS s
  len : (k : Int) = prodS s
theorem Ok9.may {s : List Int} {k : Nat} {qs : List Q3} (h : Ok9 s k) (hk : qs.length = k) (hok : ∀ q ∈ qs, okQ q = true) : mayT s qs = 0 := mayT_ok (mayC_ok h.ok) (by rw [hk, h.ok.count]; exact h.len) hok
theorem Ok9.le {s : List Int} {k : Nat} (h : Ok9 s k) : s.length ≤ 4 ∧ k ≤ 1024 := ⟨h.ok.rank, by have := h.len; have := h.ok.few; omega⟩
def trV (s p : List Int) (L : List Rat) : List Rat := fillV (trS s p) fun xs => elV s L (trI p xs)
def slV (s t : List Int) (L : List Rat) : List Rat := fillV (slS s t) fun xs => elV s L ((List.range s.length).map fun i : Nat => IntKind.i64.wrap (xs.getD i 0 + fstP t i))
def pdV (s t : List Int) (L : List Rat) : List Rat := fillV (pdW s t) fun xs => elV s L ((List.range s.length).map fun i : Nat => IntKind.i64.wrap (xs.getD i 0 - fstP t i))
theorem transK {b1 n : Nat} {w : World} {u : Value} {s t : List Int} {L : List Rat} {ad : Option Addr} {cd : Nat} (h1 : ResT b1 w u s L n) (D : ArgS w (.slice ad t.length cd) t ad cd) (nd : ad = none → cd = 0) (ht : t.length ≤ 8000000) (hs : Ok9 s L.length) (hn : n ≤ 2000000) (hp : permC t s.length = 0) :
    Calls Tryz.prog 13 #[u, .slice ad t.length cd] w fun e w' => Good9 w.heap.size w' e (trS s t) (trV s t L) (n + 2) ∧ Below w.heap.size w w' := by
  obtain ⟨q1, a1, c1, ca1, cc1, T1, e1, l1, k1⟩ := h1.tens
  have g1 : q1.length = L.length := by rw [← e1]; simp
  have m1 := hs.may g1 k1
  have hle := hs.le
  exact (transpose_any T1 D nd (by omega) ht (by omega) l1 (by omega)).mono fun e w' ⟨h, hb⟩ => ⟨h.good9 ((orL2 m1).trans hp) (by rw [e1]; rfl), hb⟩
theorem sliceK {b1 n : Nat} {w : World} {u : Value} {s t : List Int} {L : List Rat} {ad : Option Addr} {cd : Nat} (h1 : ResT b1 w u s L n) (D : ArgS w (.slice ad t.length cd) t ad cd) (nd : ad = none → cd = 0) (ht : t.length ≤ 8000000) (hs : Ok9 s L.length) (hn : n ≤ 2000000) (hp : slC s t = 0) :
    Calls Tryz.prog 24 #[u, .slice ad t.length cd] w fun e w' => Good9 w.heap.size w' e (slS s t) (slV s t L) (n + 2) ∧ Below w.heap.size w w' := by
  obtain ⟨q1, a1, c1, ca1, cc1, T1, e1, l1, k1⟩ := h1.tens
  have g1 : q1.length = L.length := by rw [← e1]; simp
  have m1 := hs.may g1 k1
  have hle := hs.le
  exact (slice_any T1 D nd (by omega) ht (by omega) l1 (by omega)).mono fun e w' ⟨h, hb⟩ => ⟨h.good9 ((orL2 m1).trans hp) (by rw [e1]; rfl), hb⟩
theorem padK {b1 n : Nat} {w : World} {u : Value} {s t : List Int} {L : List Rat} {ad : Option Addr} {cd : Nat} (h1 : ResT b1 w u s L n) (D : ArgS w (.slice ad t.length cd) t ad cd) (nd : ad = none → cd = 0) (ht : t.length ≤ 8000000) (hs : Ok9 s L.length) (hn : n ≤ 2000000) (hp : pdCW s t = 0) :
    Calls Tryz.prog 26 #[u, .slice ad t.length cd] w fun e w' => Good9 w.heap.size w' e (pdW s t) (pdV s t L) (n + 2) ∧ Below w.heap.size w w' := by
  obtain ⟨q1, a1, c1, ca1, cc1, T1, e1, l1, k1⟩ := h1.tens
  have g1 : q1.length = L.length := by rw [← e1]; simp
  have m1 := hs.may g1 k1
  have hle := hs.le
  exact (pad_any T1 D nd (by omega) ht (by omega) l1 (by omega)).mono fun e w' ⟨h, hb⟩ => ⟨h.good9 ((orL2 m1).trans hp) (by rw [e1]; rfl), hb⟩
end
section
open Go.RowKit
set_option linter.unusedVariables false
set_option linter.unusedSimpArgs false
theorem invL_trI {p : List Int} (hp : IsPerm p) : trI p (upS p.length) = invL p := by
  refine list_eq_getD (by rw [trI_len, invL_length]) fun i hi => ?_
  rw [trI_len] at hi
  obtain ⟨k1, _⟩ := hp.idx hi
  rw [trI_at _ _ hi, invL_at p hi]
  unfold upS
  exact getD_map_range _ k1
set_option maxRecDepth 100000 in
set_option maxHeartbeats 4000000 in
theorem turned9_any {w : World} {u : Value} {p : List Int} {a : Option Addr} {ca : Nat} (A : ArgS w u p a ca) (hp : IsPerm p) (hl : p.length ≤ 1000) :
    Calls Tryz.prog 33 #[u] w fun e w' => ∃ r, e = .returned r ∧ ResS w.heap.size w' r (invL p) ∧ Below w.heap.size w w' := by
  have HA := Lib.hid A
  have HPP := Lib.hid hp
  obtain rfl := A.is
  obtain ⟨L, hL⟩ : ∃ L, p.length = L := ⟨_, rfl⟩
  have HL := Lib.hid hL
  rw [hL] at hl ⊢
  have hmk := make_runS L (by omega)
  have hF0 := FillP.nil p (upS L)
  rw [hL] at hF0
  have HF0 := Lib.hid hF0
  have HR := Lib.hid (invL_trI hp)
  clear A hp hL hF0
  go_enter Tryz.func33, Tryz.ntmps33
  go_wp2_with fail
  obtain ⟨V, hV⟩ : ∃ V, w.alloc (.cells (madeCells #[.int .i64 0] L) 3) = V := ⟨_, rfl⟩
  have rP : PartS V w.heap.size L (List.replicate L 0) := by rw [← hV]; exact ⟨_, BlkS.made w L, by simp, by simp, by simp⟩
  have hBV : Below w.heap.size w V := by rw [← hV]; exact (Below.refl _ _).alloc (Nat.le_refl _) _
  (try rw [hV])
  have H0 := Lib.hid rP
  have HB := Lib.hid hBV
  clear rP hBV hmk hV
  go_loopw [4] (fun i wr => ∃ (k : Nat) (zs : List Int), i = .int .i64 (k : Int) ∧ k ≤ L ∧ PartS wr w.heap.size L zs ∧ FillP p (upS L) zs k ∧ Below w.heap.size w wr) (fun i _ => L - (intOf i).toNat)
  case atStart => exact ⟨0, _, rfl, Nat.zero_le _, H0.out, HF0.out, HB.out⟩
  case round =>
    obtain ⟨k, zs, rfl, hk, hP, hF, hb⟩ := hrel
    have HP1 := Lib.hid hP
    have HF := Lib.hid hF
    by_cases hlt : k < L
    · obtain ⟨b1, o1, rfl, c1⟩ := (HA.out.later hb).at (i := k) (by rw [HL.out]; exact hlt)
      have hlow := HPP.out.low (i := k) (by rw [HL.out]; exact hlt)
      rw [HL.out] at hlow
      obtain ⟨j, hj⟩ : ∃ j : Nat, p.getD k 0 = (j : Int) := ⟨(p.getD k 0).toNat, by omega⟩
      have HJ := Lib.hid hj
      have hjl : j < L := by omega
      rw [hj] at c1
      have hf := hP.free j
      have hcj := hP.cell j (by rw [hF.1, HL.out]; exact hjl)
      have hltI : (k : Int) < (L : Int) := by omega
      have hjI : (j : Int) < (L : Int) := by omega
      have hj0 : (j : Int) ≥ 0 := by omega
      clear hP hF hlow hj
      go_wp2
      go_roundw
      case rel =>
        have hn := HF.out.next HPP.out (by rw [HL.out]; exact hlt)
        have hup : (upS L).getD k 0 = (k : Int) := by unfold upS; exact getD_map_range _ hlt
        rw [HJ.out, hup, show ((j : Int)).toNat = j by omega] at hn
        refine ⟨k + 1, _, by go_num, by omega, HP1.out.set j (by rw [HF.out.1, HL.out]; exact hjl) _, hn, hb.setCell (by show w.heap.size ≤ w.heap.size; exact Nat.le_refl _) _⟩
      case measure => simp [intOf]; omega
    · obtain rfl : k = L := by omega
      have hltI : ¬ (k : Int) < (k : Int) := by omega
      have hzs : zs = invL p := by
        have h := HF.out
        rw [← HL.out] at h
        rw [h.full HPP.out]
        exact HR.out
      have hwid : Wid zs := by
        rw [hzs]
        intro x hx
        have := (HPP.out.inv.mem x).1 hx
        rw [invL_length, HL.out] at this
        omega
      have hlen : zs.length = k := by rw [HF.out.1, HL.out]
      have hR := (show ResS w.heap.size wr (.slice (some ⟨w.heap.size, 0, none⟩) zs.length k) zs from ⟨HP1.out.num (Nat.le_refl _) (by unfold maxLen; omega), hwid⟩)
      rw [hlen, hzs] at hR
      have HRR := Lib.hid hR
      clear hP hF hzs hwid hR
      go_wp2
      go_ret
      exact ⟨_, rfl, HRR.out, hb⟩
/-- padding, and slicing where the tensor stands -/
theorem pdW_eq {s t : List Int} (ok : OkS s) (h : pdC s t = 0 ∨ ∀ i, i < s.length → 0 ≤ fstP t i ∧ 0 ≤ sndP t i) : pdW s t = pdS s t := by
  unfold pdW pdS
  refine List.map_congr_left fun i hi => ?_
  have hi' := List.mem_range.1 hi
  have hg : 0 ≤ fstP t i ∧ 0 ≤ sndP t i := h.elim (fun h => (pdC_is h).2.2 i hi') (fun h => h i hi')
  have h1 := ok.pos.getD hi'
  have h2 := getD_le_prod ok.pos hi'
  have h3 := ok.few
  unfold padF
  rw [wrap_i64 (x := min (fstP t i) 1024 + min (sndP t i) 1024) (by omega) (by omega), wrap_i64 (by omega) (by omega)]
theorem pdCW_eq {s t : List Int} (ok : OkS s) : pdCW s t = pdC s t := by
  unfold pdCW pdC
  split
  · rfl
  · split
    · rfl
    · rename_i h
      rw [pdW_eq ok (.inr fun i hi => by
        have : ¬ badPad t i := fun hb => h ⟨i, hi, hb⟩
        unfold badPad at this
        omega)]
theorem in_slC {s t : List Int} (ok : OkS s) (h : pdC s t = 0) : slC (pdS s t) (inL s t) = 0 := by
  obtain ⟨h1, h2, h3⟩ := pdC_is h
  refine slC_ok (by rw [inL_len, pdS_len]) (fun i hi => ?_) (fun i hi => ?_)
  · rw [pdS_len] at hi
    unfold badCut
    rw [inL_fst hi, inL_snd hi]
    have := h3 i hi
    have := ok.pos.getD hi
    omega
  · rw [pdS_len] at hi
    rw [inL_snd hi]
    have := (pd_small h ok hi).1
    have := h3 i hi
    omega
theorem in_slS {s t : List Int} : slS (pdS s t) (inL s t) = s := by
  refine list_eq_getD (by rw [slS_len, pdS_len]) fun i hi => ?_
  rw [slS_len, pdS_len] at hi
  rw [slS_at _ _ (by rw [pdS_len]; exact hi), inL_fst hi, inL_snd hi]
  omega
end
end Go.Proofs.YtooglnhlhgmhdaaGreat
