/-
  Part 8 of 21: contracts and what they rest on (OCode5, OCode6, OCode8).
-/
import Derived.Test.YtdcggcfgkhlblaaL1
import Derived.Test.YtdcggcfgkhlblaaL2
import Derived.Test.YtdcggcfgkhlblaaL3
import Derived.Test.YtdcggcfgkhlblaaL6
import Derived.WalkKit
import Derived.Test.YtdcggcfgkhlblaaRows
import Derived.OrdersHeld
import Derived.Deep.RegionHeld
import Derived.BigQuiet
import Derived.Deep.QuietTactic
import Derived.Lib.Hide
import Derived.Lib.Small
import Derived.Lib.Walk
import Derived.Lib.BitFns
import Derived.Maps.AppendAt
import Derived.RangeFuncNested
import Derived.RangeFuncBound
import Derived.RangeFuncCalls
import Derived.RangeFuncLeaves
import Derived.Shelf.Abstract
import Derived.OwnWalkIn
import Derived.TacticsInMore
import Derived.LoopNIn
import Derived.LoopIn
import Derived.RangeFuncBox
import Derived.Deep.RegionHeld3
import Derived.OrdersIn
import Derived.StillTailTactics
import Derived.RangeFuncFrom
import Derived.Laws.EntriesVeiled
import Derived.ProofKit
import Derived.OpenShut
import Derived.JoinedCond
import Derived.Carry
import Derived.Laws.AppendOwnNone
import Derived.Lib.ItoaNum
import Derived.Deep.RegionLaw
import Derived.WalkMore
import Derived.Lib.SmallJoins
import Derived.IntWalk
import Derived.Deep.DeepCutAuto
import Derived.Laws.OwnMore
import Derived.ArgAppend
import Derived.Deep.Slices
import Derived.Laws.CopyOwn
import Derived.Lib.SliceRun
import Derived.SizedLaws
import Derived.Great.BuildSlice
namespace Go.Proofs.Ytdcggcfgkhlblaa
set_option maxRecDepth 100000
section
open Go.RowKit
set_option linter.unusedVariables false
set_option linter.unusedSimpArgs false
/-- what lies from block B on is kept -/
structure From (B : Nat) (a w : World) : Prop where
  size : a.heap.size ≤ w.heap.size
  block : ∀ k, B ≤ k → k < a.heap.size → w.heap[k]? = a.heap[k]?
theorem From.of {B : Nat} {a w : World} (h : Below a.heap.size a w) : From B a w := ⟨h.size, fun k _ hk => h.block k hk⟩
theorem From.trans {B : Nat} {a b c : World} (h : From B a b) (k : From B b c) : From B a c := ⟨Nat.le_trans h.size k.size, fun i h1 h2 => (k.block i h1 (Nat.lt_of_lt_of_le h2 h.size)).trans (h.block i h1 h2)⟩
theorem From.mono {B B' : Nat} {a b : World} (h : From B a b) (hb : B ≤ B') : From B' a b := ⟨h.size, fun i h1 h2 => h.block i (Nat.le_trans hb h1) h2⟩
theorem From.setRow {B g : Nat} {a b : World} {cs : Array Value} (h : From B a b) (hg : g < B) : From B a (b.setRow g cs) := ⟨by rw [setRow_size]; exact h.size, fun k h1 h2 => (setRow_other _ _ _ _ (by omega)).trans (h.block k h1 h2)⟩
theorem Row.from {B g : Nat} {a w : World} {t : TypeId} {cs : Array Value} (R : Row a g t cs) (h : From B a w) (hg : B ≤ g) : Row w g t cs := (h.block g hg R.lt).trans R
/-- a function value that answers whether attributes fit: what it reads lies from block B on -/
def FitV (B : Nat) (w : World) (v : Value) (P : List Int → Bool) : Prop := ∃ (F : Nat) (cap : Array Value), v = .func (.func F) #[] cap ∧ (∀ args w, (callFunc F args).run Try.prog w = .ok (.enter F args) w) ∧
  ∀ (W : World) (u : Value) (xs : List Int) (a : Option Addr) (ca : Nat), From B w W → ArgS W u xs a ca → (a = none → ca = 0) → xs.length ≤ 17592186044416 → (∀ x ∈ xs, -2147483647 ≤ x ∧ x ≤ 2147483647) →
    Calls Try.prog F (#[u] ++ cap) W fun e w' => e = .returned (.bool (P xs)) ∧ Below W.heap.size W w'
theorem FitV.later {B : Nat} {w w' : World} {v : Value} {P : List Int → Bool} (h : FitV B w v P) (hb : From B w w') : FitV B w' v P := by
  obtain ⟨F, cap, rfl, he, hc⟩ := h
  exact ⟨F, cap, rfl, he, fun W u xs a ca hW => hc W u xs a ca (hb.trans hW)⟩
theorem FitV.mono {B B' : Nat} {w : World} {v : Value} {P : List Int → Bool} (h : FitV B w v P) (hb : B' ≤ B) : FitV B' w v P := by
  obtain ⟨F, cap, rfl, he, hc⟩ := h
  exact ⟨F, cap, rfl, he, fun W u xs a ca hW => hc W u xs a ca (hW.mono hb)⟩
/-- a function value that answers what none means -/
def MeanV (B : Nat) (w : World) (v : Value) (M : Int → List Int) : Prop := ∃ (F : Nat) (cap : Array Value), v = .func (.func F) #[] cap ∧ (∀ args w, (callFunc F args).run Try.prog w = .ok (.enter F args) w) ∧
  ∀ (W : World) (r : Int), From B w W → 0 ≤ r → r ≤ 4 → Calls Try.prog F (#[.int .i64 r] ++ cap) W fun e w' => ∃ v, e = .returned v ∧ ResS W.heap.size w' v (M r) ∧ Below W.heap.size W w'
theorem MeanV.later {B : Nat} {w w' : World} {v : Value} {M : Int → List Int} (h : MeanV B w v M) (hb : From B w w') : MeanV B w' v M := by
  obtain ⟨F, cap, rfl, he, hc⟩ := h
  exact ⟨F, cap, rfl, he, fun W r hW => hc W r (hb.trans hW)⟩
theorem MeanV.mono {B B' : Nat} {w : World} {v : Value} {M : Int → List Int} (h : MeanV B w v M) (hb : B' ≤ B) : MeanV B' w v M := by
  obtain ⟨F, cap, rfl, he, hc⟩ := h
  exact ⟨F, cap, rfl, he, fun W r hW => hc W r (hW.mono hb)⟩
theorem isNone_fit (B : Nat) (w : World) : FitV B w (.func (.func 80) #[] #[]) (noB) := ⟨_, #[], rfl, (fun args w => enters_of Try.func80 (by kernel_rfl) rfl args w), fun W u xs a ca hW A na hx hb => isNone_any A hx⟩
theorem isFraction_fit (B : Nat) (w : World) : FitV B w (.func (.func 83) #[] #[]) (fracB) := ⟨_, #[], rfl, (fun args w => enters_of Try.func83 (by kernel_rfl) rfl args w), fun W u xs a ca hW A na hx hb => isFraction_any A hx hb⟩
theorem isPerm_fit (B : Nat) (w : World) : FitV B w (.func (.func 84) #[] #[]) (perB) := ⟨_, #[], rfl, (fun args w => enters_of Try.func84 (by kernel_rfl) rfl args w), fun W u xs a ca hW A na hx hb => isPerm_any A na hx⟩
theorem isShape_fit (B : Nat) (w : World) : FitV B w (.func (.func 86) #[] #[]) (shB) := ⟨_, #[], rfl, (fun args w => enters_of Try.func86 (by kernel_rfl) rfl args w), fun W u xs a ca hW A na hx hb => isShape_any A hx⟩
theorem areAxes_fit (B : Nat) (w : World) : FitV B w (.func (.func 87) #[] #[]) (fun xs => axesB xs 4) := ⟨_, #[], rfl, (fun args w => enters_of Try.func87 (by kernel_rfl) rfl args w), fun W u xs a ca hW A na hx hb => areAxes_any A na hx⟩
theorem forward_mean (B : Nat) (w : World) : MeanV B w (.func (.func 88) #[] #[]) fwdI := ⟨_, #[], rfl, (fun args w => enters_of Try.func88 (by kernel_rfl) rfl args w), fun W r hW h0 h4 => by
  obtain ⟨n, rfl⟩ : ∃ n : Nat, r = (n : Int) := ⟨r.toNat, by omega⟩
  exact forward_any (by omega) W⟩
theorem backward_mean (B : Nat) (w : World) : MeanV B w (.func (.func 85) #[] #[]) bwdI := ⟨_, #[], rfl, (fun args w => enters_of Try.func85 (by kernel_rfl) rfl args w), fun W r hW h0 h4 => by
  obtain ⟨n, rfl⟩ : ∃ n : Nat, r = (n : Int) := ⟨r.toNat, by omega⟩
  exact backward_any (by omega) W⟩
theorem oneUpTo_fit (m : Int) {B : Nat} (w : World) (hB : B ≤ w.heap.size) : Calls Try.prog 81 #[.int .i64 m] w fun e w' => ∃ v, e = .returned v ∧ FitV B w' v (oneB m) ∧ Below w.heap.size w w' := by
  refine (oneUpTo_any m w).mono ?_
  rintro e w' ⟨rfl, rfl⟩
  refine ⟨_, rfl, ⟨_, #[.pointer (some ⟨w.heap.size, 0, none⟩)], rfl, (fun args w => enters_of Try.func92 (by kernel_rfl) rfl args w), fun W u xs a ca hW A na hx hb => ?_⟩, (Below.refl _ _).alloc (Nat.le_refl _) _⟩
  exact oneUpTo1_any A hx ((Row.new w 62 #[.int .i64 0, .int .i64 m]).from hW hB)
theorem always_mean {m : Int} (h0 : -9223372036854775808 ≤ m) (h1 : m ≤ 9223372036854775807) {B : Nat} (w : World) (hB : B ≤ w.heap.size) : Calls Try.prog 82 #[.int .i64 m] w fun e w' => ∃ v, e = .returned v ∧ MeanV B w' v (fun _ => [m]) ∧ Below w.heap.size w w' := by
  refine (always_any m w).mono ?_
  rintro e w' ⟨rfl, rfl⟩
  refine ⟨_, rfl, ⟨_, #[.pointer (some ⟨w.heap.size, 0, none⟩)], rfl, (fun args w => enters_of Try.func93 (by kernel_rfl) rfl args w), fun W r hW _ _ => ?_⟩, (Below.refl _ _).alloc (Nat.le_refl _) _⟩
  exact always1_any h0 h1 ((Row.new w 3 #[.int .i64 m]).from hW hB)
theorem pairs_fit (F : Nat) (f : Int → Int → Bool) (heF : ∀ args w, (callFunc F args).run Try.prog w = .ok (.enter F args) w) (hdo : ∀ x y W, Calls Try.prog F #[.int .i64 x, .int .i64 y] W fun e w' => e = .returned (.bool (f x y)) ∧ W = w') {B : Nat} (w : World) (hB : B ≤ w.heap.size) :
    Calls Try.prog 89 #[.func (.func F) #[] #[]] w fun e w' => ∃ v, e = .returned v ∧ FitV B w' v (pairsB f) ∧ Below w.heap.size w w' := by
  refine (pairs_any _ F rfl w).mono ?_
  rintro e w' ⟨rfl, rfl⟩
  refine ⟨_, rfl, ⟨_, #[.pointer (some ⟨w.heap.size, 0, none⟩)], rfl, (fun args w => enters_of Try.func96 (by kernel_rfl) rfl args w), fun W u xs a ca hW A na hx hb => ?_⟩, (Below.refl _ _).alloc (Nat.le_refl _) _⟩
  exact pairs1_any A hx f ((Row.new w 86 #[.func (.func F) #[] #[]]).from hW hB) heF (fun x y W => (hdo x y W).mono fun e w' h => ⟨h.1, h.2 ▸ Below.refl _ _⟩)
/-- a row of the table in memory -/
def rowC (k : Nat) (F M : Value) : Array Value := #[.int .i64 ((k : Int) + 1), .string (rowO ((k : Int) + 1)).name, .int .i64 (rowO ((k : Int) + 1)).vl, .int .i64 (rowO ((k : Int) + 1)).vh, .int .i64 (rowO ((k : Int) + 1)).al, .int .i64 (rowO ((k : Int) + 1)).ah, F, .int .i64 (rowO ((k : Int) + 1)).lo, M]
/-- no function, or one -/
def RowV (v : Value) : Prop := v = .nilFunc ∨ ∃ (F : Nat) (cap : Array Value), v = .func (.func F) #[] cap
structure Tab (B : Nat) (w : World) (b : Nat) (F M : Nat → Value) : Prop where
  row : ∃ cs, Row w b 66 cs ∧ ∀ k, k < 20 → ∀ j, j < 9 → cs[k * 9 + j]? = (rowC k (F k) (M k))[j]?
  fit : ∀ k : Nat, k < 20 → FitV B w (F k) (fitO ((k : Int) + 1))
  mean : ∀ k : Nat, k < 20 → 1 ≤ (rowO ((k : Int) + 1)).lo → MeanV B w (M k) (meantO ((k : Int) + 1))
  form : ∀ k : Nat, k < 20 → RowV (M k)
theorem Tab.later {B : Nat} {w w' : World} {b : Nat} {F M : Nat → Value} (h : Tab B w b F M) (hb : Below w.heap.size w w') : Tab B w' b F M := by
  obtain ⟨⟨cs, R, hc⟩, h2, h3, h4⟩ := h
  exact ⟨⟨cs, R.later hb, hc⟩, fun k hk => (h2 k hk).later (.of hb), fun k hk hl => (h3 k hk hl).later (.of hb), h4⟩
theorem Tab.cell {B : Nat} {w : World} {b : Nat} {F M : Nat → Value} (h : Tab B w b F M) {k j : Nat} (hk : k < 20) (hj : j < 9) : w.cell? ⟨b, k * 9 + j, none⟩ = (rowC k (F k) (M k))[j]? := by
  obtain ⟨⟨cs, R, hc⟩, _, _, _⟩ := h
  rw [R.cell, hc k hk j hj]
theorem wanted_if {c : Bool} {A B : Prop} (hc : c = true) (h : A) : if c = true then A else B := by rw [if_pos hc]; exact h
theorem infoRow : (Try.prog.info? 66).map (fun i => (i.zero, i.size, i.bytes)) = some (some (.agg #[.int .i64 0, .string ⟨#[]⟩, .int .i64 0, .int .i64 0, .int .i64 0, .int .i64 0, .nilFunc, .int .i64 0, .nilFunc]), 9, 80) := by kernel_rfl
set_option maxRecDepth 100000 in
set_option maxHeartbeats 40000000 in
theorem rows_any (w : World) : Calls Try.prog 77 #[] w fun e w' => ∃ b, e = .returned (.slice (some ⟨b, 0, none⟩) 20 20) ∧ (∃ F M, Tab w.heap.size w' b F M) ∧ Below w.heap.size w w' := by
  obtain ⟨ie, hie, hz0, hz1, hz2⟩ := info_parts infoRow
  go_enter Try.func77, Try.ntmps77
  go_wp2_with fail
  refine (allV_any _).mono ?_
  rintro e w1 ⟨rfl, hb1⟩
  go_wp2_with fail
  obtain ⟨V, hV⟩ : ∃ V, ((((w1.alloc (.cells #[.int .i64 1, .int .i64 3] 62)).alloc (.cells #[.int .i64 1, .int .i64 2] 62)).alloc (.cells #[.int .i64 1, .int .i64 1] 62)).alloc (.cells #[.int .i64 2, .int .i64 2] 62)) = V := ⟨_, rfl⟩
  have R0 : Row V (w1.heap.size) 62 #[.int .i64 1, .int .i64 3] := by rw [← hV]; have h := Row.new w1 62 #[.int .i64 1, .int .i64 3]; (try simp only [World.size_alloc] at h); exact (((h.alloc _).alloc _).alloc _)
  have R1 : Row V (w1.heap.size + 1) 62 #[.int .i64 1, .int .i64 2] := by rw [← hV]; have h := Row.new (w1.alloc (.cells #[.int .i64 1, .int .i64 3] 62)) 62 #[.int .i64 1, .int .i64 2]; (try simp only [World.size_alloc] at h); exact ((h.alloc _).alloc _)
  have R2 : Row V (w1.heap.size + 1 + 1) 62 #[.int .i64 1, .int .i64 1] := by rw [← hV]; have h := Row.new ((w1.alloc (.cells #[.int .i64 1, .int .i64 3] 62)).alloc (.cells #[.int .i64 1, .int .i64 2] 62)) 62 #[.int .i64 1, .int .i64 1]; (try simp only [World.size_alloc] at h); exact (h.alloc _)
  have R3 : Row V (w1.heap.size + 1 + 1 + 1) 62 #[.int .i64 2, .int .i64 2] := by rw [← hV]; have h := Row.new (((w1.alloc (.cells #[.int .i64 1, .int .i64 3] 62)).alloc (.cells #[.int .i64 1, .int .i64 2] 62)).alloc (.cells #[.int .i64 1, .int .i64 1] 62)) 62 #[.int .i64 2, .int .i64 2]; (try simp only [World.size_alloc] at h); exact h
  have hbV : Below w1.heap.size w1 V := by rw [← hV]; exact ((((Below.refl _ _).alloc (by (try simp) <;> omega) _).alloc (by (try simp) <;> omega) _).alloc (by (try simp) <;> omega) _).alloc (by (try simp) <;> omega) _
  rw [hV]
  clear hV
  have HWV := Lib.hid (show w.heap.size ≤ V.heap.size from Nat.le_trans hb1.size hbV.size)
  simp only [List.append_eq, List.cons_append, List.nil_append]
  have MK := Lib.hid (show ∀ X, Below V.heap.size V X → (fun X => X.cell? ⟨w1.heap.size, 0, none⟩ = some (.int .i64 1) ∧ X.cell? ⟨w1.heap.size, 1, none⟩ = some (.int .i64 3) ∧ X.cell? ⟨w1.heap.size + 1, 0, none⟩ = some (.int .i64 1) ∧ X.cell? ⟨w1.heap.size + 1, 1, none⟩ = some (.int .i64 2) ∧ X.cell? ⟨w1.heap.size + 1 + 1, 0, none⟩ = some (.int .i64 1) ∧ X.cell? ⟨w1.heap.size + 1 + 1, 1, none⟩ = some (.int .i64 1) ∧ X.cell? ⟨w1.heap.size + 1 + 1 + 1, 0, none⟩ = some (.int .i64 2) ∧ X.cell? ⟨w1.heap.size + 1 + 1 + 1, 1, none⟩ = some (.int .i64 2)) X from fun X h => by
    obtain ⟨a0, a1, _⟩ := (R0.later h).two
    obtain ⟨b0, b1, _⟩ := (R1.later h).two
    obtain ⟨c0, c1, _⟩ := (R2.later h).two
    obtain ⟨d0, d1, _⟩ := (R3.later h).two
    exact ⟨a0, a1, b0, b1, c0, c1, d0, d1⟩)
  have B0 : Below V.heap.size V V.drew := (Below.refl _ _).drew
  clear R0 R1 R2 R3
  refine wp_region_held_drew (S := fun X => X.cell? ⟨w1.heap.size, 0, none⟩ = some (.int .i64 1) ∧ X.cell? ⟨w1.heap.size, 1, none⟩ = some (.int .i64 3) ∧ X.cell? ⟨w1.heap.size + 1, 0, none⟩ = some (.int .i64 1) ∧ X.cell? ⟨w1.heap.size + 1, 1, none⟩ = some (.int .i64 2) ∧ X.cell? ⟨w1.heap.size + 1 + 1, 0, none⟩ = some (.int .i64 1) ∧ X.cell? ⟨w1.heap.size + 1 + 1, 1, none⟩ = some (.int .i64 1) ∧ X.cell? ⟨w1.heap.size + 1 + 1 + 1, 0, none⟩ = some (.int .i64 2) ∧ X.cell? ⟨w1.heap.size + 1 + 1 + 1, 1, none⟩ = some (.int .i64 2)) (by kernel_rfl) (MK.out _ B0) (fun hHeld => ?_)
  obtain ⟨y0, hdrh⟩ : ∃ Y, V.drew = Y := ⟨_, rfl⟩
  rw [hdrh] at B0 hHeld ⊢
  clear hdrh
  refine todo [0, 1, 2, 3, 4, 5, 6, 7, 8, 9, 10, 11, 12, 13, 14, 15, 16, 20, 21, 22, 23, 24, 25, 26, 27, 28, 29, 30, 31, 32, 33, 34, 35, 36, 37, 38, 39, 40, 41, 42, 43, 44, 45, 48, 49, 52, 53, 57, 58, 59, 60, 61, 62, 63, 64, 65] ?_
  iterate 56
   first
   | (refine todoH (v := ?_) rfl (by kernel_rfl) (fun _ _ _ h => h) (by assumption) (Or.inl ⟨by rfl, ?_⟩) ?_
      rotate_left
      · intro w hSw; (try dsimp only at hSw); go_simp; (try with_reducible rfl)
      try simp only [Act.put, List.getElem_toArray, List.getElem_cons_succ, List.getElem_cons_zero, List.setIfInBounds_toArray, List.set_cons_zero, List.set_cons_succ])
   | (refine todoH (v := undef) rfl (by kernel_rfl) (fun _ _ _ h => h) (by assumption) (Or.inr ⟨by rfl, rfl⟩) ?_
      try simp only [Act.put, List.getElem_toArray, List.getElem_cons_succ, List.getElem_cons_zero, List.setIfInBounds_toArray, List.set_cons_zero, List.set_cons_succ])
  refine todone ?_
  refine wpAnyH_ready (rs := [17]) (by kernel_rfl) (by simp) ?_
  refine AllReadyH.cons rfl (fun K hK => ?sh_17) AllReadyH.nil
  go_simp
  refine (oneUpTo_fit 16 (B := w.heap.size) _ (Nat.le_trans HWV.out B0.size)).mono ?_
  rintro e y1 ⟨v1, rfl, q1, hy⟩
  have B1 : Below V.heap.size V y1 := B0.trans (hy.mono B0.size)
  have Dh1 := hy
  clear hy
  obtain ⟨F1, cap1, rfl, _⟩ := id q1
  have Q1 := Lib.hid q1
  clear q1
  go_simp
  refine hK.out _ _ (MK.out _ B1) (fun hHeld2 => ?mh_17)
  clear hK K hHeld
  have hHeld := hHeld2
  clear hHeld2
  try simp only [Act.put, List.getElem_toArray, List.getElem_cons_succ, List.getElem_cons_zero, List.setIfInBounds_toArray, List.set_cons_zero, List.set_cons_succ]
  refine wpAnyH_ready (rs := [18]) (by kernel_rfl) (by simp) ?_
  refine AllReadyH.cons rfl (fun K hK => ?sh_18) AllReadyH.nil
  go_simp
  refine (always_mean (m := 2) (by decide) (by decide) (B := w.heap.size) _ (Nat.le_trans HWV.out B1.size)).mono ?_
  rintro e y2 ⟨v2, rfl, q2, hy⟩
  have B2 : Below V.heap.size V y2 := B1.trans (hy.mono B1.size)
  have Dh2 := hy
  clear hy
  obtain ⟨F2, cap2, rfl, _⟩ := id q2
  have Q2 := Lib.hid q2
  clear q2
  go_simp
  refine hK.out _ _ (MK.out _ B2) (fun hHeld2 => ?mh_18)
  clear hK K hHeld
  have hHeld := hHeld2
  clear hHeld2
  try simp only [Act.put, List.getElem_toArray, List.getElem_cons_succ, List.getElem_cons_zero, List.setIfInBounds_toArray, List.set_cons_zero, List.set_cons_succ]
  refine todo [19] ?_
  iterate 1
   first
   | (refine todoH (v := ?_) rfl (by kernel_rfl) (fun _ _ _ h => h) (by assumption) (Or.inl ⟨by rfl, ?_⟩) ?_
      rotate_left
      · intro w hSw; (try dsimp only at hSw); go_simp; (try with_reducible rfl)
      try simp only [Act.put, List.getElem_toArray, List.getElem_cons_succ, List.getElem_cons_zero, List.setIfInBounds_toArray, List.set_cons_zero, List.set_cons_succ])
   | (refine todoH (v := undef) rfl (by kernel_rfl) (fun _ _ _ h => h) (by assumption) (Or.inr ⟨by rfl, rfl⟩) ?_
      try simp only [Act.put, List.getElem_toArray, List.getElem_cons_succ, List.getElem_cons_zero, List.setIfInBounds_toArray, List.set_cons_zero, List.set_cons_succ])
  refine todone ?_
  refine wpAnyH_ready (rs := [46]) (by kernel_rfl) (by simp) ?_
  refine AllReadyH.cons rfl (fun K hK => ?sh_46) AllReadyH.nil
  go_simp
  refine (pairs_fit _ slB (fun args w => enters_of Try.func90 (by kernel_rfl) rfl args w) slice1_any (B := w.heap.size) _ (Nat.le_trans HWV.out B2.size)).mono ?_
  rintro e y3 ⟨v3, rfl, q3, hy⟩
  have B3 : Below V.heap.size V y3 := B2.trans (hy.mono B2.size)
  have Dh3 := hy
  clear hy
  obtain ⟨F3, cap3, rfl, _⟩ := id q3
  have Q3 := Lib.hid q3
  clear q3
  go_simp
  refine hK.out _ _ (MK.out _ B3) (fun hHeld2 => ?mh_46)
  clear hK K hHeld
  have hHeld := hHeld2
  clear hHeld2
  try simp only [Act.put, List.getElem_toArray, List.getElem_cons_succ, List.getElem_cons_zero, List.setIfInBounds_toArray, List.set_cons_zero, List.set_cons_succ]
  refine todo [47] ?_
  iterate 1
   first
   | (refine todoH (v := ?_) rfl (by kernel_rfl) (fun _ _ _ h => h) (by assumption) (Or.inl ⟨by rfl, ?_⟩) ?_
      rotate_left
      · intro w hSw; (try dsimp only at hSw); go_simp; (try with_reducible rfl)
      try simp only [Act.put, List.getElem_toArray, List.getElem_cons_succ, List.getElem_cons_zero, List.setIfInBounds_toArray, List.set_cons_zero, List.set_cons_succ])
   | (refine todoH (v := undef) rfl (by kernel_rfl) (fun _ _ _ h => h) (by assumption) (Or.inr ⟨by rfl, rfl⟩) ?_
      try simp only [Act.put, List.getElem_toArray, List.getElem_cons_succ, List.getElem_cons_zero, List.setIfInBounds_toArray, List.set_cons_zero, List.set_cons_succ])
  refine todone ?_
  refine wpAnyH_ready (rs := [50]) (by kernel_rfl) (by simp) ?_
  refine AllReadyH.cons rfl (fun K hK => ?sh_50) AllReadyH.nil
  go_simp
  refine (pairs_fit _ paB (fun args w => enters_of Try.func91 (by kernel_rfl) rfl args w) pad1_any (B := w.heap.size) _ (Nat.le_trans HWV.out B3.size)).mono ?_
  rintro e y4 ⟨v4, rfl, q4, hy⟩
  have B4 : Below V.heap.size V y4 := B3.trans (hy.mono B3.size)
  have Dh4 := hy
  clear hy
  obtain ⟨F4, cap4, rfl, _⟩ := id q4
  have Q4 := Lib.hid q4
  clear q4
  go_simp
  refine hK.out _ _ (MK.out _ B4) (fun hHeld2 => ?mh_50)
  clear hK K hHeld
  have hHeld := hHeld2
  clear hHeld2
  try simp only [Act.put, List.getElem_toArray, List.getElem_cons_succ, List.getElem_cons_zero, List.setIfInBounds_toArray, List.set_cons_zero, List.set_cons_succ]
  refine todo [51] ?_
  iterate 1
   first
   | (refine todoH (v := ?_) rfl (by kernel_rfl) (fun _ _ _ h => h) (by assumption) (Or.inl ⟨by rfl, ?_⟩) ?_
      rotate_left
      · intro w hSw; (try dsimp only at hSw); go_simp; (try with_reducible rfl)
      try simp only [Act.put, List.getElem_toArray, List.getElem_cons_succ, List.getElem_cons_zero, List.setIfInBounds_toArray, List.set_cons_zero, List.set_cons_succ])
   | (refine todoH (v := undef) rfl (by kernel_rfl) (fun _ _ _ h => h) (by assumption) (Or.inr ⟨by rfl, rfl⟩) ?_
      try simp only [Act.put, List.getElem_toArray, List.getElem_cons_succ, List.getElem_cons_zero, List.setIfInBounds_toArray, List.set_cons_zero, List.set_cons_succ])
  refine todone ?_
  refine wpAnyH_ready (rs := [54]) (by kernel_rfl) (by simp) ?_
  refine AllReadyH.cons rfl (fun K hK => ?sh_54) AllReadyH.nil
  go_simp
  refine (oneUpTo_fit 3 (B := w.heap.size) _ (Nat.le_trans HWV.out B4.size)).mono ?_
  rintro e y5 ⟨v5, rfl, q5, hy⟩
  have B5 : Below V.heap.size V y5 := B4.trans (hy.mono B4.size)
  have Dh5 := hy
  clear hy
  obtain ⟨F5, cap5, rfl, _⟩ := id q5
  have Q5 := Lib.hid q5
  clear q5
  go_simp
  refine hK.out _ _ (MK.out _ B5) (fun hHeld2 => ?mh_54)
  clear hK K hHeld
  have hHeld := hHeld2
  clear hHeld2
  try simp only [Act.put, List.getElem_toArray, List.getElem_cons_succ, List.getElem_cons_zero, List.setIfInBounds_toArray, List.set_cons_zero, List.set_cons_succ]
  refine wpAnyH_ready (rs := [55]) (by kernel_rfl) (by simp) ?_
  refine AllReadyH.cons rfl (fun K hK => ?sh_55) AllReadyH.nil
  go_simp
  refine (always_mean (m := 0) (by decide) (by decide) (B := w.heap.size) _ (Nat.le_trans HWV.out B5.size)).mono ?_
  rintro e y6 ⟨v6, rfl, q6, hy⟩
  have B6 : Below V.heap.size V y6 := B5.trans (hy.mono B5.size)
  have Dh6 := hy
  clear hy
  obtain ⟨F6, cap6, rfl, _⟩ := id q6
  have Q6 := Lib.hid q6
  clear q6
  go_simp
  refine hK.out _ _ (MK.out _ B6) (fun hHeld2 => ?mh_55)
  clear hK K hHeld
  have hHeld := hHeld2
  clear hHeld2
  try simp only [Act.put, List.getElem_toArray, List.getElem_cons_succ, List.getElem_cons_zero, List.setIfInBounds_toArray, List.set_cons_zero, List.set_cons_succ]
  refine todo [56] ?_
  iterate 1
   first
   | (refine todoH (v := ?_) rfl (by kernel_rfl) (fun _ _ _ h => h) (by assumption) (Or.inl ⟨by rfl, ?_⟩) ?_
      rotate_left
      · intro w hSw; (try dsimp only at hSw); go_simp; (try with_reducible rfl)
      try simp only [Act.put, List.getElem_toArray, List.getElem_cons_succ, List.getElem_cons_zero, List.setIfInBounds_toArray, List.set_cons_zero, List.set_cons_succ])
   | (refine todoH (v := undef) rfl (by kernel_rfl) (fun _ _ _ h => h) (by assumption) (Or.inr ⟨by rfl, rfl⟩) ?_
      try simp only [Act.put, List.getElem_toArray, List.getElem_cons_succ, List.getElem_cons_zero, List.setIfInBounds_toArray, List.set_cons_zero, List.set_cons_succ])
  refine todone ?_
  refine wpAnyH_ready (rs := [66]) (by kernel_rfl) (by simp) ?_
  refine AllReadyH.cons rfl (fun K hK => ?sh_66) AllReadyH.nil
  obtain ⟨r, hr, hrs, hrk⟩ := Great.fill_dense (s := 9) (by omega) ((List.range 20).map fun k => Value.agg (rowC k ((fun k => ([(.func (.func 80) #[] #[]), (.func (.func 80) #[] #[]), (.func (.func 80) #[] #[]), (.func (.func 80) #[] #[]), (.func (.func 80) #[] #[]), .func (.func F1) #[] cap1, (.func (.func 80) #[] #[]), (.func (.func 80) #[] #[]), (.func (.func 83) #[] #[]), (.func (.func 80) #[] #[]), (.func (.func 84) #[] #[]), (.func (.func 86) #[] #[]), (.func (.func 86) #[] #[]), (.func (.func 87) #[] #[]), .func (.func F3) #[] cap3, .func (.func F4) #[] cap4, .func (.func F5) #[] cap5, (.func (.func 80) #[] #[]), (.func (.func 80) #[] #[]), (.func (.func 87) #[] #[])] : List Value).getD k .nilFunc) k) ((fun k => ([.nilFunc, .nilFunc, .nilFunc, .nilFunc, .nilFunc, .func (.func F2) #[] cap2, .nilFunc, .nilFunc, .nilFunc, .nilFunc, (.func (.func 85) #[] #[]), .nilFunc, .nilFunc, (.func (.func 88) #[] #[]), .nilFunc, .nilFunc, .func (.func F6) #[] cap6, .nilFunc, .nilFunc, (.func (.func 88) #[] #[])] : List Value).getD k .nilFunc) k))) 0 ((Array.range (20 * 9)).map ((Value.agg #[.int .i64 0, .string ⟨#[]⟩, .int .i64 0, .int .i64 0, .int .i64 0, .int .i64 0, .nilFunc, .int .i64 0, .nilFunc]).cells[· % (Value.agg #[.int .i64 0, .string ⟨#[]⟩, .int .i64 0, .int .i64 0, .int .i64 0, .int .i64 0, .nilFunc, .int .i64 0, .nilFunc]).cells.size]!))
    (fun v hv => by obtain ⟨k, _, rfl⟩ := List.mem_map.1 hv; rfl) (by simp)
  refine wanted_if (by kernel_rfl) ?_
  refine wp_buildSlice 104 66 20 _ rfl r ie _ Try.underlying104 hie hz0 (by rw [hz1]; decide) (by rw [hz1]; decide) (by rw [hz1]; refine Eq.trans ?_ hr; kernel_rfl) ?_
  obtain ⟨y7, hy7⟩ : ∃ Y, y6.alloc (.cells r 66) = Y := ⟨_, rfl⟩
  have B7 : Below V.heap.size V y7 := by rw [← hy7]; exact B6.alloc B6.size _
  have b67 : Below y6.heap.size y6 y7 := by rw [← hy7]; exact (Below.refl _ _).alloc (Nat.le_refl _) _
  have R7 : Row y7 y6.heap.size 66 r := by rw [← hy7]; exact Row.new _ _ _
  rw [hy7]
  clear hy7
  refine hK.out _ _ (MK.out _ B7) (fun hHeld2 => ?mh_66)
  clear hK K hHeld
  have hHeld := hHeld2
  clear hHeld2
  try simp only [Act.put, List.getElem_toArray, List.getElem_cons_succ, List.getElem_cons_zero, List.setIfInBounds_toArray, List.set_cons_zero, List.set_cons_succ]
  refine todo [67] ?_
  iterate 1
   first
   | (refine todoH (v := ?_) rfl (by kernel_rfl) (fun _ _ _ h => h) (by assumption) (Or.inl ⟨by rfl, ?_⟩) ?_
      rotate_left
      · intro w hSw; (try dsimp only at hSw); go_simp; (try with_reducible rfl)
      try simp only [Act.put, List.getElem_toArray, List.getElem_cons_succ, List.getElem_cons_zero, List.setIfInBounds_toArray, List.set_cons_zero, List.set_cons_succ])
   | (refine todoH (v := undef) rfl (by kernel_rfl) (fun _ _ _ h => h) (by assumption) (Or.inr ⟨by rfl, rfl⟩) ?_
      try simp only [Act.put, List.getElem_toArray, List.getElem_cons_succ, List.getElem_cons_zero, List.setIfInBounds_toArray, List.set_cons_zero, List.set_cons_succ])
  refine todone ?_
  refine wpAnyH_done (by kernel_rfl) ?_ _
  (try dsimp only [Straight])
  go_wp2_with fail
  have hbw : Below w.heap.size w y7 := hb1.trans ((hbV.trans (B7.mono hbV.size)).mono hb1.size)
  refine bodyPost_ret (v := .slice (some ⟨y6.heap.size, 0, none⟩) 20 20) (by simp [results, Try.results77, go_sem]) rfl ⟨y6.heap.size, rfl, ⟨(fun k => ([(.func (.func 80) #[] #[]), (.func (.func 80) #[] #[]), (.func (.func 80) #[] #[]), (.func (.func 80) #[] #[]), (.func (.func 80) #[] #[]), .func (.func F1) #[] cap1, (.func (.func 80) #[] #[]), (.func (.func 80) #[] #[]), (.func (.func 83) #[] #[]), (.func (.func 80) #[] #[]), (.func (.func 84) #[] #[]), (.func (.func 86) #[] #[]), (.func (.func 86) #[] #[]), (.func (.func 87) #[] #[]), .func (.func F3) #[] cap3, .func (.func F4) #[] cap4, .func (.func F5) #[] cap5, (.func (.func 80) #[] #[]), (.func (.func 80) #[] #[]), (.func (.func 87) #[] #[])] : List Value).getD k .nilFunc), (fun k => ([.nilFunc, .nilFunc, .nilFunc, .nilFunc, .nilFunc, .func (.func F2) #[] cap2, .nilFunc, .nilFunc, .nilFunc, .nilFunc, (.func (.func 85) #[] #[]), .nilFunc, .nilFunc, (.func (.func 88) #[] #[]), .nilFunc, .nilFunc, .func (.func F6) #[] cap6, .nilFunc, .nilFunc, (.func (.func 88) #[] #[])] : List Value).getD k .nilFunc), ⟨⟨r, R7, fun k hk j hj => ?_⟩, fun k hk => ?_, fun k hk hl => ?_, fun k hk => ?_⟩⟩, hbw⟩
  · rw [hrk, if_pos (by simp; omega), show (k * 9 + j) / 9 - 0 = k by omega, show (k * 9 + j) % 9 = j by omega, List.getElem?_map, List.getElem?_range hk]
    rfl
  · match k, hk with
    | 0, _ => exact isNone_fit _ _
    | 1, _ => exact isNone_fit _ _
    | 2, _ => exact isNone_fit _ _
    | 3, _ => exact isNone_fit _ _
    | 4, _ => exact isNone_fit _ _
    | 5, _ => exact ((((((Q1.out.later (.of Dh2)).later (.of Dh3)).later (.of Dh4)).later (.of Dh5)).later (.of Dh6)).later (.of b67))
    | 6, _ => exact isNone_fit _ _
    | 7, _ => exact isNone_fit _ _
    | 8, _ => exact isFraction_fit _ _
    | 9, _ => exact isNone_fit _ _
    | 10, _ => exact isPerm_fit _ _
    | 11, _ => exact isShape_fit _ _
    | 12, _ => exact isShape_fit _ _
    | 13, _ => exact areAxes_fit _ _
    | 14, _ => exact ((((Q3.out.later (.of Dh4)).later (.of Dh5)).later (.of Dh6)).later (.of b67))
    | 15, _ => exact (((Q4.out.later (.of Dh5)).later (.of Dh6)).later (.of b67))
    | 16, _ => exact ((Q5.out.later (.of Dh6)).later (.of b67))
    | 17, _ => exact isNone_fit _ _
    | 18, _ => exact isNone_fit _ _
    | 19, _ => exact areAxes_fit _ _
    | n + 20, h => exact absurd h (by omega)
  · match k, hk, hl with
    | 0, _, hl => exact absurd hl (by decide +kernel)
    | 1, _, hl => exact absurd hl (by decide +kernel)
    | 2, _, hl => exact absurd hl (by decide +kernel)
    | 3, _, hl => exact absurd hl (by decide +kernel)
    | 4, _, hl => exact absurd hl (by decide +kernel)
    | 5, _, hl => exact (((((Q2.out.later (.of Dh3)).later (.of Dh4)).later (.of Dh5)).later (.of Dh6)).later (.of b67))
    | 6, _, hl => exact absurd hl (by decide +kernel)
    | 7, _, hl => exact absurd hl (by decide +kernel)
    | 8, _, hl => exact absurd hl (by decide +kernel)
    | 9, _, hl => exact absurd hl (by decide +kernel)
    | 10, _, hl => exact backward_mean _ _
    | 11, _, hl => exact absurd hl (by decide +kernel)
    | 12, _, hl => exact absurd hl (by decide +kernel)
    | 13, _, hl => exact forward_mean _ _
    | 14, _, hl => exact absurd hl (by decide +kernel)
    | 15, _, hl => exact absurd hl (by decide +kernel)
    | 16, _, hl => exact (Q6.out.later (.of b67))
    | 17, _, hl => exact absurd hl (by decide +kernel)
    | 18, _, hl => exact absurd hl (by decide +kernel)
    | 19, _, hl => exact forward_mean _ _
    | n + 20, h, _ => exact absurd h (by omega)
  · match k, hk with
    | 0, _ => exact .inl rfl
    | 1, _ => exact .inl rfl
    | 2, _ => exact .inl rfl
    | 3, _ => exact .inl rfl
    | 4, _ => exact .inl rfl
    | 5, _ => exact .inr ⟨_, _, rfl⟩
    | 6, _ => exact .inl rfl
    | 7, _ => exact .inl rfl
    | 8, _ => exact .inl rfl
    | 9, _ => exact .inl rfl
    | 10, _ => exact .inr ⟨_, _, rfl⟩
    | 11, _ => exact .inl rfl
    | 12, _ => exact .inl rfl
    | 13, _ => exact .inr ⟨_, _, rfl⟩
    | 14, _ => exact .inl rfl
    | 15, _ => exact .inl rfl
    | 16, _ => exact .inr ⟨_, _, rfl⟩
    | 17, _ => exact .inl rfl
    | 18, _ => exact .inl rfl
    | 19, _ => exact .inr ⟨_, _, rfl⟩
    | n + 20, h => exact absurd h (by omega)
end
section
open Go.RowKit
set_option linter.unusedVariables false
set_option linter.unusedSimpArgs false
/-- the row of no operation -/
def zeroC : Array Value := #[.int .i64 0, .string ⟨#[]⟩, .int .i64 0, .int .i64 0, .int .i64 0, .int .i64 0, .nilFunc, .int .i64 0, .nilFunc]
/-- the place of a row for which p holds, or -1 -/
def Idx (p : Nat → Bool) (i : Int) : Prop := (∃ k : Nat, i = (k : Int) ∧ k < 20 ∧ p k = true) ∨ (i = -1 ∧ ∀ k, k < 20 → p k = false)
set_option maxRecDepth 100000 in
set_option maxHeartbeats 4000000 in
theorem indexRow_any {B F : Nat} {cap : Array Value} {p : Nat → Bool} {w : World} {b : Nat} {Fs Ms : Nat → Value} (T : Tab B w b Fs Ms) (heF : ∀ args w, (callFunc F args).run Try.prog w = .ok (.enter F args) w)
    (hdo : ∀ W k G M, k < 20 → Below w.heap.size w W → Calls Try.prog F (#[.agg (rowC k G M)] ++ cap) W fun e w' => e = .returned (.bool (p k)) ∧ Below W.heap.size W w') :
    Calls Try.prog 78 #[.slice (some ⟨b, 0, none⟩) 20 20, .func (.func F) #[] cap] w fun e w' => ∃ i : Int, e = .returned (.int .i64 i) ∧ Idx p i ∧ Below w.heap.size w w' := by
  have HT := Lib.hid T
  have HDO := Lib.hid hdo
  clear T hdo
  go_enter Try.func78, Try.ntmps78
  go_wp2_with fail
  go_loopw [5, 8] (fun _ i wr => ∃ k : Nat, i = .int .i64 (k : Int) ∧ k ≤ 20 ∧ (∀ j, j < k → p j = false) ∧ Below w.heap.size w wr) (fun _ i _ => 20 - (intOf i).toNat)
  case atStart => exact ⟨0, rfl, by omega, fun j hj => by omega, Below.refl _ _⟩
  case round =>
    obtain ⟨k, rfl, hk, hall, hb⟩ := hrel
    have HALL := Lib.hid hall
    clear hall
    by_cases hlt : k < 20
    · have hltI : (k : Int) < 20 := by omega
      have hk0 : (0 : Int) ≤ (k : Int) := by omega
      have hcall := HDO.out wr k (Fs k) (Ms k) hlt hb
      have hc := fun j hj => (HT.out.later hb).cell (k := k) (j := j) hlt hj
      obtain ⟨v0, v1, v2, v3, v4, v5, v6, v7, v8, hv⟩ : ∃ v0 v1 v2 v3 v4 v5 v6 v7 v8, rowC k (Fs k) (Ms k) = #[v0, v1, v2, v3, v4, v5, v6, v7, v8] := ⟨_, _, _, _, _, _, _, _, _, rfl⟩
      rw [hv] at hcall hc
      have c0 : wr.cell? ⟨b, k * 9, none⟩ = some v0 := hc 0 (by omega)
      have c1 : wr.cell? ⟨b, k * 9 + 1, none⟩ = some v1 := hc 1 (by omega)
      have c2 : wr.cell? ⟨b, k * 9 + 2, none⟩ = some v2 := hc 2 (by omega)
      have c3 : wr.cell? ⟨b, k * 9 + 3, none⟩ = some v3 := hc 3 (by omega)
      have c4 : wr.cell? ⟨b, k * 9 + 4, none⟩ = some v4 := hc 4 (by omega)
      have c5 : wr.cell? ⟨b, k * 9 + 5, none⟩ = some v5 := hc 5 (by omega)
      have c6 : wr.cell? ⟨b, k * 9 + 6, none⟩ = some v6 := hc 6 (by omega)
      have c7 : wr.cell? ⟨b, k * 9 + 7, none⟩ = some v7 := hc 7 (by omega)
      have c8 : wr.cell? ⟨b, k * 9 + 8, none⟩ = some v8 := hc 8 (by omega)
      obtain ⟨t, ht⟩ : ∃ t, p k = t := ⟨_, rfl⟩
      rw [ht] at hcall
      have HTT := Lib.hid ht
      clear hc hv ht
      go_wp2_with fail
      refine hcall.mono ?_
      rintro e y1 ⟨rfl, hy⟩
      cases t with
      | true =>
        go_wp2_with fail
        go_ret
        exact ⟨_, rfl, .inl ⟨k, rfl, hlt, HTT.out⟩, hb.trans (hy.mono hb.size)⟩
      | false =>
        go_wp2_with fail
        go_roundw
        case rel =>
          refine ⟨k + 1, by go_num, by omega, fun j hj => ?_, hb.trans (hy.mono hb.size)⟩
          by_cases hjk : j < k
          · exact HALL.out j hjk
          · obtain rfl : j = k := by omega
            exact HTT.out
        case measure => simp [intOf]; omega
    · obtain rfl : k = 20 := by omega
      go_wp2_with fail
      go_ret
      exact ⟨_, rfl, .inr ⟨rfl, HALL.out⟩, hb⟩
theorem below_setRow {B g : Nat} {w w' : World} {cs : Array Value} (h : Below B w w') (hg : B ≤ g) : Below B w (w'.setRow g cs) :=
  ⟨h.os, h.tape, h.output, by rw [setRow_size]; exact h.size, fun k hk => (setRow_other _ _ _ _ (by omega)).trans (h.block k hk)⟩
theorem Row.setRow {w : World} {g : Nat} {t : TypeId} {old cs : Array Value} (h : Row w g t old) : Row (w.setRow g cs) g t cs := setRow_heap w g old cs t (0, 0) h
theorem RowV.one {v : Value} (h : RowV v) : v.oneCell' = true := by
  rcases h with rfl | ⟨F, cap, rfl⟩ <;> rfl
theorem FitV.one {B : Nat} {w : World} {v : Value} {P : List Int → Bool} (h : FitV B w v P) : v.oneCell' = true := by
  obtain ⟨F, cap, rfl, _⟩ := h
  rfl
theorem rowC_one {k : Nat} {F M : Value} (hF : F.oneCell' = true) (hM : M.oneCell' = true) : (rowC k F M).all (·.oneCell') = true := by
  have e1 : ∀ n : Int, (Value.int .i64 n).oneCell' = true := fun _ => rfl
  have e2 : ∀ s : ByteArray, (Value.string s).oneCell' = true := fun _ => rfl
  unfold rowC
  simp [hF, hM, e1, e2]
/-- what is found: a row for which p holds, or none -/
def Found (B : Nat) (w : World) (p : Nat → Bool) (r : Array Value) (ok : Bool) : Prop :=
  (ok = true ∧ ∃ (k : Nat) (F M : Value), k < 20 ∧ p k = true ∧ r = rowC k F M ∧ M.oneCell' = true ∧ FitV B w F (fitO ((k : Int) + 1)) ∧ (1 ≤ (rowO ((k : Int) + 1)).lo → MeanV B w M (meantO ((k : Int) + 1)))) ∨ (ok = false ∧ (∀ k, k < 20 → p k = false) ∧ r = zeroC)
set_option maxRecDepth 100000 in
set_option maxHeartbeats 4000000 in
theorem find_any {F : Nat} {cap : Array Value} {p : Nat → Bool} {w : World} (heF : ∀ args w, (callFunc F args).run Try.prog w = .ok (.enter F args) w)
    (hdo : ∀ W k G M, k < 20 → Below w.heap.size w W → Calls Try.prog F (#[.agg (rowC k G M)] ++ cap) W fun e w' => e = .returned (.bool (p k)) ∧ Below W.heap.size W w') :
    Calls Try.prog 71 #[.func (.func F) #[] cap] w fun e w' => ∃ r ok, e = .returned (.tuple #[.agg r, .bool ok]) ∧ Found w.heap.size w' p r ok ∧ Below w.heap.size w w' := by
  have HDO := Lib.hid hdo
  obtain ⟨W, hW⟩ : ∃ W, w.alloc (.cells #[.int .i64 0, .string ⟨#[]⟩, .int .i64 0, .int .i64 0, .int .i64 0, .int .i64 0, .nilFunc, .int .i64 0, .nilFunc] 66) = W := ⟨_, rfl⟩
  have R : Row W w.heap.size 66 #[.int .i64 0, .string ⟨#[]⟩, .int .i64 0, .int .i64 0, .int .i64 0, .int .i64 0, .nilFunc, .int .i64 0, .nilFunc] := by rw [← hW]; exact Row.new _ _ _
  have hbW : Below w.heap.size w W := by rw [← hW]; exact (Below.refl _ _).alloc (Nat.le_refl _) _
  have hsW : w.heap.size < W.heap.size := by rw [← hW]; simp
  clear hdo
  go_enter Try.func71, Try.ntmps71
  (try rw [hW])
  go_wp2_with fail
  (try rw [hW])
  clear hW
  refine (rows_any W).mono ?_
  rintro e y1 ⟨b, rfl, ⟨Fs, Ms, hT⟩, hy⟩
  have b1 : Below w.heap.size w y1 := hbW.trans (hy.mono hbW.size)
  have R1 := R.later hy
  have HT := Lib.hid hT
  clear hT hy R
  go_wp2_with fail
  refine (indexRow_any HT.out heF (fun X k G M hk hX => HDO.out X k G M hk (b1.trans (hX.mono b1.size)))).mono ?_
  rintro e y2 ⟨i, rfl, hi, hy⟩
  have b2 : Below w.heap.size w y2 := b1.trans (hy.mono b1.size)
  have T2 := HT.out.later hy
  have R2 := R1.later hy
  have HR2 := Lib.hid R2
  clear hy R1
  rcases hi with ⟨k, rfl, hk, hp⟩ | ⟨rfl, hno⟩
  · have hkI : ¬ (k : Int) < 0 := by omega
    have hltI : (k : Int) < 20 := by omega
    have hk0 : (0 : Int) ≤ (k : Int) := by omega
    have hc := fun j hj => T2.cell (k := k) (j := j) hk hj
    have HF := Lib.hid (T2.fit k hk)
    have HM := Lib.hid (T2.mean k hk)
    have HFO := Lib.hid (T2.form k hk)
    have HP := Lib.hid hp
    have hone := rowC_one (k := k) HF.out.one HFO.out.one
    obtain ⟨v0, v1, v2, v3, v4, v5, v6, v7, v8, hv⟩ : ∃ v0 v1 v2 v3 v4 v5 v6 v7 v8, rowC k (Fs k) (Ms k) = #[v0, v1, v2, v3, v4, v5, v6, v7, v8] := ⟨_, _, _, _, _, _, _, _, _, rfl⟩
    rw [hv] at hc hone
    have c0 : y2.cell? ⟨b, k * 9, none⟩ = some v0 := hc 0 (by omega)
    have c1 : y2.cell? ⟨b, k * 9 + 1, none⟩ = some v1 := hc 1 (by omega)
    have c2 : y2.cell? ⟨b, k * 9 + 2, none⟩ = some v2 := hc 2 (by omega)
    have c3 : y2.cell? ⟨b, k * 9 + 3, none⟩ = some v3 := hc 3 (by omega)
    have c4 : y2.cell? ⟨b, k * 9 + 4, none⟩ = some v4 := hc 4 (by omega)
    have c5 : y2.cell? ⟨b, k * 9 + 5, none⟩ = some v5 := hc 5 (by omega)
    have c6 : y2.cell? ⟨b, k * 9 + 6, none⟩ = some v6 := hc 6 (by omega)
    have c7 : y2.cell? ⟨b, k * 9 + 7, none⟩ = some v7 := hc 7 (by omega)
    have c8 : y2.cell? ⟨b, k * 9 + 8, none⟩ = some v8 := hc 8 (by omega)
    have HONE := Lib.hid hone
    have HV := Lib.hid hv
    clear hc hv hone hp T2
    have P3 := R2.setRow (cs := #[v0, v1, v2, v3, v4, v5, v6, v7, v8])
    have z0 := P3.cell 0
    have z1 := P3.cell 1
    have z2 := P3.cell 2
    have z3 := P3.cell 3
    have z4 := P3.cell 4
    have z5 := P3.cell 5
    have z6 := P3.cell 6
    have z7 := P3.cell 7
    have z8 := P3.cell 8
    have HE := Lib.hid (below_setRow (cs := #[v0, v1, v2, v3, v4, v5, v6, v7, v8]) b2 (Nat.le_refl _))
    clear P3
    go_wp2_with (refine wpList_store_row rfl 66 _ _ rfl w.heap.size #[v0, v1, v2, v3, v4, v5, v6, v7, v8] (by rfl) (by rfl) 66 #[.int .i64 0, .string ⟨#[]⟩, .int .i64 0, .int .i64 0, .int .i64 0, .int .i64 0, .nilFunc, .int .i64 0, .nilFunc] R2 (by kernel_rfl) rfl HONE.out ?_)
    have hFr : From W.heap.size y2 (y2.setRow w.heap.size #[v0, v1, v2, v3, v4, v5, v6, v7, v8]) := (From.of (Below.refl _ _)).setRow hsW
    exact bodyPost_ret (v := .tuple #[.agg #[v0, v1, v2, v3, v4, v5, v6, v7, v8], .bool true]) (by simp [results, Try.results71, go_sem, z0, z1, z2, z3, z4, z5, z6, z7, z8]) rfl ⟨_, _, rfl, .inl ⟨rfl, k, Fs k, Ms k, hk, HP.out, HV.out.symm, HFO.out.one, (HF.out.later hFr).mono (Nat.le_of_lt hsW), fun hl => ((HM.out hl).later hFr).mono (Nat.le_of_lt hsW)⟩, HE.out⟩
  · have HNO := Lib.hid hno
    have HONE := Lib.hid (show (#[.int .i64 0, .string ⟨#[]⟩, .int .i64 0, .int .i64 0, .int .i64 0, .int .i64 0, .nilFunc, .int .i64 0, .nilFunc] : Array Value).all (·.oneCell') = true by kernel_rfl)
    clear hno
    have P3 := R2.setRow (cs := #[.int .i64 0, .string ⟨#[]⟩, .int .i64 0, .int .i64 0, .int .i64 0, .int .i64 0, .nilFunc, .int .i64 0, .nilFunc])
    have z0 := P3.cell 0
    have z1 := P3.cell 1
    have z2 := P3.cell 2
    have z3 := P3.cell 3
    have z4 := P3.cell 4
    have z5 := P3.cell 5
    have z6 := P3.cell 6
    have z7 := P3.cell 7
    have z8 := P3.cell 8
    have HE := Lib.hid (below_setRow (cs := #[.int .i64 0, .string ⟨#[]⟩, .int .i64 0, .int .i64 0, .int .i64 0, .int .i64 0, .nilFunc, .int .i64 0, .nilFunc]) b2 (Nat.le_refl _))
    clear P3
    go_wp2_with (refine wpList_store_row rfl 66 _ _ rfl w.heap.size #[.int .i64 0, .string ⟨#[]⟩, .int .i64 0, .int .i64 0, .int .i64 0, .int .i64 0, .nilFunc, .int .i64 0, .nilFunc] (by rfl) (by rfl) 66 #[.int .i64 0, .string ⟨#[]⟩, .int .i64 0, .int .i64 0, .int .i64 0, .int .i64 0, .nilFunc, .int .i64 0, .nilFunc] R2 (by kernel_rfl) rfl HONE.out ?_)
    exact bodyPost_ret (v := .tuple #[.agg #[.int .i64 0, .string ⟨#[]⟩, .int .i64 0, .int .i64 0, .int .i64 0, .int .i64 0, .nilFunc, .int .i64 0, .nilFunc], .bool false]) (by simp [results, Try.results71, go_sem, z0, z1, z2, z3, z4, z5, z6, z7, z8]) rfl ⟨_, _, rfl, .inr ⟨rfl, HNO.out, rfl⟩, HE.out⟩
end
section
open Go.RowKit
set_option linter.unusedVariables false
set_option linter.unusedSimpArgs false
set_option maxRecDepth 100000 in
set_option maxHeartbeats 4000000 in
theorem leaves_any {n0 : Int} {nm : ByteArray} {vl vh al ah lo : Int} {F M : Value} {a : Option Addr} {n ca : Nat} (v : Int) (w : World) : Calls Try.prog 36 #[.agg #[.int .i64 n0, .string nm, .int .i64 vl, .int .i64 vh, .int .i64 al, .int .i64 ah, F, .int .i64 lo, M], .int .i64 v, .slice a n ca] w fun e w' => e = .returned (.bool (decide (n = 0 ∧ v ≤ lo))) ∧ Below w.heap.size w w' := by
  obtain ⟨c, hc⟩ : ∃ c, decide (n = 0 ∧ v ≤ lo) = c := ⟨_, rfl⟩
  rw [hc]
  obtain ⟨W, hW⟩ : ∃ W, w.alloc (.cells #[.int .i64 n0, .string nm, .int .i64 vl, .int .i64 vh, .int .i64 al, .int .i64 ah, F, .int .i64 lo, M] 66) = W := ⟨_, rfl⟩
  have R0 : Row W w.heap.size 66 #[.int .i64 n0, .string nm, .int .i64 vl, .int .i64 vh, .int .i64 al, .int .i64 ah, F, .int .i64 lo, M] := by rw [← hW]; exact Row.new _ _ _
  have hb : Below w.heap.size w W := by rw [← hW]; exact (Below.refl _ _).alloc (Nat.le_refl _) _
  have c5 := R0.cell 7
  clear R0
  by_cases h0 : n = 0
  · subst h0
    by_cases h1 : v ≤ lo
    · obtain rfl : c = true := by rw [← hc]; exact decide_eq_true ⟨rfl, h1⟩
      clear hc
      go_enter Try.func36, Try.ntmps36
      (try rw [hW])
      go_wp2_with fail
      go_ret
      exact ⟨rfl, hb⟩
    · obtain rfl : c = false := by rw [← hc]; exact decide_eq_false (fun h => h1 h.2)
      clear hc
      go_enter Try.func36, Try.ntmps36
      (try rw [hW])
      go_wp2_with fail
      go_ret
      exact ⟨rfl, hb⟩
  · have h0I : ((n : Int) == 0) = false := by simp; omega
    obtain rfl : c = false := by rw [← hc]; exact decide_eq_false (fun h => h0 h.1)
    clear hc
    go_enter Try.func36, Try.ntmps36
    (try rw [hW])
    go_wp2_with fail
    go_ret
    exact ⟨rfl, hb⟩
set_option maxRecDepth 100000 in
set_option maxHeartbeats 4000000 in
theorem takes1_any {w : World} {g : Nat} (x : Int) (R : Row w g 62 #[.int .i64 (-2147483647), .int .i64 2147483647]) : Calls Try.prog 73 #[.int .i64 x, .pointer (some ⟨g, 0, none⟩)] w fun e w' => e = .returned (.bool (!(decide (-2147483647 ≤ x ∧ x ≤ 2147483647)))) ∧ Below w.heap.size w w' := by
  obtain ⟨c0, c1, _, _⟩ := R.two
  go_enter Try.func73, Try.ntmps73
  go_wp2_with fail
  refine (has_any _ _ x _).mono ?_
  rintro e y1 ⟨rfl, hy⟩
  obtain ⟨t, ht⟩ : ∃ t, hasB (-2147483647) 2147483647 x = t := ⟨_, rfl⟩
  have ht2 : decide (-2147483647 ≤ x ∧ x ≤ 2147483647) = t := ht
  rw [ht]
  go_wp2_with fail
  go_ret
  refine ⟨?_, hy⟩
  rw [ht2]
  try rfl
set_option maxRecDepth 100000 in
set_option maxHeartbeats 4000000 in
theorem indexI_any {F : Nat} {cap : Array Value} {q : Int → Bool} {u : Value} {xs : List Int} {a : Option Addr} {ca : Nat} {w : World} (A : ArgS w u xs a ca) (hx : xs.length ≤ 17592186044416) (heF : ∀ args w, (callFunc F args).run Try.prog w = .ok (.enter F args) w)
    (hdo : ∀ W x, Below w.heap.size w W → Calls Try.prog F (#[.int .i64 x] ++ cap) W fun e w' => e = .returned (.bool (q x)) ∧ Below W.heap.size W w') :
    Calls Try.prog 79 #[u, .func (.func F) #[] cap] w fun e w' => ∃ i : Int, e = .returned (.int .i64 i) ∧ decide (i ≥ 0) = xs.any q ∧ Below w.heap.size w w' := by
  have HA := Lib.hid A
  have HDO := Lib.hid hdo
  obtain rfl := A.is
  obtain ⟨L, hL⟩ : ∃ L, xs.length = L := ⟨_, rfl⟩
  have HL := Lib.hid hL
  rw [hL] at hx ⊢
  clear A hdo hL
  go_enter Try.func79, Try.ntmps79
  go_wp2_with fail
  go_loopw [5, 8] (fun _ i wr => ∃ k : Nat, i = .int .i64 (k : Int) ∧ k ≤ L ∧ (∀ j, j < k → q (xs.getD j 0) = false) ∧ Below w.heap.size w wr) (fun _ i _ => L - (intOf i).toNat)
  case atStart => exact ⟨0, rfl, by omega, fun j hj => by omega, Below.refl _ _⟩
  case round =>
    obtain ⟨k, rfl, hk, hall, hb⟩ := hrel
    have HALL := Lib.hid hall
    clear hall
    by_cases hlt : k < L
    · have hltI : (k : Int) < (L : Int) := by omega
      obtain ⟨b1, o1, rfl, c1⟩ := (HA.out.later hb).at (i := k) (by rw [HL.out]; exact hlt)
      have hmem : xs.getD k 0 ∈ xs := by
        rw [List.getD_eq_getElem?_getD, List.getElem?_eq_getElem (by rw [HL.out]; exact hlt)]
        exact List.getElem_mem _
      obtain ⟨x, hxe⟩ : ∃ x, xs.getD k 0 = x := ⟨_, rfl⟩
      rw [hxe] at c1 hmem
      have HME := Lib.hid hmem
      have HXE := Lib.hid hxe
      have hcall := HDO.out wr x hb
      obtain ⟨t, ht⟩ : ∃ t, q x = t := ⟨_, rfl⟩
      rw [ht] at hcall
      have HTT := Lib.hid ht
      clear ht hxe hmem
      go_wp2_with fail
      refine hcall.mono ?_
      rintro e y1 ⟨rfl, hy⟩
      cases t with
      | true =>
        go_wp2_with fail
        go_ret
        refine ⟨_, rfl, ?_, hb.trans (hy.mono hb.size)⟩
        rw [List.any_eq_true.2 ⟨x, HME.out, HTT.out⟩]
        exact decide_eq_true (by omega)
      | false =>
        go_wp2_with fail
        go_roundw
        case rel =>
          refine ⟨k + 1, by go_num, by omega, fun j hj => ?_, hb.trans (hy.mono hb.size)⟩
          by_cases hjk : j < k
          · exact HALL.out j hjk
          · obtain rfl : j = k := by omega
            rw [HXE.out]
            exact HTT.out
        case measure => simp [intOf]; omega
    · obtain rfl : k = L := by omega
      have hltI : ¬ (k : Int) < (k : Int) := by omega
      go_wp2_with fail
      go_ret
      refine ⟨_, rfl, ?_, hb⟩
      have hany : xs.any q = false := by
        rw [List.any_eq_false]
        intro x hxm
        obtain ⟨j, hj, he⟩ := List.mem_iff_getElem.1 hxm
        have h := HALL.out j (by rw [← HL.out]; exact hj)
        rw [List.getD_eq_getElem?_getD, List.getElem?_eq_getElem hj] at h
        rw [← he]
        simpa using h
      rw [hany]
      rfl
set_option maxRecDepth 100000 in
set_option maxHeartbeats 4000000 in
theorem containsI_any {F : Nat} {cap : Array Value} {q : Int → Bool} {u : Value} {xs : List Int} {a : Option Addr} {ca : Nat} {w : World} (A : ArgS w u xs a ca) (hx : xs.length ≤ 17592186044416) (heF : ∀ args w, (callFunc F args).run Try.prog w = .ok (.enter F args) w)
    (hdo : ∀ W x, Below w.heap.size w W → Calls Try.prog F (#[.int .i64 x] ++ cap) W fun e w' => e = .returned (.bool (q x)) ∧ Below W.heap.size W w') :
    Calls Try.prog 74 #[u, .func (.func F) #[] cap] w fun e w' => e = .returned (.bool (xs.any q)) ∧ Below w.heap.size w w' := by
  have hi := indexI_any A hx heF hdo
  obtain rfl := A.is
  obtain ⟨t, ht⟩ : ∃ t, xs.any q = t := ⟨_, rfl⟩
  rw [ht] at hi ⊢
  go_enter Try.func74, Try.ntmps74
  go_wp2_with fail
  refine hi.mono ?_
  rintro e y1 ⟨i, rfl, hd, hy⟩
  subst hd
  go_wp2_with fail
  go_ret
  exact ⟨rfl, hy⟩
set_option maxRecDepth 100000 in
set_option maxHeartbeats 4000000 in
theorem takes_any {B : Nat} {P : List Int → Bool} {n0 : Int} {nm : ByteArray} {vl vh al ah lo : Int} {F M : Value} {u : Value} {xs : List Int} {a : Option Addr} {ca : Nat} {w : World} (A : ArgS w u xs a ca) (na : a = none → ca = 0) (hx : xs.length ≤ 17592186044416) (hF : FitV B w F P) (hB : B ≤ w.heap.size) :
    Calls Try.prog 62 #[.agg #[.int .i64 n0, .string nm, .int .i64 vl, .int .i64 vh, .int .i64 al, .int .i64 ah, F, .int .i64 lo, M], u] w fun e w' => e = .returned (.bool (bndB xs && P xs)) ∧ Below w.heap.size w w' := by
  have HA := Lib.hid A
  have HFF := Lib.hid hF
  obtain ⟨F1, cap1, rfl, heF, hcF⟩ := id hF
  have HCF := Lib.hid hcF
  obtain rfl := A.is
  obtain ⟨t, ht⟩ : ∃ t, xs.any (fun x => !(decide (-2147483647 ≤ x ∧ x ≤ 2147483647))) = t := ⟨_, rfl⟩
  have htb : bndB xs = !t := by
    rw [← ht]
    unfold bndB
    rw [List.all_eq_not_any_not]
  have hbd : t = false → ∀ x ∈ xs, -2147483647 ≤ x ∧ x ≤ 2147483647 := fun h x hxm => by
    rw [h] at htb
    exact of_decide_eq_true (List.all_eq_true.1 htb x hxm)
  have HT := Lib.hid ht
  have HBD := Lib.hid hbd
  rw [htb]
  obtain ⟨W, hW⟩ : ∃ W, ((w.alloc (.cells #[.int .i64 n0, .string nm, .int .i64 vl, .int .i64 vh, .int .i64 al, .int .i64 ah, .func (.func F1) #[] cap1, .int .i64 lo, M] 66)).alloc (.cells #[.int .i64 (-2147483647), .int .i64 2147483647] 62)) = W := ⟨_, rfl⟩
  have R0 : Row W w.heap.size 66 #[.int .i64 n0, .string nm, .int .i64 vl, .int .i64 vh, .int .i64 al, .int .i64 ah, .func (.func F1) #[] cap1, .int .i64 lo, M] := by rw [← hW]; exact (Row.new _ _ _).alloc _
  have R1 : Row W (w.heap.size + 1) 62 #[.int .i64 (-2147483647), .int .i64 2147483647] := by rw [← hW]; have h := Row.new (w.alloc (.cells #[.int .i64 n0, .string nm, .int .i64 vl, .int .i64 vh, .int .i64 al, .int .i64 ah, .func (.func F1) #[] cap1, .int .i64 lo, M] 66)) 62 #[.int .i64 (-2147483647), .int .i64 2147483647]; (try simp only [World.size_alloc] at h); exact h
  have hbW : Below w.heap.size w W := by rw [← hW]; exact ((Below.refl _ _).alloc (by (try simp) <;> omega) _).alloc (by (try simp) <;> omega) _
  have hcon := containsI_any (w := W) (F := 73) (cap := #[.pointer (some ⟨w.heap.size + 1, 0, none⟩)]) (q := fun x => !(decide (-2147483647 ≤ x ∧ x ≤ 2147483647))) (HA.out.later hbW) hx (fun args w => enters_of Try.func73 (by kernel_rfl) rfl args w) (fun X x hX => takes1_any x (R1.later hX))
  rw [ht] at hcon
  have HCON := Lib.hid hcon
  clear hcF ht htb hbd hF A R1 hcon
  go_enter Try.func62, Try.ntmps62
  (try rw [hW])
  go_wp2_with fail
  (try rw [hW])
  clear hW
  refine (HCON.out).mono ?_
  rintro e y1 ⟨rfl, hy⟩
  have b1 : Below w.heap.size w y1 := hbW.trans (hy.mono hbW.size)
  have c6 := (R0.later hy).cell 6
  cases t with
  | true =>
    go_wp2_with fail
    go_ret
    exact ⟨rfl, b1⟩
  | false =>
    go_wp2_with fail
    refine (HCF.out y1 _ xs a ca (From.of b1) (HA.out.later b1) na hx (HBD.out (by first | rfl | trivial))).mono ?_
    rintro e y2 ⟨rfl, hy2⟩
    go_wp2_with fail
    go_ret
    refine ⟨?_, b1.trans (hy2.mono b1.size)⟩
    simp
end
end Go.Proofs.Ytdcggcfgkhlblaa
