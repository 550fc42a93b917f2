/-
  Results that may be written to: slices of limbs in blocks of the call's own, whatever the limbs.
-/
import Derived.WalkKit
import Derived.Test.YtengpgodmbfmkaaGreatRows
import Derived.OrdersHeld
import Derived.Deep.RegionHeld
import Derived.BigQuiet
import Derived.Deep.QuietTactic
import Derived.Lib.Hide
import Derived.Lib.Small
import Derived.Lib.Walk
import Derived.Lib.BitFns
import Derived.Maps.AppendAt
import Derived.RangeFuncNested
import Derived.RangeFuncBound
import Derived.RangeFuncCalls
import Derived.RangeFuncLeaves
import Derived.Shelf.Abstract
import Derived.OwnWalkIn
import Derived.TacticsInMore
import Derived.LoopNIn
import Derived.LoopIn
import Derived.RangeFuncBox
import Derived.Deep.RegionHeld3
import Derived.OrdersIn
import Derived.StillTailTactics
import Derived.RangeFuncFrom
import Derived.Laws.EntriesVeiled
import Derived.ProofKit
import Derived.OpenShut
import Derived.JoinedCond
import Derived.Carry
import Derived.Laws.AppendOwnNone
import Derived.Lib.ItoaNum
import Derived.Deep.RegionLaw
import Derived.WalkMore
import Derived.Lib.SmallJoins
import Derived.IntWalk
import Derived.Deep.DeepCutAuto
import Derived.Laws.OwnMore
import Derived.ArgAppend
import Derived.Deep.Slices
import Derived.Laws.CopyOwn
import Derived.Lib.SliceRun
import Derived.SizedLaws
import Derived.Deep.AppendLies
namespace Go.Proofs.YtengpgodmbfmkaaGreat
set_option linter.unusedVariables false
set_option linter.unusedSimpArgs false
set_option maxRecDepth 100000
set_option maxHeartbeats 40000000
section
variable {P : Program} {ops : Array Oper} {Q : Exit → Act → World → Prop} {md : Region.Mode} {S : World → Prop}
def Todo (_ : List Nat) (G : Prop) : Prop := G
theorem todo {G : Prop} (is : List Nat) (h : Todo is G) : G := h
theorem todone {G : Prop} (h : G) : Todo [] G := h
theorem todoH {i : Nat} {is : List Nat} {oi : Oper} {v : Value} {fuel : Nat} {listed : Array Bool} {a : Act} {w : World} (hi : ops[i]? = some oi)
 (hk : (Region.noSelect ops && Region.free md ops listed i && (Region.ready md ops listed).contains i) = true)
 (hQ : ∀ c a w, Q (.panic c) (a.put oi.dst v) w → Q (.panic c) a w) (hS : S w) (hy : YieldsIf P ops S oi v a)
 (h : Todo is (wpAnyH P md ops Q S fuel (listed.setIfInBounds i true) (a.put oi.dst v) w)) : Todo (i :: is) (wpAnyH P md ops Q S (fuel + 1) listed a w) := by
 simp only [Bool.and_eq_true] at hk
 exact wpAnyH_take hi hk.1.1 hk.1.2 hk.2 hQ hy hS h
end
section
open Go.RowKit
def noDefer (ops : Array Oper) : Bool := ops.toList.all fun o => match o.op with | .defer _ => false | _ => true
theorem noDefer_spec {ops : Array Oper} (h : noDefer ops = true) {i : Nat} {o : Oper} (ho : ops[i]? = some o) (c : Call) : o.op ≠ .defer c := by
 intro e
 have hm : o ∈ ops.toList := by
  obtain ⟨hi, rfl⟩ := Array.getElem?_eq_some_iff.1 ho
  exact Array.getElem_mem_toList hi
 have := List.all_eq_true.1 h o hm
 rw [e] at this
 cases this
theorem wpIn_of_wp_round {l n : Nat} {P : Program} {o : Oper} {a : Act} {w : World} {K : Act → World → Prop} {Q : Exit → Act → World → Prop} (hnd : ∀ c, o.op ≠ .defer c)
 (h : o.wp P a w K Q) : o.wpIn (Fence.wide.inRound l) n P a w K Q := by
 unfold Oper.wpIn
 refine ⟨fun _ _ => trivial, ?_⟩
 rw [Oper.semAt_eq _ _ _ hnd]
 unfold Oper.wp at h
 generalize (execOp a.eval o).run P w = r at *
 cases r with
 | ok x w' =>
  cases x with
  | value v => exact h
  | skip => exact h
  | defer d => exact h
  | enter f args => exact ⟨(fun h => by cases h), callsIn_wide.2 h⟩
  | row r args => exact ⟨(fun h => by cases h), fun c cs _ => let ⟨v, w', r, s⟩ := h c cs; ⟨v, w', r, stepsIn_wide.2 s⟩⟩
  | _ => exact h.elim
 | halt x w' => cases x <;> exact h
theorem wpAnyIn_of_round {l n : Nat} {P : Program} {md : Region.Mode} {ops : Array Oper} {Q : Exit → Act → World → Prop} (hnd : noDefer ops = true) (hLO : ¬ LetsOut Q) :
 ∀ (fuel : Nat) (listed : Array Bool) (a : Act) (w : World), wpAny P md ops Q fuel listed a w → wpAnyIn (Fence.wide.inRound l) n P md ops Q fuel listed a w
 | 0, _, _, _, h => h
 | fuel + 1, _, _, _, h => ⟨h.1, fun i hi => by
  have h2 := h.2 i hi
  unfold wpOp at h2
  unfold wpOpIn
  split
  · rename_i he
    rw [he] at h2
    exact wpAnyIn_of_round hnd hLO fuel _ _ _ h2
  · rename_i o ho
    simp only [ho] at h2
    split
    · rename_i hw
      simp only [hw, if_true] at h2
      rcases h2 with h2 | h2
      · exact wpIn_of_wp_round (fun c => noDefer_spec hnd ho c) (Oper.wp_mono (fun a w ha => wpAnyIn_of_round hnd hLO fuel _ a w ha) h2)
      · exact absurd h2.2 hLO
    · rename_i hw
      simp only [hw] at h2
      exact ⟨fun _ _ => trivial, wpAnyIn_of_round hnd hLO fuel _ _ _ h2⟩⟩
theorem region_round {l n id : Nat} {P : Program} {ops : Array Oper} {Q : Exit → Act → World → Prop} {a : Act} {w : World} (S : World → Prop) (hm : P.follows .mixedOrders = true) (hnd : noDefer ops = true) (hLO : ¬ LetsOut Q)
 (hS : S w.drew) (h : S w.drew → wpAnyH P .any ops Q S ops.size (Array.replicate ops.size false) a w.drew) : (Code.region id ops true).wpIn (Fence.wide.inRound l) n P Q a w :=
 wpIn_region_any hm (wpAnyIn_of_round hnd hLO _ _ _ _ (wpAny_of_held _ _ _ _ (h hS)))
end
section
open Go.RowKit Go.ChangeShapes Go.WideShapes Go.ChangeAt
theorem own : ownKnob Tryz.prog.godebug = none := by kernel_rfl
theorem cellsLimb : Tryz.prog.cellsOf 144 = 1 := by kernel_rfl
theorem bulk_pos {H : Type} (d : DataW H) : 1 ≤ Rows.uptoBulk d := by
 cases d with
 | lit l => cases l <;> simp [Rows.uptoBulk]
 | _ => simp [Rows.uptoBulk]
theorem bulk_len {H : Type} (l : List (DataW H)) : l.length ≤ Rows.uptoBulkAll l := by
 induction l with
 | nil => simp [Rows.uptoBulkAll]
 | cons x r ih => have := bulk_pos x; simp only [Rows.uptoBulkAll, List.length_cons]; omega
theorem bulk_slice {H : Type} (elems spare : List (DataW H)) : elems.length ≤ Rows.uptoBulk (.slice elems spare) := by
 have h1 := bulk_len elems
 simp only [Rows.uptoBulk]
 omega
theorem wf_limb {x : Int} (h : (Lit.int .u32 x).wf = true) : 0 ≤ x ∧ x < 4294967296 := by
 simp [Lit.wf, IntKind.min, IntKind.max, IntKind.signed, IntKind.bits] at h
 omega
end
section
open Go.RowKit
def Cellz (lo g : Nat) (w : World) (v : Value) : Prop :=
 ∃ ad n cap, v = .slice ad n cap ∧ n ≤ maxLen ∧ (n = 0 ∨ ∃ b cur, ad = some ⟨b, 0, none⟩ ∧ lo ≤ b ∧ b < g ∧ w.heap[b]? = some (.cells cur 144 (0, 0)) ∧ ∀ k, k < n → ∃ z, cur[k]? = some (.int .u32 z))
theorem Cellz.nil (lo g : Nat) (w : World) : Cellz lo g w (.slice none 0 0) := ⟨none, 0, 0, rfl, by unfold maxLen; omega, .inl rfl⟩
theorem Cellz.later {lo g : Nat} {w w' : World} {v : Value} (h : Cellz lo g w v) (hb : Below g w w') : Cellz lo g w' v := by
 obtain ⟨ad, n, cap, rfl, hm, h⟩ := h
 refine ⟨ad, n, cap, rfl, hm, ?_⟩
 rcases h with h | ⟨b, cur, rfl, h1, h2, h3, h4⟩
 · exact .inl h
 · exact .inr ⟨b, cur, rfl, h1, h2, (hb.block b h2).trans h3, h4⟩
theorem Cellz.mono {lo g g' : Nat} {w : World} {v : Value} (h : Cellz lo g w v) (hg : g ≤ g') : Cellz lo g' w v := by
 obtain ⟨ad, n, cap, rfl, hm, h⟩ := h
 refine ⟨ad, n, cap, rfl, hm, ?_⟩
 rcases h with h | ⟨b, cur, rfl, h1, h2, h3, h4⟩
 · exact .inl h
 · exact .inr ⟨b, cur, rfl, h1, by omega, h3, h4⟩
theorem Cellz.next {lo : Nat} {w w' : World} {v : Value} (h : Cellz lo w.heap.size w v) (hb : Below w.heap.size w w') : Cellz lo w'.heap.size w' v := (h.later hb).mono hb.size
theorem Cellz.set {lo g : Nat} {w : World} {v : Value} (h : Cellz lo g w v) (b' k' : Nat) (z' : Int) : Cellz lo g (w.setCell ⟨b', k', none⟩ (.int .u32 z')) v := by
 obtain ⟨ad, n, cap, rfl, hm, h⟩ := h
 refine ⟨ad, n, cap, rfl, hm, ?_⟩
 rcases h with h | ⟨b, cur, rfl, h1, h2, h3, h4⟩
 · exact .inl h
 · by_cases e : b = b'
   · subst e
     refine .inr ⟨b, _, rfl, h1, h2, heap_setCell_same w b k' cur 144 (.int .u32 z') h3, fun k hk => ?_⟩
     obtain ⟨z, hz⟩ := h4 k hk
     rw [Array.getElem?_setIfInBounds]
     by_cases ek : k' = k
     · subst ek
       rw [if_pos rfl, if_pos (Array.getElem?_eq_some_iff.1 hz).1]
       exact ⟨z', rfl⟩
     · rw [if_neg ek]
       exact ⟨z, hz⟩
   · exact .inr ⟨b, cur, rfl, h1, h2, (Below.heap_setCell _ _ _ _ e).trans h3, h4⟩
end
section
open Go.RowKit Go.ChangeShapes Go.WideShapes Go.ChangeAt Go.Joins
theorem cellsRat : Tryz.prog.cellsOf 54 = 3 := by kernel_rfl
end
section
def prodS : List Int → Int
 | [] => 1
 | d :: ds => d * prodS ds
def posS (s : List Int) : Prop := ∀ x ∈ s, 1 ≤ x
theorem posS.tail {d : Int} {ds : List Int} (h : posS (d :: ds)) : posS ds := fun x hx => h x (List.mem_cons_of_mem _ hx)
theorem posS.head {d : Int} {ds : List Int} (h : posS (d :: ds)) : 1 ≤ d := h d (List.mem_cons_self ..)
theorem posS.drop {s : List Int} (h : posS s) (n : Nat) : posS (s.drop n) := fun x hx => h x (List.mem_of_mem_drop hx)
theorem posS.take {s : List Int} (h : posS s) (n : Nat) : posS (s.take n) := fun x hx => h x (List.mem_of_mem_take hx)
theorem posS.getD {s : List Int} (h : posS s) {i : Nat} (hi : i < s.length) : 1 ≤ s.getD i 0 := by
 rw [List.getD_eq_getElem?_getD, List.getElem?_eq_getElem hi]; exact h _ (List.getElem_mem hi)
theorem prodS_pos {s : List Int} (h : posS s) : 1 ≤ prodS s := by
 induction s with
 | nil => exact Int.le_refl _
 | cons d ds ih =>
  have h1 := h.head
  have h2 := ih h.tail
  have h3 := Int.mul_le_mul h1 h2 (by omega) (by omega)
  unfold prodS
  omega
theorem prodS_append (a b : List Int) : prodS (a ++ b) = prodS a * prodS b := by
 induction a with
 | nil => simp [prodS]
 | cons x xs ih => rw [List.cons_append]; simp only [prodS]; rw [ih, Int.mul_assoc]
theorem prodS_take {s : List Int} {k : Nat} (hk : k < s.length) : prodS (s.take (k + 1)) = prodS (s.take k) * s.getD k 0 := by
 rw [List.take_add_one, List.getElem?_eq_getElem hk, prodS_append, Option.toList_some]
 simp [prodS, List.getD_eq_getElem?_getD, List.getElem?_eq_getElem hk]
theorem prodS_drop {s : List Int} {k : Nat} (hk : k < s.length) : prodS (s.drop k) = s.getD k 0 * prodS (s.drop (k + 1)) := by
 rw [List.drop_eq_getElem_cons hk]
 simp [prodS, List.getD_eq_getElem?_getD, List.getElem?_eq_getElem hk]
theorem prodS_split (s : List Int) (k : Nat) : prodS s = prodS (s.take k) * prodS (s.drop k) := by rw [← prodS_append, List.take_append_drop]
theorem prodS_take_le {s : List Int} (h : posS s) (k : Nat) : prodS (s.take k) ≤ prodS s := by
 have h1 := prodS_pos (h.take k)
 have h2 := prodS_pos (h.drop k)
 rw [prodS_split s k]
 have := Int.mul_le_mul_of_nonneg_left h2 (show 0 ≤ prodS (s.take k) by omega)
 omega
theorem getD_le_prod {s : List Int} (h : posS s) {k : Nat} (hk : k < s.length) : s.getD k 0 ≤ prodS s := by
 have h1 := prodS_pos (h.take k)
 have h2 := prodS_take_le h (k + 1)
 have h3 := h.getD hk
 rw [prodS_take hk] at h2
 have := Int.mul_le_mul_of_nonneg_right h1 (show 0 ≤ s.getD k 0 by omega)
 omega
def mayC (s : List Int) : Int := if 4 < s.length then 14 else if s.any (fun x => decide (x < 1)) = true then 13 else if 1024 < prodS s then 14 else 0
theorem any_pos (s : List Int) : s.any (fun x => decide (x < 1)) = true ↔ ¬ posS s := by
 rw [List.any_eq_true]
 unfold posS
 constructor
 · intro ⟨x, hx, h⟩ hp
   have := hp x hx
   simp at h
   omega
 · intro h
   apply Classical.byContradiction
   intro hn
   apply h
   intro x hx
   rcases Int.lt_or_le x 1 with g | g
   · exact absurd ⟨x, hx, by simpa using g⟩ hn
   · exact g
structure OkS (s : List Int) : Prop where
 rank : s.length ≤ 4
 pos : posS s
 few : prodS s ≤ 1024
theorem mayC_zero {s : List Int} : mayC s = 0 ↔ OkS s := by
 unfold mayC
 constructor
 · intro h
   split at h
   · cases h
   · split at h
     · cases h
     · next h1 h2 =>
       split at h
       · cases h
       · rw [any_pos, Classical.not_not] at h2
         exact ⟨by omega, h2, by omega⟩
 · intro h
   rw [if_neg (by have := h.rank; omega), if_neg (by rw [any_pos, Classical.not_not]; exact h.pos), if_neg (by have := h.few; omega)]
theorem mayC_ok {s : List Int} (h : OkS s) : mayC s = 0 := mayC_zero.2 h
theorem mayC_rank {s : List Int} (h : 4 < s.length) : mayC s = 14 := by unfold mayC; rw [if_pos h]
theorem mayC_dim {s : List Int} (h : s.length ≤ 4) (h2 : ¬ posS s) : mayC s = 13 := by unfold mayC; rw [if_neg (by omega), if_pos ((any_pos s).2 h2)]
theorem mayC_count {s : List Int} (h : s.length ≤ 4) (h2 : posS s) (h3 : 1024 < prodS s) : mayC s = 14 := by unfold mayC; rw [if_neg (by omega), if_neg (by rw [any_pos, Classical.not_not]; exact h2), if_pos h3]
theorem OkS.nil : OkS [] := ⟨by simp, (fun x h => by cases h), by simp [prodS]⟩
def countS (s : List Int) : Int := if mayC s = 0 then prodS s else 0
theorem OkS.count {s : List Int} (h : OkS s) : countS s = prodS s := by unfold countS; rw [if_pos (mayC_ok h)]
theorem count_bad {s : List Int} (h : mayC s ≠ 0) : countS s = 0 := by unfold countS; rw [if_neg h]
def idxS : List Int → Int → List Int
 | [], _ => []
 | _ :: ds, n => n / prodS ds :: idxS ds (n % prodS ds)
def placeS : List Int → List Int → Int
 | _ :: ds, x :: xs => x * prodS ds + placeS ds xs
 | _, _ => 0
def inS : List Int → List Int → Prop
 | [], [] => True
 | d :: ds, x :: xs => (0 ≤ x ∧ x < d) ∧ inS ds xs
 | _, _ => False
instance inS.dec : (s xs : List Int) → Decidable (inS s xs)
 | [], [] => .isTrue trivial
 | d :: ds, x :: xs => by unfold inS; exact @instDecidableAnd _ _ _ (inS.dec ds xs)
 | [], _ :: _ => .isFalse id
 | _ :: _, [] => .isFalse id
theorem inS_length {s xs : List Int} (h : inS s xs) : xs.length = s.length := by
 induction s generalizing xs with
 | nil => cases xs with
  | nil => rfl
  | cons => exact h.elim
 | cons d ds ih => cases xs with
  | nil => exact h.elim
  | cons x xs => simp only [List.length_cons]; rw [ih h.2]
theorem inS_at {s xs : List Int} (h : inS s xs) {i : Nat} (hi : i < s.length) : 0 ≤ xs.getD i 0 ∧ xs.getD i 0 < s.getD i 0 := by
 induction s generalizing xs i with
 | nil => simp at hi
 | cons d ds ih => cases xs with
  | nil => exact h.elim
  | cons x xs => cases i with
   | zero => simpa using h.1
   | succ i => simpa using ih h.2 (i := i) (by simpa using hi)
theorem inS_of {s xs : List Int} (hl : xs.length = s.length) (h : ∀ i, i < s.length → 0 ≤ xs.getD i 0 ∧ xs.getD i 0 < s.getD i 0) : inS s xs := by
 induction s generalizing xs with
 | nil =>
  obtain rfl := List.eq_nil_of_length_eq_zero hl
  trivial
 | cons d ds ih => cases xs with
  | nil => simp at hl
  | cons x xs =>
   refine ⟨by simpa using h 0 (by simp), ih (by simpa using hl) fun i hi => ?_⟩
   simpa using h (i + 1) (by simpa using hi)
theorem place_range {s xs : List Int} (h : inS s xs) : 0 ≤ placeS s xs ∧ placeS s xs < prodS s := by
 induction s generalizing xs with
 | nil => cases xs with
  | nil => simp [placeS, prodS]
  | cons => exact h.elim
 | cons d ds ih => cases xs with
  | nil => exact h.elim
  | cons x xs =>
   obtain ⟨⟨h0, h1⟩, h2⟩ := h
   obtain ⟨h3, h4⟩ := ih h2
   simp only [placeS, prodS]
   have e1 := Int.mul_nonneg h0 (show 0 ≤ prodS ds by omega)
   have e2 := Int.mul_le_mul_of_nonneg_right (show x + 1 ≤ d by omega) (show 0 ≤ prodS ds by omega)
   rw [Int.add_mul, Int.one_mul] at e2
   omega
theorem idx_place {s xs : List Int} (h : inS s xs) : idxS s (placeS s xs) = xs := by
 induction s generalizing xs with
 | nil => cases xs with
  | nil => rfl
  | cons => exact h.elim
 | cons d ds ih => cases xs with
  | nil => exact h.elim
  | cons x xs =>
   obtain ⟨_, h2⟩ := h
   obtain ⟨h3, h4⟩ := place_range h2
   simp only [placeS, idxS]
   have e1 : (x * prodS ds + placeS ds xs) / prodS ds = x := by
    rw [Int.add_comm, Int.add_mul_ediv_right _ _ (by omega), Int.ediv_eq_zero_of_lt h3 h4]; omega
   have e2 : (x * prodS ds + placeS ds xs) % prodS ds = placeS ds xs := by
    rw [Int.add_comm, Int.add_mul_emod_self_right, Int.emod_eq_of_lt h3 h4]
   rw [e1, e2, ih h2]
theorem idx_length (s : List Int) (n : Int) : (idxS s n).length = s.length := by
 induction s generalizing n with
 | nil => rfl
 | cons d ds ih => simp [idxS, ih]
theorem place_idx {s : List Int} (hp : posS s) {n : Int} (h0 : 0 ≤ n) (h1 : n < prodS s) : inS s (idxS s n) ∧ placeS s (idxS s n) = n := by
 induction s generalizing n with
 | nil => simp only [prodS] at h1; exact ⟨trivial, by simp [placeS]; omega⟩
 | cons d ds ih =>
  have hP := prodS_pos hp.tail
  simp only [prodS] at h1
  have m0 := Int.emod_nonneg n (show prodS ds ≠ 0 by omega)
  have m1 := Int.emod_lt_of_pos n (show 0 < prodS ds by omega)
  obtain ⟨i1, i2⟩ := ih hp.tail m0 m1
  simp only [idxS, placeS, inS]
  refine ⟨⟨⟨Int.ediv_nonneg h0 (by omega), Int.ediv_lt_of_lt_mul (by omega) h1⟩, i1⟩, ?_⟩
  rw [i2, Int.mul_comm]
  exact Int.mul_ediv_add_emod n (prodS ds)
end
section
open Go.RowKit
theorem belowS_drew (B : Nat) (w : World) (n : Nat) : Below B w (w.drewN n) := ⟨rfl, rfl, rfl, Nat.le_refl _, fun _ _ => rfl⟩
theorem take_all {xs : List Int} {n : Nat} (h : xs.length = n) : xs.take n = xs := List.take_of_length_le (by omega)
theorem getD_some {xs : List Int} {k : Nat} (h : k < xs.length) : xs[k]? = some (xs.getD k 0) := by rw [List.getD_eq_getElem?_getD, List.getElem?_eq_getElem h]; rfl
theorem take_next {xs : List Int} {k : Nat} (h : k < xs.length) : xs.take (k + 1) = xs.take k ++ [xs.getD k 0] := by rw [List.take_add_one, getD_some h]; rfl
def backS (s : List Int) (k : Nat) : Int := if s.length < k then 0 else s.getD (s.length - k) 0
end
section
open Go.RowKit
def fitU (f t : List Int) (k : Nat) : Prop := ∀ j, 1 ≤ j → j ≤ k → backS t j ≠ 0 ∧ (backS f j = 1 ∨ backS f j = backS t j)
instance fitU_dec (f t : List Int) (k : Nat) : Decidable (fitU f t k) := decidable_of_iff (∀ j, j < k + 1 → 1 ≤ j → backS t j ≠ 0 ∧ (backS f j = 1 ∨ backS f j = backS t j))
 ⟨fun h j h1 h2 => h j (by omega) h1, fun h j h1 h2 => h j h2 (by omega)⟩
end
section
open Go.RowKit
def dropL (s axes : List Int) : Nat → List Int
 | 0 => []
 | j + 1 => dropL s axes j ++ (if (j : Int) ∈ axes then [] else [s.getD j 0])
def dropS (s axes : List Int) : List Int := dropL s axes s.length
def onesL (s axes : List Int) : Nat → List Int
 | 0 => []
 | j + 1 => onesL s axes j ++ [if (j : Int) ∈ axes then 1 else s.getD j 0]
def onesS (s axes : List Int) : List Int := onesL s axes s.length
theorem dropL_le (s axes : List Int) (j : Nat) : (dropL s axes j).length ≤ j := by
 induction j with
 | zero => simp [dropL]
 | succ j ih =>
  simp only [dropL, List.length_append]
  by_cases h : (j : Int) ∈ axes
  · rw [if_pos h]; simp only [List.length_nil]; omega
  · rw [if_neg h]; simp only [List.length_cons, List.length_nil]; omega
theorem onesL_len (s axes : List Int) (j : Nat) : (onesL s axes j).length = j := by
 induction j with
 | zero => rfl
 | succ j ih => simp only [onesL, List.length_append, ih]; rfl
end
section
def idxC (s : List Int) (n : Int) : Int := if mayC s ≠ 0 then mayC s else if n < 0 ∨ countS s ≤ n then 21 else 0
def idxV (s : List Int) (n : Int) : List Int := if idxC s n = 0 then idxS s n else []
theorem idxC_may {s : List Int} {n : Int} (h : mayC s ≠ 0) : idxC s n = mayC s := by unfold idxC; rw [if_pos h]
theorem idxC_out {s : List Int} {n : Int} (h : mayC s = 0) (h2 : n < 0 ∨ countS s ≤ n) : idxC s n = 21 := by unfold idxC; rw [if_neg (by rw [h]; simp), if_pos h2]
theorem idxC_in {s : List Int} {n : Int} (h : mayC s = 0) (h2 : 0 ≤ n) (h3 : n < prodS s) : idxC s n = 0 := by
 unfold idxC
 rw [if_neg (by rw [h]; simp), if_neg (by rw [(mayC_zero.1 h).count]; omega)]
theorem idxV_in {s : List Int} {n : Int} (h : idxC s n = 0) : idxV s n = idxS s n := by unfold idxV; rw [if_pos h]
theorem idxV_bad {s : List Int} {n : Int} (h : idxC s n ≠ 0) : idxV s n = [] := by unfold idxV; rw [if_neg h]
def invL (p : List Int) : List Int := (List.range p.length).map fun i : Nat => (p.idxOf (i : Int) : Int)
end
section
theorem perm_of_all {p q : List Int} (hq : q.Nodup) (hs : ∀ x, x ∈ q → x ∈ p) (hl : p.length ≤ q.length) : p.Perm q := by
 induction q generalizing p with
 | nil =>
  obtain rfl := List.eq_nil_of_length_eq_zero (show p.length = 0 by simpa using hl)
  exact List.Perm.refl _
 | cons a q ih =>
  obtain ⟨l1, l2, rfl⟩ := List.append_of_mem (hs a (List.mem_cons_self ..))
  rw [List.nodup_cons] at hq
  have h2 := ih (p := l1 ++ l2) hq.2 (fun x hx => by
   have := hs x (List.mem_cons_of_mem _ hx)
   have hne : x ≠ a := fun e => hq.1 (e ▸ hx)
   rcases List.mem_append.1 this with h | h
   · exact List.mem_append.2 (.inl h)
   · rcases List.mem_cons.1 h with h | h
     · exact absurd h hne
     · exact List.mem_append.2 (.inr h)) (by simp only [List.length_append, List.length_cons] at hl ⊢; omega)
  exact (List.perm_middle).trans (List.Perm.cons a h2)
def upS (n : Nat) : List Int := (List.range n).map fun i : Nat => (i : Int)
theorem upS_length (n : Nat) : (upS n).length = n := by simp [upS]
theorem mem_upS {n : Nat} {x : Int} : x ∈ upS n ↔ 0 ≤ x ∧ x < n := by
 unfold upS
 rw [List.mem_map]
 constructor
 · rintro ⟨i, hi, rfl⟩
   rw [List.mem_range] at hi
   omega
 · intro h
   exact ⟨x.toNat, List.mem_range.2 (by omega), by omega⟩
structure IsPerm (p : List Int) : Prop where
 nodup : p.Nodup
 mem : ∀ x, x ∈ p ↔ 0 ≤ x ∧ x < p.length
theorem invL_length (p : List Int) : (invL p).length = p.length := by simp [invL]
theorem invL_at (p : List Int) {i : Nat} (h : i < p.length) : (invL p).getD i 0 = (p.idxOf (i : Int) : Int) := by
 unfold invL
 rw [List.getD_eq_getElem?_getD, List.getElem?_map, List.getElem?_range h]; rfl
theorem getD_elem {p : List Int} {i : Nat} (h : i < p.length) : p.getD i 0 = p[i] := by simp [List.getD_eq_getElem?_getD, List.getElem?_eq_getElem h]
theorem IsPerm.back {p : List Int} (h : IsPerm p) {i : Nat} (hi : i < p.length) : (0 ≤ p.getD i 0 ∧ p.getD i 0 < p.length) ∧ (invL p).getD (p.getD i 0).toNat 0 = (i : Int) := by
 have hm := (h.mem (p.getD i 0)).1 (by rw [getD_elem hi]; exact List.getElem_mem hi)
 refine ⟨hm, ?_⟩
 rw [invL_at p (by omega), show (((p.getD i 0).toNat : Nat) : Int) = p.getD i 0 by omega, getD_elem hi, h.nodup.idxOf_getElem]
theorem back_pos {s : List Int} (ok : OkS s) {k : Nat} (h1 : 1 ≤ k) (h2 : k ≤ s.length) : 1 ≤ backS s k := by
 unfold backS
 rw [if_neg (by omega)]
 exact ok.pos.getD (by omega)
theorem ones_len (s axes : List Int) : (onesS s axes).length = s.length := onesL_len s axes s.length
theorem prod_two (s axes : List Int) (ps : posS s) (j : Nat) (hj : j ≤ s.length) : prodS (dropL s axes j) = prodS (onesL s axes j) ∧ prodS (onesL s axes j) ≤ prodS (s.take j) ∧ posS (onesL s axes j) ∧ posS (dropL s axes j) := by
 induction j with
 | zero => exact ⟨rfl, by simp [onesL, prodS], (fun x h => by simp [onesL] at h), (fun x h => by simp [dropL] at h)⟩
 | succ j ih =>
  obtain ⟨h1, h2, h3, h4⟩ := ih (by omega)
  have hx := ps.getD (i := j) (by omega)
  have p1 := prodS_pos h3
  simp only [onesL, dropL]
  rw [prodS_take (by omega), prodS_append, prodS_append]
  by_cases hm : (j : Int) ∈ axes
  · rw [if_pos hm, if_pos hm]
    simp only [prodS, Int.mul_one]
    have := Int.mul_le_mul_of_nonneg_left hx (show 0 ≤ prodS (s.take j) by have := prodS_pos (ps.take j); omega)
    refine ⟨h1, by omega, fun x h => ?_, fun x h => h4 x (by simpa using h)⟩
    rcases List.mem_append.1 h with h | h
    · exact h3 x h
    · rw [List.mem_singleton.1 h]; omega
  · rw [if_neg hm, if_neg hm]
    simp only [prodS, Int.mul_one]
    refine ⟨by rw [h1], Int.mul_le_mul_of_nonneg_right h2 (by omega), fun x h => ?_, fun x h => ?_⟩
    · rcases List.mem_append.1 h with h | h
      · exact h3 x h
      · rw [List.mem_singleton.1 h]; exact hx
    · rcases List.mem_append.1 h with h | h
      · exact h4 x h
      · rw [List.mem_singleton.1 h]; exact hx
theorem drop_ok {s : List Int} (axes : List Int) (h : OkS s) : OkS (dropS s axes) := by
 obtain ⟨h1, h2, _, h4⟩ := prod_two s axes h.pos s.length (Nat.le_refl _)
 rw [take_all rfl] at h2
 exact ⟨by have := dropL_le s axes s.length; have := h.rank; unfold dropS; omega, h4, by have := h.few; unfold dropS; omega⟩
end
section
open Go.RowKit
theorem back_to {t : List Int} {k : Nat} (h : k < t.length) : backS t (t.length - k) = t.getD k 0 := by
 unfold backS
 rw [if_neg (by omega), show t.length - (t.length - k) = k by omega]
theorem back_in {f t : List Int} {k : Nat} (hl : f.length ≤ t.length) (hk : k < t.length) (h : t.length - f.length ≤ k) : backS f (t.length - k) = f.getD (k - (t.length - f.length)) 0 := by
 unfold backS
 rw [if_neg (by omega), show f.length - (t.length - k) = k - (t.length - f.length) by omega]
def fitP (f t : List Int) (k : Nat) : Prop := ∀ i, i < k → t.length - f.length ≤ i → f.getD (i - (t.length - f.length)) 0 = t.getD i 0 ∨ f.getD (i - (t.length - f.length)) 0 = 1
theorem fitP.next {f t : List Int} {k : Nat} (h : fitP f t k) (h2 : t.length - f.length ≤ k → f.getD (k - (t.length - f.length)) 0 = t.getD k 0 ∨ f.getD (k - (t.length - f.length)) 0 = 1) : fitP f t (k + 1) := by
 intro i hi h3
 by_cases e : i = k
 · subst e; exact h2 h3
 · exact h i (by omega) h3
theorem fitP.all {f t : List Int} (ok : OkS t) (hl : f.length ≤ t.length) (h : fitP f t t.length) : fitU f t f.length := by
 intro j j1 j2
 refine ⟨by have := back_pos ok j1 (by omega); omega, ?_⟩
 have h3 := h (t.length - j) (by omega) (by omega)
 have e1 : backS f j = f.getD (t.length - j - (t.length - f.length)) 0 := by
  rw [← back_in hl (by omega) (by omega)]; congr 1; omega
 have e2 : backS t j = t.getD (t.length - j) 0 := by
  rw [← back_to (by omega)]; congr 1; omega
 rw [e1, e2]
 omega
theorem fitU.at {f t : List Int} (hl : f.length ≤ t.length) (h : fitU f t f.length) {k : Nat} (hk : k < t.length) (h2 : t.length - f.length ≤ k) : f.getD (k - (t.length - f.length)) 0 = t.getD k 0 ∨ f.getD (k - (t.length - f.length)) 0 = 1 := by
 have h3 := (h (t.length - k) (by omega) (by omega)).2
 rw [back_in hl hk h2, back_to hk] at h3
 omega
end
section
open Go.RowKit
variable {P : Program} {ops : Array Oper} {Q : Exit → Act → World → Prop} {md : Region.Mode} {S : World → Prop} {z : Nat}
def wpAnyL (P : Program) (md : Region.Mode) (ops : Array Oper) (Q : Exit → Act → World → Prop) (S : World → Prop) (z : Nat) : Nat → Array Bool → Act → World → Prop
 | 0, listed, a, w => Region.ready md ops listed = [] ∧ Q .normal a w
 | fuel + 1, listed, a, w =>
  (Region.ready md ops listed = [] → Q .normal a w) ∧
  ∀ i ∈ Region.ready md ops listed, wpOp P ops Q i (fun a' w' => (i ≠ z → S w') ∧ wpAnyL P md ops Q S z fuel (listed.setIfInBounds i true) a' w') a w
theorem wpAny_of_L : ∀ (fuel : Nat) (listed : Array Bool) (a : Act) (w : World), wpAnyL P md ops Q S z fuel listed a w → wpAny P md ops Q fuel listed a w
 | 0, _, _, _, h => h
 | fuel + 1, _, _, _, h => ⟨h.1, fun i hi => wpOp_mono (fun a' w' h' => wpAny_of_L fuel _ a' w' h'.2) (h.2 i hi)⟩
def waitsB (md : Region.Mode) (ops : Array Oper) (z i : Nat) : Bool := match ops[z]? with
 | some o => o.after.toList.any fun e => Region.binds md e && decide (e.on = i)
 | none => false
theorem waits_spec {z i : Nat} (h : waitsB md ops z i = true) : ∀ o, ops[z]? = some o → ∃ e ∈ o.after, Region.binds md e = true ∧ e.on = i := by
 intro o ho
 unfold waitsB at h
 rw [ho] at h
 obtain ⟨e, he, h2⟩ := List.any_eq_true.1 h
 rw [Bool.and_eq_true, decide_eq_true_iff] at h2
 exact ⟨e, Array.mem_toList_iff.1 he, h2⟩
theorem wpAnyL_first {i : Nat} {oi : Oper} {v : Value} (hi : ops[i]? = some oi) (hsel : ∀ (j : Nat) (o : Oper) cs b, ops[j]? = some o → o.op ≠ .select cs b)
 (hQ : ∀ c a w, Q (.panic c) (a.put oi.dst v) w → Q (.panic c) a w) (hz : ∀ o, ops[z]? = some o → ∃ e ∈ o.after, Region.binds md e = true ∧ e.on = i) :
 ∀ (fuel : Nat) (listed : Array Bool) (a : Act) (w : World),
  (∀ j oj, ops[j]? = some oj → j ≠ i → listed.getD j true = false → (∀ e ∈ oj.after, Region.binds md e = true → e.on ≠ i) → oi.apart ops oj = true) →
  i ∈ Region.ready md ops listed → YieldsIf P ops S oi v a → S w →
  wpAnyL P md ops Q S z fuel (listed.setIfInBounds i true) (a.put oi.dst v) w → wpAnyL P md ops Q S z (fuel + 1) listed a w := by
 intro fuel
 induction fuel with
 | zero =>
  intro listed a w _ hr hy hS H
  refine ⟨fun h => (by rw [h] at hr; cases hr), fun j hj => ?_⟩
  by_cases hji : j = i
  · subst hji; exact hy.wpOp hi hS ⟨fun _ => hS, H⟩
  · have := ready_mono hj hji
    rw [H.1] at this
    cases this
 | succ fuel ih =>
  intro listed a w hfree hr hy hS H
  refine ⟨fun h => (by rw [h] at hr; cases hr), fun j hj => ?_⟩
  by_cases hji : j = i
  · subst hji; exact hy.wpOp hi hS ⟨fun _ => hS, H⟩
  · have h1 := H.2 j (ready_mono hj hji)
    obtain ⟨hjun, oj, hoj, hall⟩ := mem_ready.1 hj
    have hnot : ∀ e ∈ oj.after, Region.binds md e = true → e.on ≠ i := fun e he hb heq => by
     have h1 := hall e he hb
     have h0 := (mem_ready.1 hr).1
     rw [heq] at h1
     rcases Nat.lt_or_ge i listed.size with h' | h'
     · simp [h'] at h0 h1; rw [h0] at h1; cases h1
     · simp [Array.getElem?_eq_none h'] at h1
    have hjz : j ≠ z := fun e => by
     subst e
     obtain ⟨e, he, hb, hon⟩ := hz oj hoj
     exact hnot e he hb hon
    have h2 := wpOp_putIf hoj (hfree j oj hoj hji hjun hnot) (fun cs b => hsel i oi cs b hi) (fun cs b => hsel j oj cs b hoj) hQ hy h1
    have hfree' : ∀ k ok, ops[k]? = some ok → k ≠ i → (listed.setIfInBounds j true).getD k true = false →
     (∀ e ∈ ok.after, Region.binds md e = true → e.on ≠ i) → oi.apart ops ok = true := fun k ok hk hki hun hno => by
     refine hfree k ok hk hki ?_ hno
     by_cases hjk : j = k
     · subst hjk; exact hjun
     · rw [getD_set_ne true hjk] at hun; exact hun
    refine wpOp_mono (fun a' w' h3 => ⟨fun _ => h3.2.1 hjz, ih (listed.setIfInBounds j true) a' w' hfree' (ready_mono hr (Ne.symm hji)) h3.1 (h3.2.1 hjz) ?_⟩) h2
    rw [Array.setIfInBounds_comm _ _ hji]
    exact h3.2.2
theorem wpAnyL_take {i : Nat} {oi : Oper} {v : Value} {fuel : Nat} {listed : Array Bool} {a : Act} {w : World} (hi : ops[i]? = some oi)
 (hs : Region.noSelect ops = true) (hf : Region.free md ops listed i = true) (hr : (Region.ready md ops listed).contains i = true) (hz : waitsB md ops z i = true)
 (hQ : ∀ c a w, Q (.panic c) (a.put oi.dst v) w → Q (.panic c) a w) (hy : YieldsIf P ops S oi v a) (hS : S w)
 (h : wpAnyL P md ops Q S z fuel (listed.setIfInBounds i true) (a.put oi.dst v) w) : wpAnyL P md ops Q S z (fuel + 1) listed a w :=
 wpAnyL_first hi (Region.noSelect_spec hs) hQ (waits_spec hz) fuel listed a w (Region.free_spec hi hf) (by simpa using hr) hy hS h
theorem wpAnyL_one {i : Nat} {o : Oper} {fuel : Nat} {listed : Array Bool} {a : Act} {w : World} (hr : Region.ready md ops listed = [i]) (ho : ops[i]? = some o)
 (h : ∀ K' : Act → World → Prop, Shut (∀ a w, (i ≠ z → S w) → ((i ≠ z → S w) → wpAnyL P md ops Q S z fuel (listed.setIfInBounds i true) a w) → K' a w) → if Region.wanted o (yielded ops a.tmps) = true then Oper.wp P o a w K' Q else K' (a.put o.dst undef) w) :
 wpAnyL P md ops Q S z (fuel + 1) listed a w := by
 refine ⟨fun h0 => (by rw [hr] at h0; cases h0), fun j hj => ?_⟩
 rw [hr, List.mem_singleton] at hj
 subst hj
 exact wpOp_step ho (fun K' hK => h K' (fun a w hS hW => hK a w ⟨hS, hW hS⟩))
theorem wpAnyL_done {listed : Array Bool} {a : Act} {w : World} (hr : Region.ready md ops listed = []) (h : Q .normal a w) :
 ∀ fuel, wpAnyL P md ops Q S z fuel listed a w
 | 0 => ⟨hr, h⟩
 | _ + 1 => ⟨fun _ => h, by rw [hr]; simp⟩
theorem wp_region_L {id : Nat} {a : Act} {w : World} (S : World → Prop) (z : Nat) (hm : P.follows .mixedOrders = true) (hS : S w.drew)
 (h : S w.drew → wpAnyL P .any ops Q S z ops.size (Array.replicate ops.size false) a w.drew) : (Code.region id ops true).wp P Q a w :=
 wp_region_any hm (wpAny_of_L _ _ _ _ (h hS))
theorem todoL {i : Nat} {is : List Nat} {oi : Oper} {v : Value} {fuel : Nat} {listed : Array Bool} {a : Act} {w : World} (hi : ops[i]? = some oi)
 (hk : (Region.noSelect ops && Region.free md ops listed i && (Region.ready md ops listed).contains i && waitsB md ops z i) = true)
 (hQ : ∀ c a w, Q (.panic c) (a.put oi.dst v) w → Q (.panic c) a w) (hS : S w) (hy : YieldsIf P ops S oi v a)
 (h : Todo is (wpAnyL P md ops Q S z fuel (listed.setIfInBounds i true) (a.put oi.dst v) w)) : Todo (i :: is) (wpAnyL P md ops Q S z (fuel + 1) listed a w) := by
 simp only [Bool.and_eq_true] at hk
 exact wpAnyL_take hi hk.1.1.1 hk.1.1.2 hk.1.2 hk.2 hQ hy hS h
end
section
theorem posS.ok {s : List Int} (h : OkS s) : posS s := h.pos
theorem getD_map_range {n : Nat} (f : Nat → Int) {i : Nat} (h : i < n) : ((List.range n).map f).getD i 0 = f i := by
 simp [List.getD_eq_getElem?_getD, h]
theorem list_eq_getD {a b : List Int} (hl : a.length = b.length) (h : ∀ i, i < a.length → a.getD i 0 = b.getD i 0) : a = b := by
 apply List.ext_getElem hl
 intro i g1 g2
 have := h i g1
 simpa [List.getD_eq_getElem?_getD, g1, g2] using this
def trI (p xs : List Int) : List Int := (List.range p.length).map fun n : Nat => xs.getD (p.idxOf (n : Int)) 0
theorem trI_len (p xs : List Int) : (trI p xs).length = p.length := by simp [trI]
theorem trI_at (p xs : List Int) {n : Nat} (h : n < p.length) : (trI p xs).getD n 0 = xs.getD (p.idxOf (n : Int)) 0 := getD_map_range _ h
theorem IsPerm.idx {p : List Int} (h : IsPerm p) {n : Nat} (hn : n < p.length) : p.idxOf (n : Int) < p.length ∧ p.getD (p.idxOf (n : Int)) 0 = (n : Int) := by
 have hm := (h.mem (n : Int)).2 (by omega)
 have hlt := List.idxOf_lt_length_of_mem hm
 exact ⟨hlt, by rw [getD_elem hlt]; exact List.getElem_idxOf hlt⟩
theorem IsPerm.low {p : List Int} (h : IsPerm p) {i : Nat} (hi : i < p.length) : 0 ≤ p.getD i 0 ∧ p.getD i 0 < p.length := (h.back hi).1
theorem IsPerm.idx_at {p : List Int} (h : IsPerm p) {i : Nat} (hi : i < p.length) : p.idxOf (p.getD i 0) = i := by
 have h2 := (h.back hi).2
 have h1 := h.low hi
 rw [invL_at p (by omega), show (((p.getD i 0).toNat : Nat) : Int) = p.getD i 0 by omega] at h2
 omega
theorem trI_eq {p xs zs : List Int} (hp : IsPerm p) (hl : zs.length = p.length) (h : ∀ j, j < p.length → zs.getD (p.getD j 0).toNat 0 = xs.getD j 0) : zs = trI p xs := by
 refine list_eq_getD (by rw [hl, trI_len]) fun i hi => ?_
 obtain ⟨k1, k2⟩ := hp.idx (n := i) (by omega)
 rw [trI_at p xs (by omega), ← h _ k1, k2]
 rfl
def FillP (p xs zs : List Int) (k : Nat) : Prop := zs.length = p.length ∧ ∀ j, j < k → zs.getD (p.getD j 0).toNat 0 = xs.getD j 0
theorem FillP.nil (p xs : List Int) : FillP p xs (List.replicate p.length 0) 0 := ⟨by simp, fun j hj => by omega⟩
theorem getD_set_self (zs : List Int) (i : Nat) (x : Int) (h : i < zs.length) : (zs.set i x).getD i 0 = x := by
 simp [List.getD_eq_getElem?_getD, h]
theorem getD_set_ne (zs : List Int) {i j : Nat} (x : Int) (h : i ≠ j) : (zs.set i x).getD j 0 = zs.getD j 0 := by
 simp [List.getD_eq_getElem?_getD, h]
theorem FillP.next {p xs zs : List Int} {k : Nat} (hp : IsPerm p) (hk : k < p.length) (h : FillP p xs zs k) : FillP p xs (zs.set (p.getD k 0).toNat (xs.getD k 0)) (k + 1) := by
 obtain ⟨h1, h2⟩ := h
 have hl := hp.low hk
 refine ⟨by rw [List.length_set]; exact h1, fun j hj => ?_⟩
 by_cases e : j = k
 · subst e
   exact getD_set_self _ _ _ (by omega)
 · rw [getD_set_ne, h2 j (by omega)]
   intro e2
   have hj2 := hp.low (i := j) (by omega)
   have := hp.idx_at hk
   rw [show p.getD k 0 = p.getD j 0 by omega, hp.idx_at (by omega)] at this
   exact e this
theorem FillP.full {p xs zs : List Int} (hp : IsPerm p) (h : FillP p xs zs p.length) : zs = trI p xs := trI_eq hp h.1 h.2
end
section
def bcI (s : List Int) (k : Nat) (xs : List Int) : List Int := (List.range s.length).map fun i : Nat => (xs.getD (k + i) 0) % (s.getD i 0)
theorem bcI_len (s : List Int) (k : Nat) (xs : List Int) : (bcI s k xs).length = s.length := by simp [bcI]
theorem bcI_at (s : List Int) (k : Nat) (xs : List Int) {i : Nat} (h : i < s.length) : (bcI s k xs).getD i 0 = (xs.getD (k + i) 0) % (s.getD i 0) := getD_map_range _ h
end
section
def totL : List Rat → Rat
 | [] => 0
 | x :: xs => x + totL xs
theorem totL_append (a b : List Rat) : totL (a ++ b) = totL a + totL b := by
 induction a with
 | nil => simp only [List.nil_append, totL]; grind
 | cons x a ih => simp only [List.cons_append, totL, ih]; grind
theorem totL_one (x : Rat) : totL [x] = x := by simp only [totL]; grind
def sumK (f : Nat → Rat) : Nat → Rat
 | 0 => 0
 | n + 1 => sumK f n + f n
theorem sumK_congr {f g : Nat → Rat} {n : Nat} (h : ∀ k, k < n → f k = g k) : sumK f n = sumK g n := by
 induction n with
 | zero => rfl
 | succ n ih => simp only [sumK]; rw [ih fun k hk => h k (by omega), h n (by omega)]
theorem totL_range (f : Nat → Rat) (n : Nat) : totL ((List.range n).map f) = sumK f n := by
 induction n with
 | zero => rfl
 | succ n ih => rw [List.range_succ, List.map_append, totL_append, ih]; simp only [List.map_cons, List.map_nil, totL_one, sumK]
def partL (fm : Nat → Nat) (L : List Rat) (i : Nat) : Nat → List Rat
 | 0 => []
 | k + 1 => partL fm L i k ++ (if fm k = i then [L.getD k 0] else [])
theorem partL_len (fm : Nat → Nat) (L : List Rat) (i k : Nat) : (partL fm L i k).length ≤ k := by
 induction k with
 | zero => simp [partL]
 | succ k ih => simp only [partL, List.length_append]; split <;> simp <;> omega
theorem partL_ne {fm : Nat → Nat} (L : List Rat) {i k p : Nat} (hp : p < k) (h : fm p = i) : 1 ≤ (partL fm L i k).length := by
 induction k with
 | zero => omega
 | succ k ih =>
  simp only [partL, List.length_append]
  by_cases e : p = k
  · subst e; rw [if_pos h]; simp
  · have := ih (by omega); omega
def gathL (fm : Nat → Nat) (n m : Nat) (L : List Rat) : List Rat := (List.range m).map fun i => totL (partL fm L i n)
theorem gathL_len (fm : Nat → Nat) (n m : Nat) (L : List Rat) : (gathL fm n m L).length = m := by simp [gathL]
theorem dropL_congr {xs ys axes : List Int} {j : Nat} (h : ∀ i, i < j → xs.getD i 0 = ys.getD i 0) : dropL xs axes j = dropL ys axes j := by
 induction j with
 | zero => rfl
 | succ j ih => simp only [dropL]; rw [ih fun i hi => h i (by omega), h j (by omega)]
theorem inS_snoc10 {s xs : List Int} (h : inS s xs) {d x : Int} (h0 : 0 ≤ x) (h1 : x < d) : inS (s ++ [d]) (xs ++ [x]) := by
 induction s generalizing xs with
 | nil => cases xs with
  | nil => exact ⟨⟨h0, h1⟩, trivial⟩
  | cons => exact h.elim
 | cons e s ih => cases xs with
  | nil => exact h.elim
  | cons y xs => exact ⟨h.1, ih h.2⟩
theorem dropL_in {s xs : List Int} (axes : List Int) (h : inS s xs) {j : Nat} (hj : j ≤ s.length) : inS (dropL s axes j) (dropL xs axes j) := by
 induction j with
 | zero => exact trivial
 | succ j ih =>
  have h2 := inS_at h (i := j) (by omega)
  simp only [dropL]
  split
  · rw [List.append_nil, List.append_nil]; exact ih (by omega)
  · exact inS_snoc10 (ih (by omega)) h2.1 h2.2
theorem dropS_in {s xs : List Int} (axes : List Int) (h : inS s xs) : inS (dropS s axes) (dropS xs axes) := by
 unfold dropS
 rw [inS_length h]
 exact dropL_in axes h (Nat.le_refl _)
theorem dropL_onto {s axes : List Int} (hp : posS s) {j : Nat} (hj : j ≤ s.length) : ∀ t, inS (dropL s axes j) t → ∃ xs, inS (s.take j) xs ∧ dropL xs axes j = t := by
 induction j with
 | zero =>
  intro t ht
  cases t with
  | nil => exact ⟨[], trivial, rfl⟩
  | cons => exact ht.elim
 | succ j ih =>
  intro t ht
  have hd := hp.getD (i := j) (by omega)
  have et : s.take (j + 1) = s.take j ++ [s.getD j 0] := by
   rw [List.take_add_one, List.getElem?_eq_getElem (show j < s.length by omega), List.getD_eq_getElem?_getD, List.getElem?_eq_getElem (show j < s.length by omega)]; rfl
  have hlt : (s.take j).length = j := by rw [List.length_take]; omega
  have key : ∀ xs (x : Int), inS (s.take j) xs → dropL (xs ++ [x]) axes j = dropL xs axes j := fun xs x hx => by
   have hl := inS_length hx
   refine dropL_congr fun i hi => ?_
   rw [List.getD_eq_getElem?_getD, List.getElem?_append_left (by omega), ← List.getD_eq_getElem?_getD]
  have key2 : ∀ xs (x : Int), inS (s.take j) xs → (xs ++ [x]).getD j 0 = x := fun xs x hx => by
   have hl := inS_length hx
   rw [List.getD_eq_getElem?_getD, List.getElem?_append_right (by omega), hl, hlt, Nat.sub_self]; rfl
  by_cases hm : (j : Int) ∈ axes
  · simp only [dropL, if_pos hm, List.append_nil] at ht ⊢
    obtain ⟨xs, h1, h2⟩ := ih (by omega) t ht
    exact ⟨xs ++ [0], by rw [et]; exact inS_snoc10 h1 (by omega) (by omega), by rw [key xs 0 h1, h2]⟩
  · simp only [dropL, if_neg hm] at ht ⊢
    have hl := inS_length ht
    rw [List.length_append] at hl
    obtain ⟨t1, x, rfl⟩ : ∃ t1 x, t = t1 ++ [x] := by
     rcases List.eq_nil_or_concat t with e | ⟨t1, x, e⟩
     · rw [e] at hl; simp at hl
     · exact ⟨t1, x, by rw [e, List.concat_eq_append]⟩
    have hl1 : t1.length = (dropL s axes j).length := by simp at hl; omega
    have hin : inS (dropL s axes j) t1 ∧ 0 ≤ x ∧ x < s.getD j 0 := by
     refine ⟨inS_of hl1 fun i hi => ?_, ?_⟩
     · have := inS_at ht (i := i) (by simp; omega)
       rw [List.getD_eq_getElem?_getD, List.getElem?_append_left (by omega), ← List.getD_eq_getElem?_getD, List.getD_eq_getElem?_getD (l := dropL s axes j ++ _), List.getElem?_append_left hi, ← List.getD_eq_getElem?_getD] at this
       exact this
     · have := inS_at ht (i := t1.length) (by simp; omega)
       rw [List.getD_eq_getElem?_getD, List.getElem?_append_right (Nat.le_refl _), Nat.sub_self, List.getD_eq_getElem?_getD (l := dropL s axes j ++ _), List.getElem?_append_right (by omega), hl1, Nat.sub_self] at this
       exact this
    obtain ⟨xs, h1, h2⟩ := ih (by omega) t1 hin.1
    exact ⟨xs ++ [x], by rw [et]; exact inS_snoc10 h1 hin.2.1 hin.2.2, by rw [key xs x h1, key2 xs x h1, h2]⟩
theorem dropS_onto {s axes t : List Int} (hp : posS s) (h : inS (dropS s axes) t) : ∃ xs, inS s xs ∧ dropS xs axes = t := by
 obtain ⟨xs, h1, h2⟩ := dropL_onto hp (Nat.le_refl _) t h
 rw [List.take_length] at h1
 refine ⟨xs, h1, ?_⟩
 unfold dropS
 rw [inS_length h1]
 exact h2
def toF (s axes : List Int) (p : Nat) : Nat := (placeS (dropS s axes) (dropS (idxS s (p : Int)) axes)).toNat
def cntF (s : List Int) : Nat := (prodS s).toNat
theorem OkS.cnt {s : List Int} (h : OkS s) : (cntF s : Int) = prodS s ∧ 1 ≤ cntF s ∧ cntF s ≤ 1024 := by
 have h1 := prodS_pos h.pos
 have h2 := h.few
 unfold cntF
 omega
theorem toF_in {s : List Int} (axes : List Int) (ok : OkS s) {p : Nat} (hp : p < cntF s) : inS (dropS s axes) (dropS (idxS s (p : Int)) axes) ∧ (toF s axes p : Int) = placeS (dropS s axes) (dropS (idxS s (p : Int)) axes) ∧ toF s axes p < cntF (dropS s axes) := by
 have hc := ok.cnt
 have hc2 := (drop_ok axes ok).cnt
 have h1 := dropS_in axes (place_idx ok.pos (n := (p : Int)) (by omega) (by omega)).1
 have h2 := place_range h1
 refine ⟨h1, ?_, ?_⟩
 · unfold toF; omega
 · unfold toF; omega
theorem toF_onto {s : List Int} (axes : List Int) (ok : OkS s) {i : Nat} (hi : i < cntF (dropS s axes)) : ∃ p, p < cntF s ∧ toF s axes p = i := by
 have okd := drop_ok axes ok
 have hc := okd.cnt
 have hc1 := ok.cnt
 have h4 := place_idx okd.pos (n := (i : Int)) (by omega) (by omega)
 obtain ⟨xs, h5, h6⟩ := dropS_onto ok.pos h4.1
 have h7 := place_range h5
 refine ⟨(placeS s xs).toNat, by omega, ?_⟩
 unfold toF
 rw [show (((placeS s xs).toNat : Nat) : Int) = placeS s xs by omega, idx_place h5, h6, h4.2]
 omega
def sumF (s axes : List Int) (L : List Rat) : List Rat := gathL (toF s axes) (cntF s) (cntF (dropS s axes)) L
theorem sumF_len (s axes : List Int) (L : List Rat) : (sumF s axes L).length = cntF (dropS s axes) := gathL_len _ _ _ _
def mmF (a b c : Nat) (X Y : List Rat) : List Rat := (List.range (a * c)).map fun n => sumK (fun k => X.getD (b * (n / c) + k) 0 * Y.getD (c * k + n % c) 0) b
theorem mat_div {c i j : Nat} (hj : j < c) : (c * i + j) / c = i ∧ (c * i + j) % c = j := by
 have hc : 0 < c := by omega
 refine ⟨?_, ?_⟩
 · rw [Nat.mul_add_div hc, Nat.div_eq_of_lt hj, Nat.add_zero]
 · rw [Nat.mul_add_mod, Nat.mod_eq_of_lt hj]
theorem mmF_next (a b c : Nat) (X Y : List Rat) {i j : Nat} (hj : j < c) : (List.range (c * i + j + 1)).map (fun n => sumK (fun k => X.getD (b * (n / c) + k) 0 * Y.getD (c * k + n % c) 0) b) =
 (List.range (c * i + j)).map (fun n => sumK (fun k => X.getD (b * (n / c) + k) 0 * Y.getD (c * k + n % c) 0) b) ++ [sumK (fun k => X.getD (b * i + k) 0 * Y.getD (c * k + j) 0) b] := by
 rw [List.range_succ, List.map_append]
 simp only [List.map_cons, List.map_nil, (mat_div hj).1, (mat_div hj).2]
end
section
open Go.RowKit Go.Shelf
def Told (F : Fence) (n : Nat) (P : Program) (gf : Nat) (lb : Array Value) (Kp : World → World → Prop) (V : Nat → Value → World → Prop) (N : Nat) (w : World) : Prop :=
 ∀ (l : Nat) (J : Nat → World → Prop) (W : World), Below w.heap.size w W → OwnFrom W.heap.size J →
  (∀ k v X, k < N → J k X → V k v X → YieldAt F (n - 1) P l #[v] X fun e Y => e = .returned (.bool true) ∧ J (k + 1) Y ∧ Kp X Y) → J 0 W →
  CallsIn F n P gf (#[.func (.yield l) #[] #[]] ++ lb) W fun e Y => (∃ v, e = .returned v) ∧ J N Y
def toldPost (B : Nat) (Kp : World → World → Prop) (I : World → Prop) (W : World) : Exit → Act → World → Prop
 | .normal, _, Y => KeepsFrom B W Y ∧ Kp W Y ∧ I Y
 | _, _, _ => False
theorem wpIn_rangeFunc_told {F : Fence} {n : Nat} {P : Program} {g : Operand} {ps : Array Tmp} {assign body : Code} {Q : Exit → Act → World → Prop} {a : Act} {w : World}
 {l₀ : Nat} {r₀ : Loop} (hro : F.round = some l₀) (hl₀ : w.heap[l₀]? = some (.loop r₀)) (h1 : 1 ≤ n) {gf : Nat} {lb : Array Value} (hg : a.eval g = .func (.func gf) #[] lb) (hFg : F.fn gf) (eg : ∀ args w, (callFunc gf args).run P w = .ok (.enter gf args) w)
 {Kp : World → World → Prop} {V : Nat → Value → World → Prop} {N : Nat} {w0 : World} (ht : Told F (n - 1) P gf lb Kp V N w0) (hb0 : Below w0.heap.size w0 w) (hps : ps.size = 1)
 (hKt : ∀ {A B C : World}, Kp A B → Kp B C → Kp A C) (hKb : ∀ (W : World) (l : Nat) (r r' : Loop), w.heap.size ≤ l → W.heap[l]? = some (.loop r) → Kp W (W.putObj l (.loop r')))
 (hV : ∀ (k : Nat) (v : Value) (W : World) (l : Nat) (r r' : Loop), w.heap.size ≤ l → W.heap[l]? = some (.loop r) → V k v W → V k v (W.putObj l (.loop r')))
 (I : Nat → World → Prop) (hI : OwnFrom w.heap.size I) (h0 : I 0 w) (a₁ : Value → Act)
 (hassign : ∀ (l : Nat) (v : Value) (W : World) (K : Act → World → Prop), K (a₁ v) W → assign.wpIn (F.inRound l) (n - 1 - 1) P (Exit.then K (fun _ _ _ => False)) { tmps := (ps.zip #[v]).foldl (fun t (p, v) => t.setIfInBounds p v) a.tmps, defers := [] } W)
 (hbody : ∀ (l k : Nat) (v : Value) (W : World), w.heap.size ≤ l → (∃ r, W.heap[l]? = some (.loop r)) → k < N → I k W → V k v W → body.wpIn (F.inRound l) (n - 1 - 1) P (toldPost w.heap.size Kp (I (k + 1)) W) (a₁ v) W)
 (hdone : ∀ W, I N W → Q .normal a W) : (Code.rangeFunc g ps assign body).wpIn F n P Q a w := by
 refine wpIn_rangeFunc ?_
 intro fn hfn
 rw [hro]
 obtain ⟨rc, hrc⟩ : ∃ rc : LoopState → Loop, rc = fun st => { state := st, pending := none, fn, tmps := a.tmps, params := ps, assign, body, defers := r₀.defers } := ⟨_, rfl⟩
 obtain ⟨B, hB⟩ : ∃ B, w.heap.size = B := ⟨_, rfl⟩
 obtain ⟨W1, hW1⟩ : ∃ W1, w.alloc (.loop (rc .ready)) = W1 := ⟨_, rfl⟩
 have hL1 : W1.heap[B]? = some (.loop (rc .ready)) := by rw [← hW1, ← hB]; exact World.alloc_heap_new w _
 have hS1 : W1.heap.size = B + 1 := by rw [← hW1, World.size_alloc, hB]
 have hI1 : I 0 W1 := by rw [← hW1]; exact hI.alloc _ h0
 have hb1 : Below w0.heap.size w0 W1 := by rw [← hW1]; exact hb0.trans (((Below.refl _ w).alloc (Nat.le_refl _) _).mono hb0.size)
 rw [hB] at hKb hV hI hbody
 refine ⟨B, [], W1, { target := .fn (.func gf) lb, args := #[.func (.yield B) #[] #[]] }, W1, gf, #[.func (.yield B) #[] #[]] ++ lb, W1, ?_, ?_, ?_, ?_, fun _ => h1, ?_⟩
 · rw [← hW1, ← hB, hrc]; exact run_enterLoop_inner hl₀ _ _ _ _ _
 · simp only [resolve, hg]
   simp [go_sem]
 · intro f' hf'; simp [Target.leads] at hf'; subst hf'; exact hFg
 · simp [invoke, go_sem, eg]
 refine (ht B (fun k X => I k X ∧ X.heap[B]? = some (.loop (rc .ready))) W1 hb1 (fun k X Y row ⟨hi, hl⟩ hgr hr => ?_) ?_ ⟨hI1, hL1⟩).mono ?_
 · refine ⟨hI k X Y row hi hgr fun r e => ⟨by have := (hr r e).1; omega, (hr r e).2⟩, (hgr.block B (lt_of_block hl) fun e => ?_).trans hl⟩
   have := (hr B e.symm).1
   omega
 · intro k v X hk ⟨hi, hl⟩ hv
   have hy := run_yield (P := P) (args := #[v]) hl (by rw [hrc]; exact hps.symm)
   rw [hrc] at hy
   refine ⟨fn, _, assign, body, hy, roundIn_of_wpIn hfn (hassign _ v X _ ?_)⟩
   refine ⟨_, run_beginRound hl (by rw [hrc]), ?_⟩
   have hlt := lt_of_block hl
   have hl2 : (X.putObj B (.loop { rc .ready with state := .busy })).heap[B]? = some (.loop { rc .ready with state := .busy }) := World.putObj_heap_same hlt
   refine wpIn_mono (hbody B k v _ (Nat.le_refl _) ⟨_, hl2⟩ hk (hI.putObj _ hi (Nat.le_refl _) hl rfl) (hV k v X B _ _ (Nat.le_refl _) hl hv)) ?_
   rintro e a3 Y hp
   cases e with
   | normal =>
    obtain ⟨hk3, hkp, hi3⟩ := hp
    have hl3 := hk3.same _ _ (Nat.le_refl _) hl2 rfl
    have hre := run_endRound (P := P) (none : Option Code) hl3
    refine ⟨_, _, hre, rfl, ⟨hI.putObj _ hi3 (Nat.le_refl _) hl3 rfl, ?_⟩, ?_⟩
    · rw [World.putObj_heap_same (lt_of_block hl3), hrc]
      rfl
    · exact hKt (hKt (hKb X B _ _ (Nat.le_refl _) hl) hkp) (hKb Y B _ _ (Nat.le_refl _) hl3)
   | ret => exact hp.elim
   | exit id => exact hp.elim
   | goto t => exact hp.elim
   | panic ch => exact hp.elim
   | outgrown => exact hp.elim
 · rintro e Y ⟨⟨v, rfl⟩, hi, hl⟩
   have hr := run_endLoop (P := P) hl (by rw [hrc]; simp)
   rw [hrc] at hr
   exact ⟨none, _, hr, hdone _ (hI.putObj _ hi (Nat.le_refl _) hl rfl)⟩
end
end Go.Proofs.YtengpgodmbfmkaaGreat
