/-
  Part 2 of 39: contracts and what they rest on (Todo, Round, Open, RLaw0, SMath, SDef, TOrd, MMath, MRow2, MTurnA, FTold).
-/
import Derived.WalkKit
import Derived.Test.YtengpgodmbfmkaaGreatRows
import Derived.OrdersHeld
import Derived.Deep.RegionHeld
import Derived.BigQuiet
import Derived.Deep.QuietTactic
import Derived.Lib.Hide
import Derived.Lib.Small
import Derived.Lib.Walk
import Derived.Lib.BitFns
import Derived.Maps.AppendAt
import Derived.RangeFuncNested
import Derived.RangeFuncBound
import Derived.RangeFuncCalls
import Derived.RangeFuncLeaves
import Derived.Shelf.Abstract
import Derived.OwnWalkIn
import Derived.TacticsInMore
import Derived.LoopNIn
import Derived.LoopIn
import Derived.RangeFuncBox
import Derived.Deep.RegionHeld3
import Derived.OrdersIn
import Derived.StillTailTactics
import Derived.RangeFuncFrom
import Derived.Laws.EntriesVeiled
import Derived.ProofKit
import Derived.OpenShut
import Derived.JoinedCond
import Derived.Carry
import Derived.Laws.AppendOwnNone
import Derived.Lib.ItoaNum
import Derived.Deep.RegionLaw
import Derived.WalkMore
import Derived.Lib.SmallJoins
import Derived.IntWalk
import Derived.Deep.DeepCutAuto
import Derived.Laws.OwnMore
import Derived.ArgAppend
import Derived.Deep.Slices
import Derived.Laws.CopyOwn
import Derived.Lib.SliceRun
import Derived.SizedLaws
import Derived.Deep.AppendLies
namespace Go.Proofs.YtengpgodmbfmkaaGreat
set_option linter.unusedVariables false
set_option linter.unusedSimpArgs false
set_option maxRecDepth 100000
set_option maxHeartbeats 40000000
section
variable {P : Program} {ops : Array Oper} {Q : Exit → Act → World → Prop} {md : Region.Mode} {S : World → Prop}
def Todo (_ : List Nat) (G : Prop) : Prop := G
theorem todo {G : Prop} (is : List Nat) (h : Todo is G) : G := h
theorem todone {G : Prop} (h : G) : Todo [] G := h
theorem todoH {i : Nat} {is : List Nat} {oi : Oper} {v : Value} {fuel : Nat} {listed : Array Bool} {a : Act} {w : World} (hi : ops[i]? = some oi)
 (hk : (Region.noSelect ops && Region.free md ops listed i && (Region.ready md ops listed).contains i) = true)
 (hQ : ∀ c a w, Q (.panic c) (a.put oi.dst v) w → Q (.panic c) a w) (hS : S w) (hy : YieldsIf P ops S oi v a)
 (h : Todo is (wpAnyH P md ops Q S fuel (listed.setIfInBounds i true) (a.put oi.dst v) w)) : Todo (i :: is) (wpAnyH P md ops Q S (fuel + 1) listed a w) := by
 simp only [Bool.and_eq_true] at hk
 exact wpAnyH_take hi hk.1.1 hk.1.2 hk.2 hQ hy hS h
end
section
open Go.RowKit
def noDefer (ops : Array Oper) : Bool := ops.toList.all fun o => match o.op with | .defer _ => false | _ => true
theorem noDefer_spec {ops : Array Oper} (h : noDefer ops = true) {i : Nat} {o : Oper} (ho : ops[i]? = some o) (c : Call) : o.op ≠ .defer c := by
 intro e
 have hm : o ∈ ops.toList := by
  obtain ⟨hi, rfl⟩ := Array.getElem?_eq_some_iff.1 ho
  exact Array.getElem_mem_toList hi
 have := List.all_eq_true.1 h o hm
 rw [e] at this
 cases this
theorem wpIn_of_wp_round {l n : Nat} {P : Program} {o : Oper} {a : Act} {w : World} {K : Act → World → Prop} {Q : Exit → Act → World → Prop} (hnd : ∀ c, o.op ≠ .defer c)
 (h : o.wp P a w K Q) : o.wpIn (Fence.wide.inRound l) n P a w K Q := by
 unfold Oper.wpIn
 refine ⟨fun _ _ => trivial, ?_⟩
 rw [Oper.semAt_eq _ _ _ hnd]
 unfold Oper.wp at h
 generalize (execOp a.eval o).run P w = r at *
 cases r with
 | ok x w' =>
   cases x with
   | value v => exact h
   | skip => exact h
   | defer d => exact h
   | enter f args => exact ⟨(fun h => by cases h), callsIn_wide.2 h⟩
   | row r args => exact ⟨(fun h => by cases h), fun c cs _ => let ⟨v, w', r, s⟩ := h c cs; ⟨v, w', r, stepsIn_wide.2 s⟩⟩
   | _ => exact h.elim
 | halt x w' => cases x <;> exact h
theorem wpAnyIn_of_round {l n : Nat} {P : Program} {md : Region.Mode} {ops : Array Oper} {Q : Exit → Act → World → Prop} (hnd : noDefer ops = true) (hLO : ¬ LetsOut Q) :
 ∀ (fuel : Nat) (listed : Array Bool) (a : Act) (w : World), wpAny P md ops Q fuel listed a w → wpAnyIn (Fence.wide.inRound l) n P md ops Q fuel listed a w
 | 0, _, _, _, h => h
 | fuel + 1, _, _, _, h => ⟨h.1, fun i hi => by
   have h2 := h.2 i hi
   unfold wpOp at h2
   unfold wpOpIn
   split
   · rename_i he
     rw [he] at h2
     exact wpAnyIn_of_round hnd hLO fuel _ _ _ h2
   · rename_i o ho
     simp only [ho] at h2
     split
     · rename_i hw
       simp only [hw, if_true] at h2
       rcases h2 with h2 | h2
       · exact wpIn_of_wp_round (fun c => noDefer_spec hnd ho c) (Oper.wp_mono (fun a w ha => wpAnyIn_of_round hnd hLO fuel _ a w ha) h2)
       · exact absurd h2.2 hLO
     · rename_i hw
       simp only [hw] at h2
       exact ⟨fun _ _ => trivial, wpAnyIn_of_round hnd hLO fuel _ _ _ h2⟩⟩
theorem region_round {l n id : Nat} {P : Program} {ops : Array Oper} {Q : Exit → Act → World → Prop} {a : Act} {w : World} (S : World → Prop) (hm : P.follows .mixedOrders = true) (hnd : noDefer ops = true) (hLO : ¬ LetsOut Q)
 (hS : S w.drew) (h : S w.drew → wpAnyH P .any ops Q S ops.size (Array.replicate ops.size false) a w.drew) : (Code.region id ops true).wpIn (Fence.wide.inRound l) n P Q a w :=
 wpIn_region_any hm (wpAnyIn_of_round hnd hLO _ _ _ _ (wpAny_of_held _ _ _ _ (h hS)))
end
section
open Go.RowKit Go.ChangeShapes Go.WideShapes Go.ChangeAt
theorem own : ownKnob Tryz.prog.godebug = none := by kernel_rfl
theorem cellsLimb : Tryz.prog.cellsOf 144 = 1 := by kernel_rfl
theorem bulk_pos {H : Type} (d : DataW H) : 1 ≤ Rows.uptoBulk d := by
 cases d with
 | lit l => cases l <;> simp [Rows.uptoBulk]
 | _ => simp [Rows.uptoBulk]
theorem bulk_len {H : Type} (l : List (DataW H)) : l.length ≤ Rows.uptoBulkAll l := by
 induction l with
 | nil => simp [Rows.uptoBulkAll]
 | cons x r ih => have := bulk_pos x; simp only [Rows.uptoBulkAll, List.length_cons]; omega
theorem bulk_slice {H : Type} (elems spare : List (DataW H)) : elems.length ≤ Rows.uptoBulk (.slice elems spare) := by
 have h1 := bulk_len elems
 simp only [Rows.uptoBulk]
 omega
theorem wf_limb {x : Int} (h : (Lit.int .u32 x).wf = true) : 0 ≤ x ∧ x < 4294967296 := by
 simp [Lit.wf, IntKind.min, IntKind.max, IntKind.signed, IntKind.bits] at h
 omega
end
section
open Go.RowKit Go.ChangeShapes Go.WideShapes Go.ChangeAt Go.Joins
theorem cellsRat : Tryz.prog.cellsOf 54 = 3 := by kernel_rfl
end
section
def prodS : List Int → Int
 | [] => 1
 | d :: ds => d * prodS ds
def posS (s : List Int) : Prop := ∀ x ∈ s, 1 ≤ x
theorem posS.tail {d : Int} {ds : List Int} (h : posS (d :: ds)) : posS ds := fun x hx => h x (List.mem_cons_of_mem _ hx)
theorem posS.head {d : Int} {ds : List Int} (h : posS (d :: ds)) : 1 ≤ d := h d (List.mem_cons_self ..)
theorem posS.drop {s : List Int} (h : posS s) (n : Nat) : posS (s.drop n) := fun x hx => h x (List.mem_of_mem_drop hx)
theorem posS.take {s : List Int} (h : posS s) (n : Nat) : posS (s.take n) := fun x hx => h x (List.mem_of_mem_take hx)
theorem posS.getD {s : List Int} (h : posS s) {i : Nat} (hi : i < s.length) : 1 ≤ s.getD i 0 := by
 rw [List.getD_eq_getElem?_getD, List.getElem?_eq_getElem hi]; exact h _ (List.getElem_mem hi)
theorem prodS_pos {s : List Int} (h : posS s) : 1 ≤ prodS s := by
 induction s with
 | nil => exact Int.le_refl _
 | cons d ds ih =>
   have h1 := h.head
   have h2 := ih h.tail
   have h3 := Int.mul_le_mul h1 h2 (by omega) (by omega)
   unfold prodS
   omega
theorem prodS_append (a b : List Int) : prodS (a ++ b) = prodS a * prodS b := by
 induction a with
 | nil => simp [prodS]
 | cons x xs ih => rw [List.cons_append]; simp only [prodS]; rw [ih, Int.mul_assoc]
theorem prodS_take {s : List Int} {k : Nat} (hk : k < s.length) : prodS (s.take (k + 1)) = prodS (s.take k) * s.getD k 0 := by
 rw [List.take_add_one, List.getElem?_eq_getElem hk, prodS_append, Option.toList_some]
 simp [prodS, List.getD_eq_getElem?_getD, List.getElem?_eq_getElem hk]
theorem prodS_drop {s : List Int} {k : Nat} (hk : k < s.length) : prodS (s.drop k) = s.getD k 0 * prodS (s.drop (k + 1)) := by
 rw [List.drop_eq_getElem_cons hk]
 simp [prodS, List.getD_eq_getElem?_getD, List.getElem?_eq_getElem hk]
theorem prodS_split (s : List Int) (k : Nat) : prodS s = prodS (s.take k) * prodS (s.drop k) := by rw [← prodS_append, List.take_append_drop]
theorem prodS_take_le {s : List Int} (h : posS s) (k : Nat) : prodS (s.take k) ≤ prodS s := by
 have h1 := prodS_pos (h.take k)
 have h2 := prodS_pos (h.drop k)
 rw [prodS_split s k]
 have := Int.mul_le_mul_of_nonneg_left h2 (show 0 ≤ prodS (s.take k) by omega)
 omega
theorem getD_le_prod {s : List Int} (h : posS s) {k : Nat} (hk : k < s.length) : s.getD k 0 ≤ prodS s := by
 have h1 := prodS_pos (h.take k)
 have h2 := prodS_take_le h (k + 1)
 have h3 := h.getD hk
 rw [prodS_take hk] at h2
 have := Int.mul_le_mul_of_nonneg_right h1 (show 0 ≤ s.getD k 0 by omega)
 omega
def mayC (s : List Int) : Int := if 4 < s.length then 14 else if s.any (fun x => decide (x < 1)) = true then 13 else if 1024 < prodS s then 14 else 0
theorem any_pos (s : List Int) : s.any (fun x => decide (x < 1)) = true ↔ ¬ posS s := by
 rw [List.any_eq_true]
 unfold posS
 constructor
 · intro ⟨x, hx, h⟩ hp
   have := hp x hx
   simp at h
   omega
 · intro h
   apply Classical.byContradiction
   intro hn
   apply h
   intro x hx
   rcases Int.lt_or_le x 1 with g | g
   · exact absurd ⟨x, hx, by simpa using g⟩ hn
   · exact g
structure OkS (s : List Int) : Prop where
 rank : s.length ≤ 4
 pos : posS s
 few : prodS s ≤ 1024
theorem mayC_zero {s : List Int} : mayC s = 0 ↔ OkS s := by
 unfold mayC
 constructor
 · intro h
   split at h
   · cases h
   · split at h
     · cases h
     · next h1 h2 =>
       split at h
       · cases h
       · rw [any_pos, Classical.not_not] at h2
         exact ⟨by omega, h2, by omega⟩
 · intro h
   rw [if_neg (by have := h.rank; omega), if_neg (by rw [any_pos, Classical.not_not]; exact h.pos), if_neg (by have := h.few; omega)]
theorem mayC_ok {s : List Int} (h : OkS s) : mayC s = 0 := mayC_zero.2 h
theorem mayC_rank {s : List Int} (h : 4 < s.length) : mayC s = 14 := by unfold mayC; rw [if_pos h]
theorem mayC_dim {s : List Int} (h : s.length ≤ 4) (h2 : ¬ posS s) : mayC s = 13 := by unfold mayC; rw [if_neg (by omega), if_pos ((any_pos s).2 h2)]
theorem mayC_count {s : List Int} (h : s.length ≤ 4) (h2 : posS s) (h3 : 1024 < prodS s) : mayC s = 14 := by unfold mayC; rw [if_neg (by omega), if_neg (by rw [any_pos, Classical.not_not]; exact h2), if_pos h3]
def countS (s : List Int) : Int := if mayC s = 0 then prodS s else 0
theorem OkS.count {s : List Int} (h : OkS s) : countS s = prodS s := by unfold countS; rw [if_pos (mayC_ok h)]
theorem count_bad {s : List Int} (h : mayC s ≠ 0) : countS s = 0 := by unfold countS; rw [if_neg h]
def idxS : List Int → Int → List Int
 | [], _ => []
 | _ :: ds, n => n / prodS ds :: idxS ds (n % prodS ds)
def placeS : List Int → List Int → Int
 | _ :: ds, x :: xs => x * prodS ds + placeS ds xs
 | _, _ => 0
def inS : List Int → List Int → Prop
 | [], [] => True
 | d :: ds, x :: xs => (0 ≤ x ∧ x < d) ∧ inS ds xs
 | _, _ => False
instance inS.dec : (s xs : List Int) → Decidable (inS s xs)
 | [], [] => .isTrue trivial
 | d :: ds, x :: xs => by unfold inS; exact @instDecidableAnd _ _ _ (inS.dec ds xs)
 | [], _ :: _ => .isFalse id
 | _ :: _, [] => .isFalse id
theorem inS_length {s xs : List Int} (h : inS s xs) : xs.length = s.length := by
 induction s generalizing xs with
 | nil => cases xs with
   | nil => rfl
   | cons => exact h.elim
 | cons d ds ih => cases xs with
   | nil => exact h.elim
   | cons x xs => simp only [List.length_cons]; rw [ih h.2]
theorem inS_at {s xs : List Int} (h : inS s xs) {i : Nat} (hi : i < s.length) : 0 ≤ xs.getD i 0 ∧ xs.getD i 0 < s.getD i 0 := by
 induction s generalizing xs i with
 | nil => simp at hi
 | cons d ds ih => cases xs with
   | nil => exact h.elim
   | cons x xs => cases i with
     | zero => simpa using h.1
     | succ i => simpa using ih h.2 (i := i) (by simpa using hi)
theorem inS_of {s xs : List Int} (hl : xs.length = s.length) (h : ∀ i, i < s.length → 0 ≤ xs.getD i 0 ∧ xs.getD i 0 < s.getD i 0) : inS s xs := by
 induction s generalizing xs with
 | nil =>
   obtain rfl := List.eq_nil_of_length_eq_zero hl
   trivial
 | cons d ds ih => cases xs with
   | nil => simp at hl
   | cons x xs =>
     refine ⟨by simpa using h 0 (by simp), ih (by simpa using hl) fun i hi => ?_⟩
     simpa using h (i + 1) (by simpa using hi)
theorem place_range {s xs : List Int} (h : inS s xs) : 0 ≤ placeS s xs ∧ placeS s xs < prodS s := by
 induction s generalizing xs with
 | nil => cases xs with
   | nil => simp [placeS, prodS]
   | cons => exact h.elim
 | cons d ds ih => cases xs with
   | nil => exact h.elim
   | cons x xs =>
     obtain ⟨⟨h0, h1⟩, h2⟩ := h
     obtain ⟨h3, h4⟩ := ih h2
     simp only [placeS, prodS]
     have e1 := Int.mul_nonneg h0 (show 0 ≤ prodS ds by omega)
     have e2 := Int.mul_le_mul_of_nonneg_right (show x + 1 ≤ d by omega) (show 0 ≤ prodS ds by omega)
     rw [Int.add_mul, Int.one_mul] at e2
     omega
theorem idx_place {s xs : List Int} (h : inS s xs) : idxS s (placeS s xs) = xs := by
 induction s generalizing xs with
 | nil => cases xs with
   | nil => rfl
   | cons => exact h.elim
 | cons d ds ih => cases xs with
   | nil => exact h.elim
   | cons x xs =>
     obtain ⟨_, h2⟩ := h
     obtain ⟨h3, h4⟩ := place_range h2
     simp only [placeS, idxS]
     have e1 : (x * prodS ds + placeS ds xs) / prodS ds = x := by
      rw [Int.add_comm, Int.add_mul_ediv_right _ _ (by omega), Int.ediv_eq_zero_of_lt h3 h4]; omega
     have e2 : (x * prodS ds + placeS ds xs) % prodS ds = placeS ds xs := by
      rw [Int.add_comm, Int.add_mul_emod_self_right, Int.emod_eq_of_lt h3 h4]
     rw [e1, e2, ih h2]
theorem idx_length (s : List Int) (n : Int) : (idxS s n).length = s.length := by
 induction s generalizing n with
 | nil => rfl
 | cons d ds ih => simp [idxS, ih]
theorem place_idx {s : List Int} (hp : posS s) {n : Int} (h0 : 0 ≤ n) (h1 : n < prodS s) : inS s (idxS s n) ∧ placeS s (idxS s n) = n := by
 induction s generalizing n with
 | nil => simp only [prodS] at h1; exact ⟨trivial, by simp [placeS]; omega⟩
 | cons d ds ih =>
   have hP := prodS_pos hp.tail
   simp only [prodS] at h1
   have m0 := Int.emod_nonneg n (show prodS ds ≠ 0 by omega)
   have m1 := Int.emod_lt_of_pos n (show 0 < prodS ds by omega)
   obtain ⟨i1, i2⟩ := ih hp.tail m0 m1
   simp only [idxS, placeS, inS]
   refine ⟨⟨⟨Int.ediv_nonneg h0 (by omega), Int.ediv_lt_of_lt_mul (by omega) h1⟩, i1⟩, ?_⟩
   rw [i2, Int.mul_comm]
   exact Int.mul_ediv_add_emod n (prodS ds)
theorem idx_zero {s : List Int} : idxS s 0 = List.replicate s.length 0 := by
 induction s with
 | nil => rfl
 | cons d ds ih => simp [idxS, ih, List.replicate_succ]
def nextS : List Int → List Int → Option (List Int)
 | d :: ds, x :: xs => match nextS ds xs with
   | some ys => some (x :: ys)
   | none => if x + 1 < d then some ((x + 1) :: List.replicate ds.length 0) else none
 | _, _ => none
theorem next_idx {s xs : List Int} (h : inS s xs) : (placeS s xs + 1 < prodS s → nextS s xs = some (idxS s (placeS s xs + 1))) ∧ (¬ placeS s xs + 1 < prodS s → nextS s xs = none) := by
 induction s generalizing xs with
 | nil => cases xs with
   | nil => exact ⟨fun h => by simp [placeS, prodS] at h, fun _ => rfl⟩
   | cons => exact h.elim
 | cons d ds ih => cases xs with
   | nil => exact h.elim
   | cons x xs =>
     obtain ⟨⟨h0, h1⟩, h2⟩ := h
     obtain ⟨h3, h4⟩ := place_range h2
     obtain ⟨hi1, hi2⟩ := ih h2
     obtain ⟨P, hP⟩ : ∃ P, prodS ds = P := ⟨_, rfl⟩
     obtain ⟨r, hr0⟩ : ∃ r, placeS ds xs = r := ⟨_, rfl⟩
     have ep : placeS (d :: ds) (x :: xs) = x * P + r := by simp only [placeS, hP, hr0]
     have eP : prodS (d :: ds) = d * P := by simp only [prodS, hP]
     have ei : ∀ n, idxS (d :: ds) n = n / P :: idxS ds (n % P) := fun n => by simp only [idxS, hP]
     have en : nextS (d :: ds) (x :: xs) = match nextS ds xs with
      | some ys => some (x :: ys)
      | none => if x + 1 < d then some ((x + 1) :: List.replicate ds.length 0) else none := rfl
     rw [ep, eP, ei, en]
     rw [hP, hr0] at hi1 hi2
     rw [hr0, hP] at h4
     rw [hr0] at h3
     by_cases hr : r + 1 < P
     · rw [hi1 hr]
       have e2 := Int.mul_le_mul_of_nonneg_right (show x + 1 ≤ d by omega) (show 0 ≤ P by omega)
       rw [Int.add_mul, Int.one_mul] at e2
       have e3 : (x * P + r + 1) / P = x := by
        rw [Int.add_assoc, Int.add_comm, Int.add_mul_ediv_right _ _ (by omega), Int.ediv_eq_zero_of_lt (by omega) hr]; omega
       have e4 : (x * P + r + 1) % P = r + 1 := by
        rw [Int.add_assoc, Int.add_comm, Int.add_mul_emod_self_right, Int.emod_eq_of_lt (by omega) hr]
       rw [e3, e4]
       exact ⟨fun _ => rfl, fun h => absurd (by omega) h⟩
     · rw [hi2 hr]
       have e5 : x * P + r + 1 = (x + 1) * P := by rw [Int.add_mul, Int.one_mul]; omega
       rw [e5, Int.mul_ediv_cancel _ (by omega), Int.mul_emod_left, idx_zero]
       by_cases hd : x + 1 < d
       · have := Int.mul_lt_mul_of_pos_right hd (show 0 < P by omega)
         simp only [if_pos hd]
         exact ⟨fun _ => by first | rfl | trivial, fun h => absurd this h⟩
       · obtain rfl : d = x + 1 := by omega
         simp only [if_neg hd]
         exact ⟨fun h => absurd h (Int.lt_irrefl _), fun _ => by first | rfl | trivial⟩
theorem next_drop {s xs : List Int} (hl : xs.length = s.length) {i : Nat} (hi : i < s.length) (h : nextS (s.drop (i + 1)) (xs.drop (i + 1)) = none) :
 nextS (s.drop i) (xs.drop i) = if xs.getD i 0 + 1 < s.getD i 0 then some ((xs.getD i 0 + 1) :: List.replicate (s.length - (i + 1)) 0) else none := by
 rw [List.drop_eq_getElem_cons hi, List.drop_eq_getElem_cons (show i < xs.length by omega)]
 simp only [nextS, h]
 simp [List.getD_eq_getElem?_getD, List.getElem?_eq_getElem hi, List.getElem?_eq_getElem (show i < xs.length by omega)]
theorem next_some {s xs ys : List Int} (hl : xs.length = s.length) {i : Nat} (hi : i ≤ s.length) (h : nextS (s.drop i) (xs.drop i) = some ys) : nextS s xs = some (xs.take i ++ ys) := by
 induction i generalizing ys with
 | zero => simpa using h
 | succ i ih =>
   have h2 : nextS (s.drop i) (xs.drop i) = some (xs.getD i 0 :: ys) := by
    rw [List.drop_eq_getElem_cons (show i < s.length by omega), List.drop_eq_getElem_cons (show i < xs.length by omega)]
    simp only [nextS, h]
    simp [List.getD_eq_getElem?_getD, List.getElem?_eq_getElem (show i < xs.length by omega)]
   have e : xs.getD i 0 = xs[i] := by simp [List.getD_eq_getElem?_getD, List.getElem?_eq_getElem (show i < xs.length by omega)]
   rw [ih (by omega) h2, List.take_add_one, List.getElem?_eq_getElem (show i < xs.length by omega), e, Option.toList_some, List.append_assoc, List.singleton_append]
end
section
def idxC (s : List Int) (n : Int) : Int := if mayC s ≠ 0 then mayC s else if n < 0 ∨ countS s ≤ n then 21 else 0
def idxV (s : List Int) (n : Int) : List Int := if idxC s n = 0 then idxS s n else []
theorem idxC_may {s : List Int} {n : Int} (h : mayC s ≠ 0) : idxC s n = mayC s := by unfold idxC; rw [if_pos h]
theorem idxC_out {s : List Int} {n : Int} (h : mayC s = 0) (h2 : n < 0 ∨ countS s ≤ n) : idxC s n = 21 := by unfold idxC; rw [if_neg (by rw [h]; simp), if_pos h2]
theorem idxC_in {s : List Int} {n : Int} (h : mayC s = 0) (h2 : 0 ≤ n) (h3 : n < prodS s) : idxC s n = 0 := by
 unfold idxC
 rw [if_neg (by rw [h]; simp), if_neg (by rw [(mayC_zero.1 h).count]; omega)]
theorem idxV_in {s : List Int} {n : Int} (h : idxC s n = 0) : idxV s n = idxS s n := by unfold idxV; rw [if_pos h]
theorem idxV_bad {s : List Int} {n : Int} (h : idxC s n ≠ 0) : idxV s n = [] := by unfold idxV; rw [if_neg h]
end
section
open Go.RowKit
variable {P : Program} {ops : Array Oper} {Q : Exit → Act → World → Prop} {md : Region.Mode} {S : World → Prop} {z : Nat}
def wpAnyL (P : Program) (md : Region.Mode) (ops : Array Oper) (Q : Exit → Act → World → Prop) (S : World → Prop) (z : Nat) : Nat → Array Bool → Act → World → Prop
 | 0, listed, a, w => Region.ready md ops listed = [] ∧ Q .normal a w
 | fuel + 1, listed, a, w =>
   (Region.ready md ops listed = [] → Q .normal a w) ∧
   ∀ i ∈ Region.ready md ops listed, wpOp P ops Q i (fun a' w' => (i ≠ z → S w') ∧ wpAnyL P md ops Q S z fuel (listed.setIfInBounds i true) a' w') a w
theorem wpAny_of_L : ∀ (fuel : Nat) (listed : Array Bool) (a : Act) (w : World), wpAnyL P md ops Q S z fuel listed a w → wpAny P md ops Q fuel listed a w
 | 0, _, _, _, h => h
 | fuel + 1, _, _, _, h => ⟨h.1, fun i hi => wpOp_mono (fun a' w' h' => wpAny_of_L fuel _ a' w' h'.2) (h.2 i hi)⟩
def waitsB (md : Region.Mode) (ops : Array Oper) (z i : Nat) : Bool := match ops[z]? with
 | some o => o.after.toList.any fun e => Region.binds md e && decide (e.on = i)
 | none => false
theorem waits_spec {z i : Nat} (h : waitsB md ops z i = true) : ∀ o, ops[z]? = some o → ∃ e ∈ o.after, Region.binds md e = true ∧ e.on = i := by
 intro o ho
 unfold waitsB at h
 rw [ho] at h
 obtain ⟨e, he, h2⟩ := List.any_eq_true.1 h
 rw [Bool.and_eq_true, decide_eq_true_iff] at h2
 exact ⟨e, Array.mem_toList_iff.1 he, h2⟩
theorem wpAnyL_first {i : Nat} {oi : Oper} {v : Value} (hi : ops[i]? = some oi) (hsel : ∀ (j : Nat) (o : Oper) cs b, ops[j]? = some o → o.op ≠ .select cs b)
 (hQ : ∀ c a w, Q (.panic c) (a.put oi.dst v) w → Q (.panic c) a w) (hz : ∀ o, ops[z]? = some o → ∃ e ∈ o.after, Region.binds md e = true ∧ e.on = i) :
 ∀ (fuel : Nat) (listed : Array Bool) (a : Act) (w : World),
  (∀ j oj, ops[j]? = some oj → j ≠ i → listed.getD j true = false → (∀ e ∈ oj.after, Region.binds md e = true → e.on ≠ i) → oi.apart ops oj = true) →
  i ∈ Region.ready md ops listed → YieldsIf P ops S oi v a → S w →
  wpAnyL P md ops Q S z fuel (listed.setIfInBounds i true) (a.put oi.dst v) w → wpAnyL P md ops Q S z (fuel + 1) listed a w := by
 intro fuel
 induction fuel with
 | zero =>
   intro listed a w _ hr hy hS H
   refine ⟨fun h => (by rw [h] at hr; cases hr), fun j hj => ?_⟩
   by_cases hji : j = i
   · subst hji; exact hy.wpOp hi hS ⟨fun _ => hS, H⟩
   · have := ready_mono hj hji
     rw [H.1] at this
     cases this
 | succ fuel ih =>
   intro listed a w hfree hr hy hS H
   refine ⟨fun h => (by rw [h] at hr; cases hr), fun j hj => ?_⟩
   by_cases hji : j = i
   · subst hji; exact hy.wpOp hi hS ⟨fun _ => hS, H⟩
   · have h1 := H.2 j (ready_mono hj hji)
     obtain ⟨hjun, oj, hoj, hall⟩ := mem_ready.1 hj
     have hnot : ∀ e ∈ oj.after, Region.binds md e = true → e.on ≠ i := fun e he hb heq => by
      have h1 := hall e he hb
      have h0 := (mem_ready.1 hr).1
      rw [heq] at h1
      rcases Nat.lt_or_ge i listed.size with h' | h'
      · simp [h'] at h0 h1; rw [h0] at h1; cases h1
      · simp [Array.getElem?_eq_none h'] at h1
     have hjz : j ≠ z := fun e => by
      subst e
      obtain ⟨e, he, hb, hon⟩ := hz oj hoj
      exact hnot e he hb hon
     have h2 := wpOp_putIf hoj (hfree j oj hoj hji hjun hnot) (fun cs b => hsel i oi cs b hi) (fun cs b => hsel j oj cs b hoj) hQ hy h1
     have hfree' : ∀ k ok, ops[k]? = some ok → k ≠ i → (listed.setIfInBounds j true).getD k true = false →
      (∀ e ∈ ok.after, Region.binds md e = true → e.on ≠ i) → oi.apart ops ok = true := fun k ok hk hki hun hno => by
      refine hfree k ok hk hki ?_ hno
      by_cases hjk : j = k
      · subst hjk; exact hjun
      · rw [Go.getD_set_ne true hjk] at hun; exact hun
     refine wpOp_mono (fun a' w' h3 => ⟨fun _ => h3.2.1 hjz, ih (listed.setIfInBounds j true) a' w' hfree' (ready_mono hr (Ne.symm hji)) h3.1 (h3.2.1 hjz) ?_⟩) h2
     rw [Array.setIfInBounds_comm _ _ hji]
     exact h3.2.2
theorem wpAnyL_take {i : Nat} {oi : Oper} {v : Value} {fuel : Nat} {listed : Array Bool} {a : Act} {w : World} (hi : ops[i]? = some oi)
 (hs : Region.noSelect ops = true) (hf : Region.free md ops listed i = true) (hr : (Region.ready md ops listed).contains i = true) (hz : waitsB md ops z i = true)
 (hQ : ∀ c a w, Q (.panic c) (a.put oi.dst v) w → Q (.panic c) a w) (hy : YieldsIf P ops S oi v a) (hS : S w)
 (h : wpAnyL P md ops Q S z fuel (listed.setIfInBounds i true) (a.put oi.dst v) w) : wpAnyL P md ops Q S z (fuel + 1) listed a w :=
 wpAnyL_first hi (Region.noSelect_spec hs) hQ (waits_spec hz) fuel listed a w (Region.free_spec hi hf) (by simpa using hr) hy hS h
theorem wpAnyL_one {i : Nat} {o : Oper} {fuel : Nat} {listed : Array Bool} {a : Act} {w : World} (hr : Region.ready md ops listed = [i]) (ho : ops[i]? = some o)
 (h : ∀ K' : Act → World → Prop, Shut (∀ a w, (i ≠ z → S w) → ((i ≠ z → S w) → wpAnyL P md ops Q S z fuel (listed.setIfInBounds i true) a w) → K' a w) → if Region.wanted o (yielded ops a.tmps) = true then Oper.wp P o a w K' Q else K' (a.put o.dst undef) w) :
 wpAnyL P md ops Q S z (fuel + 1) listed a w := by
 refine ⟨fun h0 => (by rw [hr] at h0; cases h0), fun j hj => ?_⟩
 rw [hr, List.mem_singleton] at hj
 subst hj
 exact wpOp_step ho (fun K' hK => h K' (fun a w hS hW => hK a w ⟨hS, hW hS⟩))
theorem wpAnyL_done {listed : Array Bool} {a : Act} {w : World} (hr : Region.ready md ops listed = []) (h : Q .normal a w) :
 ∀ fuel, wpAnyL P md ops Q S z fuel listed a w
 | 0 => ⟨hr, h⟩
 | _ + 1 => ⟨fun _ => h, by rw [hr]; simp⟩
theorem wp_region_L {id : Nat} {a : Act} {w : World} (S : World → Prop) (z : Nat) (hm : P.follows .mixedOrders = true) (hS : S w.drew)
 (h : S w.drew → wpAnyL P .any ops Q S z ops.size (Array.replicate ops.size false) a w.drew) : (Code.region id ops true).wp P Q a w :=
 wp_region_any hm (wpAny_of_L _ _ _ _ (h hS))
theorem todoL {i : Nat} {is : List Nat} {oi : Oper} {v : Value} {fuel : Nat} {listed : Array Bool} {a : Act} {w : World} (hi : ops[i]? = some oi)
 (hk : (Region.noSelect ops && Region.free md ops listed i && (Region.ready md ops listed).contains i && waitsB md ops z i) = true)
 (hQ : ∀ c a w, Q (.panic c) (a.put oi.dst v) w → Q (.panic c) a w) (hS : S w) (hy : YieldsIf P ops S oi v a)
 (h : Todo is (wpAnyL P md ops Q S z fuel (listed.setIfInBounds i true) (a.put oi.dst v) w)) : Todo (i :: is) (wpAnyL P md ops Q S z (fuel + 1) listed a w) := by
 simp only [Bool.and_eq_true] at hk
 exact wpAnyL_take hi hk.1.1.1 hk.1.1.2 hk.1.2 hk.2 hQ hy hS h
end
section
def elV (s : List Int) (L : List Rat) (xs : List Int) : Rat := if inS s xs then L.getD (placeS s xs).toNat 0 else 0
theorem elV_in {s xs : List Int} {L : List Rat} (h : inS s xs) : elV s L xs = L.getD (placeS s xs).toNat 0 := if_pos h
theorem getD_map_range {n : Nat} (f : Nat → Int) {i : Nat} (h : i < n) : ((List.range n).map f).getD i 0 = f i := by
 simp [List.getD_eq_getElem?_getD, h]
end
section
open Go.RowKit
structure E2 where
 a : Value
 b : Value
end
section
open Go.RowKit
def placesTo (s : List Int) (n : Nat) : List (List Int) := (List.range n).map fun k : Nat => idxS s (k : Int)
def places (s : List Int) : List (List Int) := placesTo s (prodS s).toNat
end
section
open Go.RowKit Go.Shelf
def Told (F : Fence) (n : Nat) (P : Program) (gf : Nat) (lb : Array Value) (Kp : World → World → Prop) (V : Nat → Value → World → Prop) (N : Nat) (w : World) : Prop :=
 ∀ (l : Nat) (J : Nat → World → Prop) (W : World), Below w.heap.size w W → OwnFrom W.heap.size J →
  (∀ k v X, k < N → J k X → V k v X → YieldAt F (n - 1) P l #[v] X fun e Y => e = .returned (.bool true) ∧ J (k + 1) Y ∧ Kp X Y) → J 0 W →
  CallsIn F n P gf (#[.func (.yield l) #[] #[]] ++ lb) W fun e Y => (∃ v, e = .returned v) ∧ J N Y
def toldPost (B : Nat) (Kp : World → World → Prop) (I : World → Prop) (W : World) : Exit → Act → World → Prop
 | .normal, _, Y => KeepsFrom B W Y ∧ Kp W Y ∧ I Y
 | _, _, _ => False
theorem wpIn_rangeFunc_told {F : Fence} {n : Nat} {P : Program} {g : Operand} {ps : Array Tmp} {assign body : Code} {Q : Exit → Act → World → Prop} {a : Act} {w : World}
 {l₀ : Nat} {r₀ : Loop} (hro : F.round = some l₀) (hl₀ : w.heap[l₀]? = some (.loop r₀)) (h1 : 1 ≤ n) {gf : Nat} {lb : Array Value} (hg : a.eval g = .func (.func gf) #[] lb) (hFg : F.fn gf) (eg : ∀ args w, (callFunc gf args).run P w = .ok (.enter gf args) w)
 {Kp : World → World → Prop} {V : Nat → Value → World → Prop} {N : Nat} {w0 : World} (ht : Told F (n - 1) P gf lb Kp V N w0) (hb0 : Below w0.heap.size w0 w) (hps : ps.size = 1)
 (hKt : ∀ {A B C : World}, Kp A B → Kp B C → Kp A C) (hKb : ∀ (W : World) (l : Nat) (r r' : Loop), w.heap.size ≤ l → W.heap[l]? = some (.loop r) → Kp W (W.putObj l (.loop r')))
 (hV : ∀ (k : Nat) (v : Value) (W : World) (l : Nat) (r r' : Loop), w.heap.size ≤ l → W.heap[l]? = some (.loop r) → V k v W → V k v (W.putObj l (.loop r')))
 (I : Nat → World → Prop) (hI : OwnFrom w.heap.size I) (h0 : I 0 w) (a₁ : Value → Act)
 (hassign : ∀ (l : Nat) (v : Value) (W : World) (K : Act → World → Prop), K (a₁ v) W → assign.wpIn (F.inRound l) (n - 1 - 1) P (Exit.then K (fun _ _ _ => False)) { tmps := (ps.zip #[v]).foldl (fun t (p, v) => t.setIfInBounds p v) a.tmps, defers := [] } W)
 (hbody : ∀ (l k : Nat) (v : Value) (W : World), w.heap.size ≤ l → (∃ r, W.heap[l]? = some (.loop r)) → k < N → I k W → V k v W → body.wpIn (F.inRound l) (n - 1 - 1) P (toldPost w.heap.size Kp (I (k + 1)) W) (a₁ v) W)
 (hdone : ∀ W, I N W → Q .normal a W) : (Code.rangeFunc g ps assign body).wpIn F n P Q a w := by
 refine wpIn_rangeFunc ?_
 intro fn hfn
 rw [hro]
 obtain ⟨rc, hrc⟩ : ∃ rc : LoopState → Loop, rc = fun st => { state := st, pending := none, fn, tmps := a.tmps, params := ps, assign, body, defers := r₀.defers } := ⟨_, rfl⟩
 obtain ⟨B, hB⟩ : ∃ B, w.heap.size = B := ⟨_, rfl⟩
 obtain ⟨W1, hW1⟩ : ∃ W1, w.alloc (.loop (rc .ready)) = W1 := ⟨_, rfl⟩
 have hL1 : W1.heap[B]? = some (.loop (rc .ready)) := by rw [← hW1, ← hB]; exact World.alloc_heap_new w _
 have hS1 : W1.heap.size = B + 1 := by rw [← hW1, World.size_alloc, hB]
 have hI1 : I 0 W1 := by rw [← hW1]; exact hI.alloc _ h0
 have hb1 : Below w0.heap.size w0 W1 := by rw [← hW1]; exact hb0.trans (((Below.refl _ w).alloc (Nat.le_refl _) _).mono hb0.size)
 rw [hB] at hKb hV hI hbody
 refine ⟨B, [], W1, { target := .fn (.func gf) lb, args := #[.func (.yield B) #[] #[]] }, W1, gf, #[.func (.yield B) #[] #[]] ++ lb, W1, ?_, ?_, ?_, ?_, fun _ => h1, ?_⟩
 · rw [← hW1, ← hB, hrc]; exact run_enterLoop_inner hl₀ _ _ _ _ _
 · simp only [resolve, hg]
   simp [go_sem]
 · intro f' hf'; simp [Target.leads] at hf'; subst hf'; exact hFg
 · simp [invoke, go_sem, eg]
 refine (ht B (fun k X => I k X ∧ X.heap[B]? = some (.loop (rc .ready))) W1 hb1 (fun k X Y row ⟨hi, hl⟩ hgr hr => ?_) ?_ ⟨hI1, hL1⟩).mono ?_
 · refine ⟨hI k X Y row hi hgr fun r e => ⟨by have := (hr r e).1; omega, (hr r e).2⟩, (hgr.block B (lt_of_block hl) fun e => ?_).trans hl⟩
   have := (hr B e.symm).1
   omega
 · intro k v X hk ⟨hi, hl⟩ hv
   have hy := run_yield (P := P) (args := #[v]) hl (by rw [hrc]; exact hps.symm)
   rw [hrc] at hy
   refine ⟨fn, _, assign, body, hy, roundIn_of_wpIn hfn (hassign _ v X _ ?_)⟩
   refine ⟨_, run_beginRound hl (by rw [hrc]), ?_⟩
   have hlt := lt_of_block hl
   have hl2 : (X.putObj B (.loop { rc .ready with state := .busy })).heap[B]? = some (.loop { rc .ready with state := .busy }) := World.putObj_heap_same hlt
   refine wpIn_mono (hbody B k v _ (Nat.le_refl _) ⟨_, hl2⟩ hk (hI.putObj _ hi (Nat.le_refl _) hl rfl) (hV k v X B _ _ (Nat.le_refl _) hl hv)) ?_
   rintro e a3 Y hp
   cases e with
   | normal =>
     obtain ⟨hk3, hkp, hi3⟩ := hp
     have hl3 := hk3.same _ _ (Nat.le_refl _) hl2 rfl
     have hre := run_endRound (P := P) (none : Option Code) hl3
     refine ⟨_, _, hre, rfl, ⟨hI.putObj _ hi3 (Nat.le_refl _) hl3 rfl, ?_⟩, ?_⟩
     · rw [World.putObj_heap_same (lt_of_block hl3), hrc]
       rfl
     · exact hKt (hKt (hKb X B _ _ (Nat.le_refl _) hl) hkp) (hKb Y B _ _ (Nat.le_refl _) hl3)
   | ret => exact hp.elim
   | exit id => exact hp.elim
   | goto t => exact hp.elim
   | panic ch => exact hp.elim
   | outgrown => exact hp.elim
 · rintro e Y ⟨⟨v, rfl⟩, hi, hl⟩
   have hr := run_endLoop (P := P) hl (by rw [hrc]; simp)
   rw [hrc] at hr
   exact ⟨none, _, hr, hdone _ (hI.putObj _ hi (Nat.le_refl _) hl rfl)⟩
end
end Go.Proofs.YtengpgodmbfmkaaGreat
