/-
  Part 2 of 29: contracts and what they rest on (Todo, Round, Open, RefG, SMem, SMath, SRefB, SRefC, SRefD, SDef, SFacts, SCode1, OMath).
-/
import Derived.WalkKit
import Derived.Test.YtjgiacghlkkjfaaGreatDoorRows
import Derived.OrdersHeld
import Derived.Deep.RegionHeld
import Derived.BigQuiet
import Derived.Deep.QuietTactic
import Derived.Lib.Hide
import Derived.Lib.Small
import Derived.Lib.Walk
import Derived.Lib.BitFns
import Derived.Maps.AppendAt
import Derived.RangeFuncNested
import Derived.RangeFuncBound
import Derived.RangeFuncCalls
import Derived.RangeFuncLeaves
import Derived.Shelf.Abstract
import Derived.OwnWalkIn
import Derived.TacticsInMore
import Derived.LoopNIn
import Derived.LoopIn
import Derived.RangeFuncBox
import Derived.Deep.RegionHeld3
import Derived.OrdersIn
import Derived.StillTailTactics
import Derived.RangeFuncFrom
import Derived.Laws.EntriesVeiled
import Derived.ProofKit
import Derived.OpenShut
import Derived.JoinedCond
import Derived.Carry
import Derived.Laws.AppendOwnNone
import Derived.Lib.ItoaNum
import Derived.Deep.RegionLaw
import Derived.WalkMore
import Derived.Lib.SmallJoins
import Derived.IntWalk
import Derived.Deep.DeepCutAuto
import Derived.Laws.OwnMore
import Derived.ArgAppend
import Derived.Deep.Slices
import Derived.Laws.CopyOwn
import Derived.Lib.SliceRun
import Derived.SizedLaws
namespace Go.Proofs.YtjgiacghlkkjfaaGreatDoor
set_option maxRecDepth 100000
section
variable {P : Program} {ops : Array Oper} {Q : Exit → Act → World → Prop} {md : Region.Mode} {S : World → Prop}
set_option linter.unusedVariables false
/-- these operations are taken next -/
def Todo (_ : List Nat) (G : Prop) : Prop := G
theorem todo {G : Prop} (is : List Nat) (h : Todo is G) : G := h
theorem todone {G : Prop} (h : G) : Todo [] G := h
theorem todoH {i : Nat} {is : List Nat} {oi : Oper} {v : Value} {fuel : Nat} {listed : Array Bool} {a : Act} {w : World} (hi : ops[i]? = some oi)
    (hk : (Region.noSelect ops && Region.free md ops listed i && (Region.ready md ops listed).contains i) = true)
    (hQ : ∀ c a w, Q (.panic c) (a.put oi.dst v) w → Q (.panic c) a w) (hS : S w) (hy : YieldsIf P ops S oi v a)
    (h : Todo is (wpAnyH P md ops Q S fuel (listed.setIfInBounds i true) (a.put oi.dst v) w)) : Todo (i :: is) (wpAnyH P md ops Q S (fuel + 1) listed a w) := by
  simp only [Bool.and_eq_true] at hk
  exact wpAnyH_take hi hk.1.1 hk.1.2 hk.2 hQ hy hS h
end
section
open Go.RowKit
/-- no operation defers -/
def noDefer (ops : Array Oper) : Bool := ops.toList.all fun o => match o.op with | .defer _ => false | _ => true
theorem noDefer_spec {ops : Array Oper} (h : noDefer ops = true) {i : Nat} {o : Oper} (ho : ops[i]? = some o) (c : Call) : o.op ≠ .defer c := by
  intro e
  have hm : o ∈ ops.toList := by
    obtain ⟨hi, rfl⟩ := Array.getElem?_eq_some_iff.1 ho
    exact Array.getElem_mem_toList hi
  have := List.all_eq_true.1 h o hm
  rw [e] at this
  cases this
theorem wpIn_of_wp_round {l n : Nat} {P : Program} {o : Oper} {a : Act} {w : World} {K : Act → World → Prop} {Q : Exit → Act → World → Prop} (hnd : ∀ c, o.op ≠ .defer c)
    (h : o.wp P a w K Q) : o.wpIn (Fence.wide.inRound l) n P a w K Q := by
  unfold Oper.wpIn
  refine ⟨fun _ _ => trivial, ?_⟩
  rw [Oper.semAt_eq _ _ _ hnd]
  unfold Oper.wp at h
  generalize (execOp a.eval o).run P w = r at *
  cases r with
  | ok x w' =>
    cases x with
    | value v => exact h
    | skip => exact h
    | defer d => exact h
    | enter f args => exact ⟨(fun h => by cases h), callsIn_wide.2 h⟩
    | row r args => exact ⟨(fun h => by cases h), fun c cs _ => let ⟨v, w', r, s⟩ := h c cs; ⟨v, w', r, stepsIn_wide.2 s⟩⟩
    | _ => exact h.elim
  | halt x w' => cases x <;> exact h
theorem wpAnyIn_of_round {l n : Nat} {P : Program} {md : Region.Mode} {ops : Array Oper} {Q : Exit → Act → World → Prop} (hnd : noDefer ops = true) (hLO : ¬ LetsOut Q) :
    ∀ (fuel : Nat) (listed : Array Bool) (a : Act) (w : World), wpAny P md ops Q fuel listed a w → wpAnyIn (Fence.wide.inRound l) n P md ops Q fuel listed a w
  | 0, _, _, _, h => h
  | fuel + 1, _, _, _, h => ⟨h.1, fun i hi => by
    have h2 := h.2 i hi
    unfold wpOp at h2
    unfold wpOpIn
    split
    · rename_i he
      rw [he] at h2
      exact wpAnyIn_of_round hnd hLO fuel _ _ _ h2
    · rename_i o ho
      simp only [ho] at h2
      split
      · rename_i hw
        simp only [hw, if_true] at h2
        rcases h2 with h2 | h2
        · exact wpIn_of_wp_round (fun c => noDefer_spec hnd ho c) (Oper.wp_mono (fun a w ha => wpAnyIn_of_round hnd hLO fuel _ a w ha) h2)
        · exact absurd h2.2 hLO
      · rename_i hw
        simp only [hw] at h2
        exact ⟨fun _ _ => trivial, wpAnyIn_of_round hnd hLO fuel _ _ _ h2⟩⟩
theorem region_round {l n id : Nat} {P : Program} {ops : Array Oper} {Q : Exit → Act → World → Prop} {a : Act} {w : World} (S : World → Prop) (hm : P.follows .mixedOrders = true) (hnd : noDefer ops = true) (hLO : ¬ LetsOut Q)
    (hS : S w.drew) (h : S w.drew → wpAnyH P .any ops Q S ops.size (Array.replicate ops.size false) a w.drew) : (Code.region id ops true).wpIn (Fence.wide.inRound l) n P Q a w :=
  wpIn_region_any hm (wpAnyIn_of_round hnd hLO _ _ _ _ (wpAny_of_held _ _ _ _ (h hS)))
end
section
open Go.RowKit Go.ChangeShapes Go.WideShapes Go.ChangeAt
theorem own : ownKnob Tryz.prog.godebug = none := by kernel_rfl
theorem cellsLimb : Tryz.prog.cellsOf 96 = 1 := by kernel_rfl
theorem bulk_pos {H : Type} (d : DataW H) : 1 ≤ Rows.uptoBulk d := by
  cases d with
  | lit l => cases l <;> simp [Rows.uptoBulk]
  | _ => simp [Rows.uptoBulk]
theorem bulk_len {H : Type} (l : List (DataW H)) : l.length ≤ Rows.uptoBulkAll l := by
  induction l with
  | nil => simp [Rows.uptoBulkAll]
  | cons x r ih => have := bulk_pos x; simp only [Rows.uptoBulkAll, List.length_cons]; omega
theorem bulk_slice {H : Type} (elems spare : List (DataW H)) : elems.length ≤ Rows.uptoBulk (.slice elems spare) := by
  have h1 := bulk_len elems
  simp only [Rows.uptoBulk]
  omega
theorem wf_limb {x : Int} (h : (Lit.int .u32 x).wf = true) : 0 ≤ x ∧ x < 4294967296 := by
  simp [Lit.wf, IntKind.min, IntKind.max, IntKind.signed, IntKind.bits] at h
  omega
end
section
open Go.RowKit
theorem quo_eq {V d r N : Int} (hd : 0 < d) (h : V * d + r = N) (hr : 0 ≤ r ∧ r < d) : V = N / d ∧ r = N % d := by
  subst h
  rw [Int.add_comm]
  constructor
  · rw [Int.add_mul_ediv_right _ _ (by omega), Int.ediv_eq_zero_of_lt hr.1 hr.2, Int.zero_add]
  · rw [Int.add_mul_emod_self_right, Int.emod_eq_of_lt hr.1 hr.2]
theorem set_front (j : Nat) (L : List Int) (v : Int) : (List.replicate (j + 1) 0 ++ L).set j v = List.replicate j 0 ++ v :: L := by
  rw [List.replicate_succ', List.append_assoc, List.set_append_right _ _ (by simp)]
  simp
/-- N has k bits -/
def IsBits (N : Int) (k : Nat) : Prop := (k = 0 ∧ N = 0) ∨ ∃ j : Nat, k = j + 1 ∧ 2 ^ j ≤ N ∧ N < 2 ^ (j + 1)
theorem two_pos (k : Nat) : (0 : Int) < 2 ^ k := Int.pow_pos (by omega)
theorem two_mono {j k : Nat} (h : j ≤ k) : (2 : Int) ^ j ≤ 2 ^ k := by
  rw [show k = j + (k - j) from by omega, Int.pow_add]
  have h4 : (2 : Int) ^ j * 1 ≤ 2 ^ j * 2 ^ (k - j) := Int.mul_le_mul_of_nonneg_left (by have := two_pos (k - j); omega) (Int.le_of_lt (two_pos _))
  omega
theorem IsBits.unique {N : Int} {k l : Nat} (h : IsBits N k) (g : IsBits N l) : k = l := by
  rcases h with ⟨rfl, rfl⟩ | ⟨j, rfl, h1, h2⟩
  · rcases g with ⟨rfl, _⟩ | ⟨i, rfl, g1, g2⟩
    · rfl
    · have := two_pos i; omega
  · rcases g with ⟨rfl, rfl⟩ | ⟨i, rfl, g1, g2⟩
    · have := two_pos j; omega
    · rcases Nat.lt_trichotomy j i with e | e | e
      · have := two_mono (show j + 1 ≤ i by omega); omega
      · rw [e]
      · have := two_mono (show i + 1 ≤ j by omega); omega
theorem IsBits.le {N : Int} {k m : Nat} (h : IsBits N k) (hm : N < 2 ^ m) : k ≤ m := by
  rcases h with ⟨rfl, _⟩ | ⟨j, rfl, h1, _⟩
  · omega
  · rcases Nat.lt_or_ge j m with e | e
    · omega
    · have := two_mono e; omega
theorem IsBits.lt {N : Int} {k m : Nat} (h : IsBits N k) (hm : k ≤ m) : N < 2 ^ m := by
  rcases h with ⟨rfl, rfl⟩ | ⟨j, rfl, _, h2⟩
  · exact two_pos m
  · have := two_mono hm; omega
end
section
open Go.RowKit
set_option linter.unusedVariables false
set_option linter.unusedSimpArgs false
/-- the numbers xs lie from the address ad on -/
def LimS (w : World) (ad : Option Addr) (xs : List Int) : Prop :=
  xs = [] ∨ ∃ b off, ad = some ⟨b, off, none⟩ ∧ ∀ i, i < xs.length → w.cell? ⟨b, off + i, none⟩ = some (.int .i64 (xs.getD i 0))
theorem LimS.later {w w' : World} {ad : Option Addr} {xs : List Int} (h : LimS w ad xs) (hb : Below w.heap.size w w') : LimS w' ad xs := by
  rcases h with rfl | ⟨b, off, rfl, hc⟩
  · exact .inl rfl
  · refine .inr ⟨b, off, rfl, fun i hi => ?_⟩
    have hlt := World.block_lt_of_cell? w _ (hc i hi)
    exact (hb.cell (p := ⟨b, off + i, none⟩) hlt).trans (hc i hi)
theorem LimS.lt {w : World} {ad : Option Addr} {xs : List Int} (h : LimS w ad xs) (hn : xs ≠ []) : ∀ a, ad = some a → a.block < w.heap.size := by
  rcases h with rfl | ⟨b, off, rfl, hc⟩
  · exact absurd rfl hn
  · intro a ha
    cases ha
    exact World.block_lt_of_cell? w _ (hc 0 (List.length_pos_iff.2 hn))
/-- v is a slice of the call's own numbers xs -/
def NumS (base : Nat) (w : World) (v : Value) (xs : List Int) : Prop := w.ownsRow base 3 1 v xs.length (xs.map (Value.int .i64))
theorem NumS.read {base : Nat} {w : World} {v : Value} {xs : List Int} (h : NumS base w v xs) : ∃ ad cap, v = .slice ad xs.length cap ∧ LimS w ad xs ∧ xs.length ≤ cap ∧ cap ≤ maxLen ∧ (∀ a, ad = some a → base ≤ a.block ∧ a.block < w.heap.size) := by
  obtain ⟨h1, h2⟩ := h
  rcases h2 with ⟨rfl, hn⟩ | ⟨g, cap, cur, rfl, hb, hg, hc, hm, hs, ht⟩
  · obtain rfl := List.eq_nil_of_length_eq_zero hn
    exact ⟨none, 0, rfl, .inl rfl, Nat.le_refl _, by unfold maxLen; omega, fun a ha => by cases ha⟩
  · refine ⟨_, cap, rfl, .inr ⟨g, 0, rfl, fun i hi => ?_⟩, hc, hm, fun a ha => by cases ha; exact ⟨hb, lt_of_block hg⟩⟩
    have hj := World.ownsRow.cellAt (w := w) (base := base) (e := 3) (size := 1) (g := g) (n := xs.length) (cap := cap) (xs := xs.map (Value.int .i64)) ⟨h1, .inr ⟨g, cap, cur, rfl, hb, hg, hc, hm, hs, ht⟩⟩ i (by omega)
    rw [Nat.zero_add, hj]
    simp [hi]
theorem NumS.lt {base : Nat} {w : World} {v : Value} {xs : List Int} (h : NumS base w v xs) : ∀ k, v.ownBlock = some k → base ≤ k ∧ k < w.heap.size := World.ownsRow.lt h
theorem NumS.kept {base B : Nat} {w w' : World} {v : Value} {xs : List Int} (h : NumS base w v xs) (hb : Below B w w') (hB : ∀ k, v.ownBlock = some k → k < B) : NumS base w' v xs := by
  obtain ⟨h1, h2⟩ := h
  refine ⟨h1, ?_⟩
  rcases h2 with h2 | ⟨g, cap, cur, rfl, hg0, hg, hc, hm, hs, ht⟩
  · exact .inl h2
  · exact .inr ⟨g, cap, cur, rfl, hg0, (hb.block g (hB g rfl)).trans hg, hc, hm, hs, ht⟩
theorem NumS.later {base : Nat} {w w' : World} {v : Value} {xs : List Int} (h : NumS base w v xs) (hb : Below w.heap.size w w') : NumS base w' v xs := h.kept hb fun k hk => (h.lt k hk).2
theorem NumS.mono {base base' : Nat} {w : World} {v : Value} {xs : List Int} (h : NumS base w v xs) (hb : base' ≤ base) : NumS base' w v xs := by
  obtain ⟨h1, h2⟩ := h
  refine ⟨h1, ?_⟩
  rcases h2 with h2 | ⟨g, cap, cur, rfl, hg0, hg, hc, hm, hs, ht⟩
  · exact .inl h2
  · exact .inr ⟨g, cap, cur, rfl, Nat.le_trans hb hg0, hg, hc, hm, hs, ht⟩
/-- a block of numbers, known whole -/
def BlkS (w : World) (g : Nat) (zs : List Int) : Prop := w.heap[g]? = some (.cells (zs.map (Value.int .i64)).toArray 3 (0, 0))
theorem BlkS.made (w : World) (n : Nat) : BlkS (w.alloc (.cells (madeCells #[.int .i64 0] n) 3)) w.heap.size (List.replicate n 0) := by
  have h := heap_alloc_new w (.cells (madeCells #[.int .i64 0] n) 3)
  unfold BlkS
  rw [h]
  congr 2
  apply Array.ext
  · simp [madeCells]
  · intro i h1 h2
    simp [madeCells, Nat.mod_one]
theorem NumS.ofBlk {base g : Nat} {w : World} {zs : List Int} (h : BlkS w g zs) (hb : base ≤ g) (n : Nat) (hn : n ≤ zs.length) (hm : zs.length ≤ maxLen) : NumS base w (.slice (some ⟨g, 0, none⟩) n zs.length) (zs.take n) := by
  have e : (zs.take n).length = n := by rw [List.length_take]; omega
  unfold NumS
  rw [e]
  refine ⟨by rw [List.length_map, e, Nat.mul_one], .inr ⟨g, zs.length, _, rfl, hb, h, hn, hm, by simp, ?_⟩⟩
  simp [List.map_take]
/-- all are of 64 bits -/
def Wid (xs : List Int) : Prop := ∀ x ∈ xs, -9223372036854775808 ≤ x ∧ x ≤ 9223372036854775807
theorem Wid.nil : Wid [] := fun _ h => by cases h
theorem Wid.append {xs ys : List Int} (h : Wid xs) (k : Wid ys) : Wid (xs ++ ys) := fun x hx => (List.mem_append.1 hx).elim (h x) (k x)
theorem Wid.one {x : Int} (h : -9223372036854775808 ≤ x ∧ x ≤ 9223372036854775807) : Wid [x] := fun y hy => by rw [List.mem_singleton.1 hy]; exact h
theorem Wid.getD {xs : List Int} (h : Wid xs) (i : Nat) : -9223372036854775808 ≤ xs.getD i 0 ∧ xs.getD i 0 ≤ 9223372036854775807 := by
  by_cases hi : i < xs.length
  · rw [List.getD_eq_getElem?_getD, List.getElem?_eq_getElem hi]; exact h _ (List.getElem_mem hi)
  · simp [List.getElem?_eq_none (Nat.le_of_not_lt hi)]
/-- an argument: numbers -/
structure ArgS (w : World) (u : Value) (xs : List Int) (ad : Option Addr) (cap : Nat) : Prop where
  is : u = .slice ad xs.length cap
  lim : LimS w ad xs
  le : xs.length ≤ cap
  wf : Wid xs
theorem ArgS.later {w w' : World} {u : Value} {xs : List Int} {ad : Option Addr} {cap : Nat} (h : ArgS w u xs ad cap) (hb : Below w.heap.size w w') : ArgS w' u xs ad cap := ⟨h.is, h.lim.later hb, h.le, h.wf⟩
/-- a result: numbers in new memory -/
structure ResS (base : Nat) (w : World) (u : Value) (xs : List Int) : Prop where
  num : NumS base w u xs
  wf : Wid xs
theorem ResS.later {base : Nat} {w w' : World} {u : Value} {xs : List Int} (h : ResS base w u xs) (hb : Below w.heap.size w w') : ResS base w' u xs := ⟨h.num.later hb, h.wf⟩
theorem infoS : (Tryz.prog.info? 3).map (fun i => (i.zero, i.size, i.bytes)) = some (some (.int .i64 0), 1, 8) := by kernel_rfl
theorem pushS {base : Nat} {w wr w1 : World} {v v' : Value} {ds : List Int} {d : Int} {o : Obj} (hb : Below base w wr) (hbase : base ≤ wr.heap.size) (hown : NumS base wr v ds)
    (hown' : w1.ownsRow base 3 1 v' (ds.length + 1) (ds.map (Value.int .i64) ++ [Value.int .i64 d])) (hgrow : (wr.alloc o).grownBy w1 v.ownBlock) : NumS base w1 v' (ds ++ [d]) ∧ Below base w w1 := by
  refine ⟨?_, (hb.alloc hbase o).grown hgrow (by simp; omega) (fun k hk => (hown.lt k hk).1)⟩
  unfold NumS
  rw [List.length_append, List.map_append]
  exact hown'
theorem ArgS.at {w : World} {u : Value} {xs : List Int} {ad : Option Addr} {cap : Nat} (h : ArgS w u xs ad cap) {i : Nat} (hi : i < xs.length) :
    ∃ b off, ad = some ⟨b, off, none⟩ ∧ w.cell? ⟨b, off + i, none⟩ = some (.int .i64 (xs.getD i 0)) := by
  rcases h.lim with rfl | ⟨b, off, e, hc⟩
  · simp at hi
  · exact ⟨b, off, e, hc i hi⟩
theorem ResS.nil (base : Nat) (w : World) : ResS base w (.slice none 0 0) [] := ⟨⟨rfl, .inl ⟨rfl, rfl⟩⟩, Wid.nil⟩
theorem ResS.mono {base base' : Nat} {w : World} {u : Value} {xs : List Int} (h : ResS base w u xs) (hb : base' ≤ base) : ResS base' w u xs := ⟨h.num.mono hb, h.wf⟩
theorem ResS.slice {base : Nat} {w : World} {u : Value} {xs : List Int} (h : ResS base w u xs) : ∃ ad cap, u = .slice ad xs.length cap ∧ ResS base w (.slice ad xs.length cap) xs ∧ ArgS w (.slice ad xs.length cap) xs ad cap ∧ (ad = none → cap = 0) := by
  obtain ⟨ad, cap, h1, h2, h3, h4, _⟩ := h.num.read
  subst h1
  refine ⟨ad, cap, rfl, h, ⟨rfl, h2, h3, h.wf⟩, fun hn => ?_⟩
  subst hn
  obtain ⟨_, h5⟩ := h.num
  rcases h5 with ⟨e, _⟩ | ⟨g, c, cur, e, _⟩
  · simp only [Value.slice.injEq] at e; exact e.2.2
  · simp at e
theorem cells_argS {w : World} {ys : List Int} {ad : Addr} {cap : Nat} (lx : LimS w (some ad) ys) : ∀ j u, (ys.map (Value.int .i64))[j]? = some u → w.cell? (ad.add j) = some u := by
  intro j u hj
  rcases lx with rfl | ⟨b, off, e, hc⟩
  · simp at hj
  · cases e
    rw [List.getElem?_map] at hj
    have hjl : j < ys.length := by
      rcases Nat.lt_or_ge j ys.length with h | h
      · exact h
      · rw [List.getElem?_eq_none h] at hj; cases hj
    rw [show (⟨b, off, none⟩ : Addr).add j = ⟨b, off + j, none⟩ from (by unfold Addr.add; split <;> simp_all), hc j hjl, ← hj]
    simp [hjl]
end
section
set_option linter.unusedVariables false
set_option linter.unusedSimpArgs false
/-- the product -/
def prodS : List Int → Int
  | [] => 1
  | d :: ds => d * prodS ds
/-- all are at least 1 -/
def posS (s : List Int) : Prop := ∀ x ∈ s, 1 ≤ x
theorem posS.tail {d : Int} {ds : List Int} (h : posS (d :: ds)) : posS ds := fun x hx => h x (List.mem_cons_of_mem _ hx)
theorem posS.head {d : Int} {ds : List Int} (h : posS (d :: ds)) : 1 ≤ d := h d (List.mem_cons_self ..)
theorem posS.drop {s : List Int} (h : posS s) (n : Nat) : posS (s.drop n) := fun x hx => h x (List.mem_of_mem_drop hx)
theorem posS.take {s : List Int} (h : posS s) (n : Nat) : posS (s.take n) := fun x hx => h x (List.mem_of_mem_take hx)
theorem posS.getD {s : List Int} (h : posS s) {i : Nat} (hi : i < s.length) : 1 ≤ s.getD i 0 := by
  rw [List.getD_eq_getElem?_getD, List.getElem?_eq_getElem hi]; exact h _ (List.getElem_mem hi)
theorem prodS_pos {s : List Int} (h : posS s) : 1 ≤ prodS s := by
  induction s with
  | nil => exact Int.le_refl _
  | cons d ds ih =>
    have h1 := h.head
    have h2 := ih h.tail
    have h3 := Int.mul_le_mul h1 h2 (by omega) (by omega)
    unfold prodS
    omega
theorem prodS_append (a b : List Int) : prodS (a ++ b) = prodS a * prodS b := by
  induction a with
  | nil => simp [prodS]
  | cons x xs ih => rw [List.cons_append]; simp only [prodS]; rw [ih, Int.mul_assoc]
theorem prodS_take {s : List Int} {k : Nat} (hk : k < s.length) : prodS (s.take (k + 1)) = prodS (s.take k) * s.getD k 0 := by
  rw [List.take_add_one, List.getElem?_eq_getElem hk, prodS_append, Option.toList_some]
  simp [prodS, List.getD_eq_getElem?_getD, List.getElem?_eq_getElem hk]
theorem prodS_split (s : List Int) (k : Nat) : prodS s = prodS (s.take k) * prodS (s.drop k) := by rw [← prodS_append, List.take_append_drop]
theorem prodS_take_le {s : List Int} (h : posS s) (k : Nat) : prodS (s.take k) ≤ prodS s := by
  have h1 := prodS_pos (h.take k)
  have h2 := prodS_pos (h.drop k)
  rw [prodS_split s k]
  have := Int.mul_le_mul_of_nonneg_left h2 (show 0 ≤ prodS (s.take k) by omega)
  omega
theorem getD_le_prod {s : List Int} (h : posS s) {k : Nat} (hk : k < s.length) : s.getD k 0 ≤ prodS s := by
  have h1 := prodS_pos (h.take k)
  have h2 := prodS_take_le h (k + 1)
  have h3 := h.getD hk
  rw [prodS_take hk] at h2
  have := Int.mul_le_mul_of_nonneg_right h1 (show 0 ≤ s.getD k 0 by omega)
  omega
/-- why a shape may not be: 0, or an error -/
def mayC (s : List Int) : Int := if 4 < s.length then 14 else if s.any (fun x => decide (x < 1)) = true then 13 else if 1024 < prodS s then 14 else 0
theorem any_pos (s : List Int) : s.any (fun x => decide (x < 1)) = true ↔ ¬ posS s := by
  rw [List.any_eq_true]
  unfold posS
  constructor
  · intro ⟨x, hx, h⟩ hp
    have := hp x hx
    simp at h
    omega
  · intro h
    apply Classical.byContradiction
    intro hn
    apply h
    intro x hx
    rcases Int.lt_or_le x 1 with g | g
    · exact absurd ⟨x, hx, by simpa using g⟩ hn
    · exact g
structure OkS (s : List Int) : Prop where
  rank : s.length ≤ 4
  pos : posS s
  few : prodS s ≤ 1024
theorem mayC_zero {s : List Int} : mayC s = 0 ↔ OkS s := by
  unfold mayC
  constructor
  · intro h
    split at h
    · cases h
    · split at h
      · cases h
      · next h1 h2 =>
        split at h
        · cases h
        · rw [any_pos, Classical.not_not] at h2
          exact ⟨by omega, h2, by omega⟩
  · intro h
    rw [if_neg (by have := h.rank; omega), if_neg (by rw [any_pos, Classical.not_not]; exact h.pos), if_neg (by have := h.few; omega)]
theorem mayC_ok {s : List Int} (h : OkS s) : mayC s = 0 := mayC_zero.2 h
theorem mayC_rank {s : List Int} (h : 4 < s.length) : mayC s = 14 := by unfold mayC; rw [if_pos h]
theorem mayC_dim {s : List Int} (h : s.length ≤ 4) (h2 : ¬ posS s) : mayC s = 13 := by unfold mayC; rw [if_neg (by omega), if_pos ((any_pos s).2 h2)]
theorem mayC_count {s : List Int} (h : s.length ≤ 4) (h2 : posS s) (h3 : 1024 < prodS s) : mayC s = 14 := by unfold mayC; rw [if_neg (by omega), if_neg (by rw [any_pos, Classical.not_not]; exact h2), if_pos h3]
/-- how many elements -/
def countS (s : List Int) : Int := if mayC s = 0 then prodS s else 0
theorem OkS.count {s : List Int} (h : OkS s) : countS s = prodS s := by unfold countS; rw [if_pos (mayC_ok h)]
theorem count_bad {s : List Int} (h : mayC s ≠ 0) : countS s = 0 := by unfold countS; rw [if_neg h]
/-- the index of a place -/
def idxS : List Int → Int → List Int
  | [], _ => []
  | _ :: ds, n => n / prodS ds :: idxS ds (n % prodS ds)
end
section
open Go.RowKit
set_option linter.unusedVariables false
set_option linter.unusedSimpArgs false
theorem belowS_drew (B : Nat) (w : World) (n : Nat) : Below B w (w.drewN n) := ⟨rfl, rfl, rfl, Nat.le_refl _, fun _ _ => rfl⟩
theorem take_all {xs : List Int} {n : Nat} (h : xs.length = n) : xs.take n = xs := List.take_of_length_le (by omega)
theorem getD_some {xs : List Int} {k : Nat} (h : k < xs.length) : xs[k]? = some (xs.getD k 0) := by rw [List.getD_eq_getElem?_getD, List.getElem?_eq_getElem h]; rfl
theorem take_next {xs : List Int} {k : Nat} (h : k < xs.length) : xs.take (k + 1) = xs.take k ++ [xs.getD k 0] := by rw [List.take_add_one, getD_some h]; rfl
/-- is it a permutation? -/
def permB (p : List Int) (rank : Int) : Bool := decide (∀ n, n < p.length → (n : Int) ∈ p) && decide ((p.length : Int) = max rank 0)
/-- a dimension from the end -/
def backS (s : List Int) (k : Nat) : Int := if s.length < k then 0 else s.getD (s.length - k) 0
end
section
open Go.RowKit
set_option linter.unusedVariables false
set_option linter.unusedSimpArgs false
/-- are these axes? -/
def axesB (l : List Int) (rank : Int) : Bool := decide (∀ i, i < l.length → (0 ≤ l.getD i 0 ∧ l.getD i 0 < rank) ∧ (0 < i → l.getD (i - 1) 0 < l.getD i 0))
/-- from the end on, up to k dimensions, does a shape fit? -/
def fitU (f t : List Int) (k : Nat) : Prop := ∀ j, 1 ≤ j → j ≤ k → backS t j ≠ 0 ∧ (backS f j = 1 ∨ backS f j = backS t j)
instance fitU_dec (f t : List Int) (k : Nat) : Decidable (fitU f t k) := decidable_of_iff (∀ j, j < k + 1 → 1 ≤ j → backS t j ≠ 0 ∧ (backS f j = 1 ∨ backS f j = backS t j))
  ⟨fun h j h1 h2 => h j (by omega) h1, fun h j h1 h2 => h j h2 (by omega)⟩
/-- why a shape does not fit: 0, or an error -/
def fitC (f t : List Int) : Int := if mayC f ≠ 0 then mayC f else if mayC t ≠ 0 then mayC t else if fitU f t f.length then 0 else 13
theorem fitC_from {f t : List Int} (h : mayC f ≠ 0) : fitC f t = mayC f := by unfold fitC; rw [if_pos h]
theorem fitC_to {f t : List Int} (h : mayC f = 0) (h2 : mayC t ≠ 0) : fitC f t = mayC t := by unfold fitC; rw [if_neg (by rw [h]; simp), if_pos h2]
theorem fitC_ok {f t : List Int} (h : mayC f = 0) (h2 : mayC t = 0) (h3 : fitU f t f.length) : fitC f t = 0 := by unfold fitC; rw [if_neg (by rw [h]; simp), if_neg (by rw [h2]; simp), if_pos h3]
theorem fitC_bad {f t : List Int} (h : mayC f = 0) (h2 : mayC t = 0) (h3 : ¬ fitU f t f.length) : fitC f t = 13 := by unfold fitC; rw [if_neg (by rw [h]; simp), if_neg (by rw [h2]; simp), if_neg h3]
end
section
open Go.RowKit
set_option linter.unusedVariables false
set_option linter.unusedSimpArgs false
/-- the axes that are grown, among the first j -/
def grownL (f t : List Int) : Nat → List Int
  | 0 => []
  | j + 1 => grownL f t j ++ (if backS f (t.length - j) = backS t (t.length - j) then [] else [(j : Int)])
def grownS (f t : List Int) : List Int := if fitC f t = 0 then grownL f t t.length else []
/-- a shape without some dimensions -/
def dropL (s axes : List Int) : Nat → List Int
  | 0 => []
  | j + 1 => dropL s axes j ++ (if (j : Int) ∈ axes then [] else [s.getD j 0])
def dropS (s axes : List Int) : List Int := dropL s axes s.length
/-- a shape with 1 for some dimensions -/
def onesL (s axes : List Int) : Nat → List Int
  | 0 => []
  | j + 1 => onesL s axes j ++ [if (j : Int) ∈ axes then 1 else s.getD j 0]
def onesS (s axes : List Int) : List Int := onesL s axes s.length
theorem dropL_le (s axes : List Int) (j : Nat) : (dropL s axes j).length ≤ j := by
  induction j with
  | zero => simp [dropL]
  | succ j ih =>
    simp only [dropL, List.length_append]
    by_cases h : (j : Int) ∈ axes
    · rw [if_pos h]; simp only [List.length_nil]; omega
    · rw [if_neg h]; simp only [List.length_cons, List.length_nil]; omega
theorem onesL_len (s axes : List Int) (j : Nat) : (onesL s axes j).length = j := by
  induction j with
  | zero => rfl
  | succ j ih => simp only [onesL, List.length_append, ih]; rfl
end
section
set_option linter.unusedVariables false
set_option linter.unusedSimpArgs false
def permC (p : List Int) (rank : Int) : Int := if permB p rank = true then 0 else 11
def invL (p : List Int) : List Int := (List.range p.length).map fun i : Nat => (p.idxOf (i : Int) : Int)
def invV (p : List Int) : List Int := if permB p p.length = true then invL p else []
def axesC (l : List Int) (rank : Int) : Int := if axesB l rank = true then 0 else 11
end
section
set_option linter.unusedVariables false
set_option linter.unusedSimpArgs false
theorem perm_of_all {p q : List Int} (hq : q.Nodup) (hs : ∀ x, x ∈ q → x ∈ p) (hl : p.length ≤ q.length) : p.Perm q := by
  induction q generalizing p with
  | nil =>
    obtain rfl := List.eq_nil_of_length_eq_zero (show p.length = 0 by simpa using hl)
    exact List.Perm.refl _
  | cons a q ih =>
    obtain ⟨l1, l2, rfl⟩ := List.append_of_mem (hs a (List.mem_cons_self ..))
    rw [List.nodup_cons] at hq
    have h2 := ih (p := l1 ++ l2) hq.2 (fun x hx => by
      have := hs x (List.mem_cons_of_mem _ hx)
      have hne : x ≠ a := fun e => hq.1 (e ▸ hx)
      rcases List.mem_append.1 this with h | h
      · exact List.mem_append.2 (.inl h)
      · rcases List.mem_cons.1 h with h | h
        · exact absurd h hne
        · exact List.mem_append.2 (.inr h)) (by simp only [List.length_append, List.length_cons] at hl ⊢; omega)
    exact (List.perm_middle).trans (List.Perm.cons a h2)
def upS (n : Nat) : List Int := (List.range n).map fun i : Nat => (i : Int)
theorem upS_length (n : Nat) : (upS n).length = n := by simp [upS]
theorem mem_upS {n : Nat} {x : Int} : x ∈ upS n ↔ 0 ≤ x ∧ x < n := by
  unfold upS
  rw [List.mem_map]
  constructor
  · rintro ⟨i, hi, rfl⟩
    rw [List.mem_range] at hi
    omega
  · intro h
    exact ⟨x.toNat, List.mem_range.2 (by omega), by omega⟩
theorem upS_nodup (n : Nat) : (upS n).Nodup := by
  unfold upS
  induction n with
  | zero => simp
  | succ n ih =>
    rw [List.range_succ, List.map_append, List.nodup_append]
    refine ⟨ih, by simp, fun a ha b hb => ?_⟩
    simp only [List.map_cons, List.map_nil, List.mem_singleton] at hb
    rw [List.mem_map] at ha
    obtain ⟨i, hi, rfl⟩ := ha
    rw [List.mem_range] at hi
    omega
structure IsPerm (p : List Int) : Prop where
  nodup : p.Nodup
  mem : ∀ x, x ∈ p ↔ 0 ≤ x ∧ x < p.length
theorem permB_is {p : List Int} {r : Int} (h : permB p r = true) : IsPerm p ∧ (p.length : Int) = max r 0 := by
  unfold permB at h
  rw [Bool.and_eq_true, decide_eq_true_iff, decide_eq_true_iff] at h
  have hp := perm_of_all (upS_nodup p.length) (fun x hx => by
    rw [mem_upS] at hx
    have := h.1 x.toNat (by omega)
    rwa [show ((x.toNat : Nat) : Int) = x by omega] at this) (by rw [upS_length]; exact Nat.le_refl _)
  exact ⟨⟨hp.nodup_iff.2 (upS_nodup _), fun x => by rw [hp.mem_iff, mem_upS]⟩, h.2⟩
theorem is_permB {p : List Int} (h : IsPerm p) : permB p p.length = true := by
  unfold permB
  rw [Bool.and_eq_true, decide_eq_true_iff, decide_eq_true_iff]
  exact ⟨fun n hn => (h.mem _).2 (by omega), by omega⟩
theorem invL_length (p : List Int) : (invL p).length = p.length := by simp [invL]
theorem invL_at (p : List Int) {i : Nat} (h : i < p.length) : (invL p).getD i 0 = (p.idxOf (i : Int) : Int) := by
  unfold invL
  rw [List.getD_eq_getElem?_getD, List.getElem?_map, List.getElem?_range h]; rfl
theorem getD_elem {p : List Int} {i : Nat} (h : i < p.length) : p.getD i 0 = p[i] := by simp [List.getD_eq_getElem?_getD, List.getElem?_eq_getElem h]
theorem IsPerm.back {p : List Int} (h : IsPerm p) {i : Nat} (hi : i < p.length) : (0 ≤ p.getD i 0 ∧ p.getD i 0 < p.length) ∧ (invL p).getD (p.getD i 0).toNat 0 = (i : Int) := by
  have hm := (h.mem (p.getD i 0)).1 (by rw [getD_elem hi]; exact List.getElem_mem hi)
  refine ⟨hm, ?_⟩
  rw [invL_at p (by omega), show (((p.getD i 0).toNat : Nat) : Int) = p.getD i 0 by omega, getD_elem hi, h.nodup.idxOf_getElem]
theorem IsPerm.inv {p : List Int} (h : IsPerm p) : IsPerm (invL p) := by
  have hall : ∀ x, x ∈ upS p.length → x ∈ invL p := fun x hx => by
    rw [mem_upS] at hx
    obtain ⟨h1, h2⟩ := h.back (i := x.toNat) (by omega)
    have hlt : (p.getD x.toNat 0).toNat < (invL p).length := by rw [invL_length]; omega
    have := List.getElem_mem hlt
    rw [← getD_elem hlt, h2] at this
    rwa [show ((x.toNat : Nat) : Int) = x by omega] at this
  have hp := perm_of_all (upS_nodup p.length) hall (by rw [upS_length, invL_length]; exact Nat.le_refl _)
  exact ⟨hp.nodup_iff.2 (upS_nodup _), fun x => by rw [hp.mem_iff, mem_upS, invL_length]⟩
theorem back_pos {s : List Int} (ok : OkS s) {k : Nat} (h1 : 1 ≤ k) (h2 : k ≤ s.length) : 1 ≤ backS s k := by
  unfold backS
  rw [if_neg (by omega)]
  exact ok.pos.getD (by omega)
theorem back_zero {s : List Int} {k : Nat} (h : s.length < k) : backS s k = 0 := by unfold backS; rw [if_pos h]
theorem fitC_of {f t : List Int} (h1 : OkS f) (h2 : OkS t) (h3 : fitU f t f.length) : fitC f t = 0 := fitC_ok (mayC_ok h1) (mayC_ok h2) h3
theorem ones_len (s axes : List Int) : (onesS s axes).length = s.length := onesL_len s axes s.length
theorem onesL_at (s axes : List Int) (j i : Nat) (h : i < j) : (onesL s axes j).getD i 0 = if (i : Int) ∈ axes then 1 else s.getD i 0 := by
  induction j with
  | zero => omega
  | succ j ih =>
    simp only [onesL]
    by_cases hij : i < j
    · rw [List.getD_eq_getElem?_getD, List.getElem?_append_left (by rw [onesL_len]; exact hij), ← List.getD_eq_getElem?_getD]
      exact ih hij
    · obtain rfl : i = j := by omega
      rw [List.getD_eq_getElem?_getD, List.getElem?_append_right (by rw [onesL_len]; exact Nat.le_refl _), onesL_len, Nat.sub_self]
      rfl
theorem ones_at (s axes : List Int) {i : Nat} (h : i < s.length) : (onesS s axes).getD i 0 = if (i : Int) ∈ axes then 1 else s.getD i 0 := onesL_at s axes s.length i h
theorem prod_two (s axes : List Int) (ps : posS s) (j : Nat) (hj : j ≤ s.length) : prodS (dropL s axes j) = prodS (onesL s axes j) ∧ prodS (onesL s axes j) ≤ prodS (s.take j) ∧ posS (onesL s axes j) ∧ posS (dropL s axes j) := by
  induction j with
  | zero => exact ⟨rfl, by simp [onesL, prodS], (fun x h => by simp [onesL] at h), (fun x h => by simp [dropL] at h)⟩
  | succ j ih =>
    obtain ⟨h1, h2, h3, h4⟩ := ih (by omega)
    have hx := ps.getD (i := j) (by omega)
    have p1 := prodS_pos h3
    simp only [onesL, dropL]
    rw [prodS_take (by omega), prodS_append, prodS_append]
    by_cases hm : (j : Int) ∈ axes
    · rw [if_pos hm, if_pos hm]
      simp only [prodS, Int.mul_one]
      have := Int.mul_le_mul_of_nonneg_left hx (show 0 ≤ prodS (s.take j) by have := prodS_pos (ps.take j); omega)
      refine ⟨h1, by omega, fun x h => ?_, fun x h => h4 x (by simpa using h)⟩
      rcases List.mem_append.1 h with h | h
      · exact h3 x h
      · rw [List.mem_singleton.1 h]; omega
    · rw [if_neg hm, if_neg hm]
      simp only [prodS, Int.mul_one]
      refine ⟨by rw [h1], Int.mul_le_mul_of_nonneg_right h2 (by omega), fun x h => ?_, fun x h => ?_⟩
      · rcases List.mem_append.1 h with h | h
        · exact h3 x h
        · rw [List.mem_singleton.1 h]; exact hx
      · rcases List.mem_append.1 h with h | h
        · exact h4 x h
        · rw [List.mem_singleton.1 h]; exact hx
theorem drop_ok {s : List Int} (axes : List Int) (h : OkS s) : OkS (dropS s axes) := by
  obtain ⟨h1, h2, _, h4⟩ := prod_two s axes h.pos s.length (Nat.le_refl _)
  rw [take_all rfl] at h2
  exact ⟨by have := dropL_le s axes s.length; have := h.rank; unfold dropS; omega, h4, by have := h.few; unfold dropS; omega⟩
end
section
open Go.RowKit
set_option linter.unusedVariables false
set_option linter.unusedSimpArgs false
def belowB (n m : Int) : Bool := decide (0 ≤ n ∧ n < m)
theorem belowB_yes {n m : Int} (h : 0 ≤ n) (h2 : n < m) : belowB n m = true := decide_eq_true ⟨h, h2⟩
theorem belowB_no {n m : Int} (h : n < 0 ∨ m ≤ n) : belowB n m = false := decide_eq_false (by omega)
set_option maxRecDepth 100000 in
set_option maxHeartbeats 2000000 in
theorem below_any (n m : Int) (w : World) : Calls Tryz.prog 227 #[.int .i64 n, .int .i64 m] w fun e w' => e = .returned (.bool (belowB n m)) ∧ w = w' := by
  obtain ⟨b, hb⟩ : ∃ b, belowB n m = b := ⟨_, rfl⟩
  rw [hb]
  by_cases h0 : 0 ≤ n
  · by_cases h1 : n < m
    · obtain rfl : b = true := by rw [← hb, belowB_yes h0 h1]
      clear hb
      go_enter Tryz.func227, Tryz.ntmps227
      go_wp2
      go_ret
      exact ⟨rfl, rfl⟩
    · obtain rfl : b = false := by rw [← hb, belowB_no (by omega)]
      clear hb
      go_enter Tryz.func227, Tryz.ntmps227
      go_wp2
      go_ret
      exact ⟨rfl, rfl⟩
  · obtain rfl : b = false := by rw [← hb, belowB_no (by omega)]
    clear hb
    go_enter Tryz.func227, Tryz.ntmps227
    go_wp2
    go_ret
    exact ⟨rfl, rfl⟩
/-- what has been counted of the first k dimensions: the product, the error -/
def Cnt (s : List Int) (k : Nat) (n e : Int) : Prop := posS (s.take k) ∧ 1 ≤ n ∧ n ≤ 1024 ∧ (e = 0 ∧ n = prodS (s.take k) ∨ e = 14 ∧ 1024 < prodS (s.take k))
theorem Cnt.nil (s : List Int) : Cnt s 0 1 0 := ⟨(fun x h => by simp at h), by omega, by omega, .inl ⟨rfl, rfl⟩⟩
theorem quo_lt {d n : Int} (h1 : 1 ≤ n) : 1024 / n < d ↔ 1024 < n * d := by
  rw [Int.ediv_lt_iff_lt_mul (by omega), Int.mul_comm]
theorem take_pos {s : List Int} {k : Nat} {d : Int} (h : posS (s.take k)) (hd : s[k]? = some d) (h1 : 1 ≤ d) : posS (s.take (k + 1)) := by
  rw [List.take_add_one, hd, Option.toList_some]
  intro x hx
  rcases List.mem_append.1 hx with h2 | h2
  · exact h x h2
  · rw [List.mem_singleton.1 h2]; exact h1
theorem prod_next {s : List Int} {k : Nat} {d : Int} (hd : s[k]? = some d) : prodS (s.take (k + 1)) = prodS (s.take k) * d := by
  have hk : k < s.length := by
    rcases Nat.lt_or_ge k s.length with g | g
    · exact g
    · rw [List.getElem?_eq_none g] at hd; cases hd
  rw [prodS_take hk, List.getD_eq_getElem?_getD, hd]
  rfl
theorem Cnt.big {s : List Int} {k : Nat} {n e d : Int} (h : Cnt s k n e) (hd : s[k]? = some d) (h1 : 1 ≤ d) (h2 : 1024 / n < d) : Cnt s (k + 1) n 14 := by
  obtain ⟨hp, n1, n2, h3⟩ := h
  refine ⟨take_pos hp hd h1, n1, n2, .inr ⟨rfl, ?_⟩⟩
  rw [prod_next hd]
  rw [quo_lt n1] at h2
  rcases h3 with ⟨_, rfl⟩ | ⟨_, h4⟩
  · exact h2
  · have := Int.mul_le_mul_of_nonneg_left h1 (show 0 ≤ prodS (s.take k) by omega)
    omega
theorem Cnt.next {s : List Int} {k : Nat} {n e d : Int} (h : Cnt s k n e) (hd : s[k]? = some d) (h1 : 1 ≤ d) (h2 : ¬ 1024 / n < d) : Cnt s (k + 1) (n * d) e ∧ 1 ≤ n * d ∧ n * d ≤ 1024 := by
  obtain ⟨hp, n1, n2, h3⟩ := h
  rw [quo_lt n1] at h2
  have h5 : 1 * 1 ≤ n * d := Int.mul_le_mul n1 h1 (by omega) (by omega)
  refine ⟨⟨take_pos hp hd h1, by omega, by omega, ?_⟩, by omega, by omega⟩
  rw [prod_next hd]
  rcases h3 with ⟨h3, rfl⟩ | ⟨h3, h4⟩
  · exact .inl ⟨h3, rfl⟩
  · refine .inr ⟨h3, ?_⟩
    have := Int.mul_le_mul_of_nonneg_left h1 (show 0 ≤ prodS (s.take k) by omega)
    omega
set_option maxRecDepth 100000 in
set_option maxHeartbeats 2000000 in
theorem cnt_any {u : Value} {xs : List Int} {ad : Option Addr} {cap : Nat} {w : World} (A : ArgS w u xs ad cap) :
    Calls Tryz.prog 137 #[u] w fun e w' => e = .returned (.tuple #[.int .i64 (countS xs), .int .i64 (mayC xs)]) ∧ w = w' := by
  have HA := Lib.hid A
  obtain rfl := A.is
  obtain ⟨L, hL⟩ : ∃ L, xs.length = L := ⟨_, rfl⟩
  have HL := Lib.hid hL
  obtain ⟨c, hc⟩ : ∃ c, mayC xs = c := ⟨_, rfl⟩
  have HC := Lib.hid hc
  obtain ⟨t, ht⟩ : ∃ t, countS xs = t := ⟨_, rfl⟩
  have HT := Lib.hid ht
  rw [hL, hc, ht]
  clear A hL hc ht
  by_cases h4 : 4 < L
  · have hm : mayC xs = 14 := mayC_rank (by rw [HL.out]; exact h4)
    obtain rfl : c = 14 := by rw [← HC.out]; exact hm
    obtain rfl : t = 0 := by rw [← HT.out]; exact count_bad (by rw [hm]; decide)
    have h4I : (4 : Int) < (L : Int) := by omega
    clear hm
    go_enter Tryz.func137, Tryz.ntmps137
    go_wp2
    go_step3
    go_wp2
    rw [Exit.noGoto_ret]
    go_ret2
    exact ⟨rfl, rfl⟩
  · have h4I : ¬ (4 : Int) < (L : Int) := by omega
    go_enter Tryz.func137, Tryz.ntmps137
    go_wp2
    go_step3
    go_wp2
    go_step3
    go_wp2
    go_loop [4, 5, 13] (fun n e i => ∃ (k : Nat) (N E : Int), i = .int .i64 (k : Int) ∧ n = .int .i64 N ∧ e = .int .i64 E ∧ k ≤ L ∧ Cnt xs k N E) (fun _ _ i => L - (intOf i).toNat)
    case atStart => exact ⟨0, 1, 0, rfl, rfl, rfl, Nat.zero_le _, Cnt.nil _⟩
    case round =>
      obtain ⟨k, N, E, rfl, rfl, rfl, hkL, hI⟩ := hrel
      obtain ⟨hp, n1, n2, hE⟩ := hI
      by_cases hlt : k < L
      · obtain ⟨b, off, rfl, hc⟩ := HA.out.at (i := k) (by rw [HL.out]; exact hlt)
        have hx : xs[k]? = some (xs.getD k 0) := by rw [List.getD_eq_getElem?_getD, List.getElem?_eq_getElem (by rw [HL.out]; exact hlt)]; rfl
        obtain ⟨x, hxe⟩ : ∃ x, xs.getD k 0 = x := ⟨_, rfl⟩
        rw [hxe] at hc hx
        have HX := Lib.hid hx
        have hltI : (k : Int) < (L : Int) := by omega
        have HI : Hid (Cnt xs k N E) := Lib.hid ⟨hp, n1, n2, hE⟩
        clear hxe hx hp hE
        by_cases h1 : x < 1
        · have hm : mayC xs = 13 := by
            refine mayC_dim (by rw [HL.out]; omega) fun hp => ?_
            have := hp x (List.mem_of_getElem? HX.out)
            omega
          obtain rfl : c = 13 := by rw [← HC.out]; exact hm
          obtain rfl : t = 0 := by rw [← HT.out]; exact count_bad (by rw [hm]; decide)
          clear hm
          go_wp2
          go_ret2
          exact ⟨rfl, rfl⟩
        · by_cases h2 : 1024 / N < x
          · go_wp2
            go_round
            case rel => exact ⟨k + 1, N, 14, by go_num, rfl, rfl, by omega, HI.out.big HX.out (by omega) h2⟩
            case measure => simp [intOf]; omega
          · obtain ⟨hI, m1, m2⟩ := HI.out.next HX.out (by omega) h2
            have hw : wrap64 (N * x) = N * x := by unfold wrap64; omega
            have HJ := Lib.hid hI
            clear hI
            go_wp2
            go_round
            case rel => exact ⟨k + 1, _, E, by go_num, by first | rfl | rw [hw], rfl, by omega, HJ.out⟩
            case measure => simp [intOf]; omega
      · obtain rfl : k = L := by omega
        have hltI : ¬ (k : Int) < (k : Int) := by omega
        rw [List.take_of_length_le (by rw [HL.out]; exact Nat.le_refl _)] at hE hp
        rcases hE with ⟨rfl, hN⟩ | ⟨rfl, hN⟩
        · have ok : OkS xs := ⟨by rw [HL.out]; omega, hp, by omega⟩
          obtain rfl : c = 0 := by rw [← HC.out]; exact mayC_ok ok
          obtain rfl : t = N := by rw [← HT.out, ok.count]; exact hN.symm
          clear hN hp ok
          go_wp2
          go_ret2
          exact ⟨rfl, rfl⟩
        · have hm : mayC xs = 14 := mayC_count (by rw [HL.out]; omega) hp hN
          obtain rfl : c = 14 := by rw [← HC.out]; exact hm
          obtain rfl : t = 0 := by rw [← HT.out]; exact count_bad (by rw [hm]; decide)
          clear hN hp hm
          go_wp2
          go_ret2
          exact ⟨rfl, rfl⟩
set_option maxRecDepth 100000 in
set_option maxHeartbeats 2000000 in
theorem mayS_eq {u : Value} {xs : List Int} {ad : Option Addr} {cap : Nat} {w : World} (A : ArgS w u xs ad cap) :
    Calls Tryz.prog 107 #[u] w fun e w' => e = .returned (.int .i64 (mayC xs)) ∧ w = w' := by
  have h := cnt_any A
  obtain rfl := A.is
  obtain ⟨c, hc⟩ : ∃ c, mayC xs = c := ⟨_, rfl⟩
  obtain ⟨t, ht⟩ : ∃ t, countS xs = t := ⟨_, rfl⟩
  obtain ⟨L, hL⟩ : ∃ L, xs.length = L := ⟨_, rfl⟩
  rw [hc, ht, hL] at h
  rw [hc, hL]
  clear A hc ht hL
  go_enter Tryz.func107, Tryz.ntmps107
  go_wp2_with (go_at_call 137; refine h.mono ?_; rintro e w1 ⟨rfl, rfl⟩)
  go_ret
  exact ⟨rfl, rfl⟩
set_option maxRecDepth 100000 in
set_option maxHeartbeats 2000000 in
theorem countS_eq {u : Value} {xs : List Int} {ad : Option Addr} {cap : Nat} {w : World} (A : ArgS w u xs ad cap) :
    Calls Tryz.prog 172 #[u] w fun e w' => e = .returned (.int .i64 (countS xs)) ∧ w = w' := by
  have h := cnt_any A
  obtain rfl := A.is
  obtain ⟨c, hc⟩ : ∃ c, mayC xs = c := ⟨_, rfl⟩
  obtain ⟨t, ht⟩ : ∃ t, countS xs = t := ⟨_, rfl⟩
  obtain ⟨L, hL⟩ : ∃ L, xs.length = L := ⟨_, rfl⟩
  rw [hc, ht, hL] at h
  rw [ht, hL]
  clear A hc ht hL
  go_enter Tryz.func172, Tryz.ntmps172
  go_wp2_with (go_at_call 137; refine h.mono ?_; rintro e w1 ⟨rfl, rfl⟩)
  go_ret
  exact ⟨rfl, rfl⟩
theorem mayS_any {u : Value} {xs : List Int} {ad : Option Addr} {cap : Nat} {w : World} (A : ArgS w u xs ad cap) (hx : xs.length ≤ 17592186044416) :
    Calls Tryz.prog 107 #[u] w fun e w' => e = .returned (.int .i64 (mayC xs)) ∧ Below w.heap.size w w' :=
  (mayS_eq A).mono fun _ _ ⟨h1, h2⟩ => ⟨h1, h2 ▸ Below.refl _ _⟩
theorem countS_any {u : Value} {xs : List Int} {ad : Option Addr} {cap : Nat} {w : World} (A : ArgS w u xs ad cap) (hx : xs.length ≤ 17592186044416) :
    Calls Tryz.prog 172 #[u] w fun e w' => e = .returned (.int .i64 (countS xs)) ∧ Below w.heap.size w w' :=
  (countS_eq A).mono fun _ _ ⟨h1, h2⟩ => ⟨h1, h2 ▸ Below.refl _ _⟩
set_option maxRecDepth 100000 in
set_option maxHeartbeats 4000000 in
theorem eqI_any {w : World} {xs ys : List Int} {a b : Option Addr} {c d : Nat} (A : ArgS w (.slice a xs.length c) xs a c) (B : ArgS w (.slice b ys.length d) ys b d) (hx : xs.length ≤ 70368744177664) (hy : ys.length ≤ 70368744177664) :
    Calls Tryz.prog 85 #[.slice a xs.length c, .slice b ys.length d] w fun e w' => e = .returned (.bool (decide (xs = ys))) ∧ Below w.heap.size w w' := by
  by_cases hl : xs.length = ys.length
  case neg =>
    have hne : decide (xs = ys) = false := decide_eq_false (fun h => hl (by rw [h]))
    have hn1 : ((xs.length : Int) != (ys.length : Int)) = true := by simp; omega
    rw [hne]
    clear hl hne
    go_enter Tryz.func85, Tryz.ntmps85
    go_wp2_with fail
    go_ret
    exact ⟨rfl, Below.refl _ _⟩
  obtain ⟨m, hm⟩ : ∃ m, xs.length = m := ⟨_, rfl⟩
  have hm2 : ys.length = m := by omega
  have la := A.lim
  have lb := B.lim
  have hext : (∀ j, j < m → xs.getD j 0 = ys.getD j 0) → xs = ys := by
    intro h
    apply List.ext_getElem (by omega)
    intro i h1 h2
    have := h i (by omega)
    simpa [h1, h2] using this
  have HX := Lib.hid hext
  have hmm : ((m : Int) != (m : Int)) = false := by simp
  have HL1 := Lib.hid hm
  have HL2 := Lib.hid hm2
  rw [hm] at hx ⊢
  rw [hm2]
  clear hl hm hm2 hext A B hy
  go_enter Tryz.func85, Tryz.ntmps85
  go_wp2_with fail
  go_loopw [5, 13] (fun _ i wr => ∃ k : Nat, i = .int .i64 k ∧ k ≤ m ∧ (∀ j, j < k → xs.getD j 0 = ys.getD j 0) ∧ Below w.heap.size w wr) (fun _ i _ => m - (intOf i).toNat)
  case atStart => exact ⟨0, rfl, Nat.zero_le _, fun j hj => by omega, Below.refl _ _⟩
  case round =>
    obtain ⟨k, rfl, hk, hall, hb⟩ := hrel
    have HA := Lib.hid hall
    clear hall
    by_cases hlt : k < m
    · have HK := Lib.hid hlt
      obtain ⟨p, o, rfl, c1⟩ : ∃ p o, a = some ⟨p, o, none⟩ ∧ wr.cell? ⟨p, o + k, none⟩ = some (.int .i64 (xs.getD k 0)) := by
        rcases la.later hb with e | ⟨p, o, e, hc⟩
        · rw [e] at HL1; have := HL1.out; simp at this; omega
        · exact ⟨p, o, e, hc k (by rw [HL1.out]; exact hlt)⟩
      obtain ⟨p2, o2, rfl, c2⟩ : ∃ p o, b = some ⟨p, o, none⟩ ∧ wr.cell? ⟨p, o + k, none⟩ = some (.int .i64 (ys.getD k 0)) := by
        rcases lb.later hb with e | ⟨p, o, e, hc⟩
        · rw [e] at HL2; have := HL2.out; simp at this; omega
        · exact ⟨p, o, e, hc k (by rw [HL2.out]; exact hlt)⟩
      obtain ⟨x, hxk⟩ : ∃ x, xs.getD k 0 = x := ⟨_, rfl⟩
      obtain ⟨y, hyk⟩ : ∃ y, ys.getD k 0 = y := ⟨_, rfl⟩
      rw [hxk] at c1
      rw [hyk] at c2
      have HXK := Lib.hid hxk
      have HYK := Lib.hid hyk
      have hk0 : (0 : Int) ≤ (k : Int) := Int.natCast_nonneg _
      have hk1 : (k : Int) < (m : Int) := by omega
      clear hxk hyk la lb
      by_cases e : x = y
      · have hne : (x != y) = false := by simp [e]
        have fin : ∃ j : Nat, Value.int .i64 ((k : Int) + 1) = .int .i64 j ∧ j ≤ m ∧ (∀ i, i < j → xs.getD i 0 = ys.getD i 0) :=
          ⟨k + 1, by go_num, HK.out, fun i hi => by
            by_cases h : i = k
            · subst h; rw [HXK.out, HYK.out]; exact e
            · exact HA.out i (by omega)⟩
        have FIN := Lib.hid fin
        clear fin e
        go_wp2_with fail
        go_quiet (fail)
        go_wp2_with fail
        go_roundw
        case rel =>
          obtain ⟨j, h1, h2, h3⟩ := FIN.out
          exact ⟨j, h1, h2, h3, ⟨hb.os, hb.tape, hb.output, hb.size, hb.block⟩⟩
        case measure => have := HK.out; simp [intOf]; omega
      · have hne : (x != y) = true := by simp [e]
        have hd : decide (xs = ys) = false := decide_eq_false (fun h => e (by rw [← HXK.out, ← HYK.out, h]))
        have HD := Lib.hid hd
        clear e hd
        go_wp2_with fail
        go_quiet (fail)
        go_wp2_with fail
        go_ret
        exact ⟨by rw [HD.out]; rfl, ⟨hb.os, hb.tape, hb.output, hb.size, hb.block⟩⟩
    · obtain rfl : k = m := by omega
      have hd : decide (xs = ys) = true := decide_eq_true (HX.out HA.out)
      have HD := Lib.hid hd
      clear hd
      go_wp2_with fail
      go_ret
      exact ⟨by rw [HD.out]; rfl, hb⟩
set_option maxRecDepth 100000 in
set_option maxHeartbeats 2000000 in
theorem sameS_any {u v : Value} {xs ys : List Int} {a b : Option Addr} {ca cb : Nat} {w : World} (A : ArgS w u xs a ca) (B : ArgS w v ys b cb) (ha : a = none → ca = 0) (hb : b = none → cb = 0) (hx : xs.length ≤ 17592186044416) (hy : ys.length ≤ 17592186044416) :
    Calls Tryz.prog 48 #[u, v] w fun e w' => e = .returned (.bool (decide (xs = ys))) ∧ Below w.heap.size w w' := by
  obtain rfl := A.is
  obtain rfl := B.is
  have h := eqI_any A B (by omega) (by omega)
  obtain ⟨t, ht⟩ : ∃ t, decide (xs = ys) = t := ⟨_, rfl⟩
  obtain ⟨n, hn⟩ : ∃ n, xs.length = n := ⟨_, rfl⟩
  obtain ⟨m, hm⟩ : ∃ n, ys.length = n := ⟨_, rfl⟩
  rw [ht, hn, hm] at h
  rw [ht, hn, hm]
  clear A B ha hb hx hy ht hn hm
  go_enter Tryz.func48, Tryz.ntmps48
  go_wp2_with (go_at_call 85; refine h.mono ?_; rintro e w1 ⟨rfl, hb⟩)
  go_ret
  exact ⟨rfl, hb⟩
end
section
open Go.RowKit
set_option linter.unusedVariables false
set_option linter.unusedSimpArgs false
/-- an operation's row: its name, versions, numbers of arguments, up to which version attributes may be left out -/
structure OpR where
  name : ByteArray
  vl : Int
  vh : Int
  al : Int
  ah : Int
  lo : Int
def noO : OpR := ⟨⟨#[]⟩, 0, 0, 0, 0, 0⟩
def opsO : List OpR := [⟨⟨#[]⟩, 0, 0, 0, 0, 0⟩,
  ⟨⟨#[97, 100, 100]⟩, 1, 3, 2, 2, 0⟩,
  ⟨⟨#[115, 117, 98]⟩, 1, 3, 2, 2, 0⟩,
  ⟨⟨#[109, 117, 108]⟩, 1, 3, 2, 2, 0⟩,
  ⟨⟨#[100, 105, 118]⟩, 1, 3, 2, 2, 0⟩,
  ⟨⟨#[110, 101, 103]⟩, 1, 3, 1, 1, 0⟩,
  ⟨⟨#[112, 111, 119]⟩, 1, 3, 1, 1, 1⟩,
  ⟨⟨#[114, 101, 108, 117]⟩, 1, 3, 1, 1, 0⟩,
  ⟨⟨#[115, 116, 101, 112]⟩, 3, 3, 1, 1, 0⟩,
  ⟨⟨#[115, 99, 97, 108, 101]⟩, 3, 3, 1, 1, 0⟩,
  ⟨⟨#[109, 97, 116, 109, 117, 108]⟩, 1, 3, 2, 2, 0⟩,
  ⟨⟨#[116, 114, 97, 110, 115, 112, 111, 115, 101]⟩, 1, 3, 1, 1, 1⟩,
  ⟨⟨#[114, 101, 115, 104, 97, 112, 101]⟩, 1, 3, 1, 1, 0⟩,
  ⟨⟨#[98, 114, 111, 97, 100, 99, 97, 115, 116]⟩, 1, 3, 1, 1, 0⟩,
  ⟨⟨#[115, 117, 109]⟩, 1, 3, 1, 1, 2⟩,
  ⟨⟨#[115, 108, 105, 99, 101]⟩, 1, 3, 1, 1, 0⟩,
  ⟨⟨#[112, 97, 100]⟩, 1, 3, 1, 1, 0⟩,
  ⟨⟨#[99, 111, 110, 99, 97, 116]⟩, 1, 3, 1, 8, 1⟩,
  ⟨⟨#[115, 113, 117, 97, 114, 101]⟩, 1, 1, 1, 1, 0⟩,
  ⟨⟨#[103, 101, 109, 109]⟩, 1, 2, 3, 3, 0⟩,
  ⟨⟨#[109, 101, 97, 110]⟩, 1, 2, 1, 1, 2⟩]
def inO (o : Int) : Bool := decide (1 ≤ o ∧ o ≤ 20)
def rowO (o : Int) : OpR := opsO.getD (if inO o = true then o.toNat else 0) noO
theorem rowO_nat {k : Nat} (h : k < 20) : inO ((k : Int) + 1) = true ∧ rowO ((k : Int) + 1) = opsO.getD (k + 1) noO := by
  have h1 : inO ((k : Int) + 1) = true := decide_eq_true ⟨by omega, by omega⟩
  refine ⟨h1, ?_⟩
  unfold rowO
  rw [if_pos h1]
  rfl
theorem rowO_out {o : Int} (h : inO o = false) : rowO o = noO := by
  unfold rowO
  rw [if_neg (by rw [h]; simp)]
  rfl
theorem inO_nat {o : Int} (h : inO o = true) : ∃ k : Nat, k < 20 ∧ o = (k : Int) + 1 := by
  have := of_decide_eq_true h
  exact ⟨(o - 1).toNat, by omega, by omega⟩
/-- which attributes fit -/
def oneB (m : Int) (xs : List Int) : Bool := decide (xs.length = 1 ∧ 0 ≤ xs.getD 0 0 ∧ xs.getD 0 0 ≤ m)
def copB (p q : Int) : Bool := decide (Int.gcd p q = 1)
def fracB (xs : List Int) : Bool := decide (xs.length = 2 ∧ 1 ≤ xs.getD 1 0) && copB (xs.getD 0 0) (xs.getD 1 0)
def perB (xs : List Int) : Bool := decide (xs.length ≤ 4) && permB xs xs.length
def shB (xs : List Int) : Bool := decide (mayC xs = 0)
def pairsB (f : Int → Int → Bool) (xs : List Int) : Bool := decide (xs.length % 2 = 0 ∧ xs.length ≤ 8 ∧ ∀ k, k < xs.length → 2 * k + 1 < xs.length → f (xs.getD (2 * k) 0) (xs.getD (2 * k + 1) 0) = true)
def slB (a b : Int) : Bool := decide (0 ≤ a ∧ a < b)
def paB (a b : Int) : Bool := decide (0 ≤ a ∧ 0 ≤ b)
def noB (xs : List Int) : Bool := decide (xs.length = 0)
def fitO (o : Int) (xs : List Int) : Bool :=
  if o = 6 then oneB 16 xs else if o = 9 then fracB xs else if o = 11 then perB xs else if o = 12 ∨ o = 13 then shB xs else if o = 14 ∨ o = 20 then axesB xs 4
  else if o = 15 then pairsB slB xs else if o = 16 then pairsB paB xs else if o = 17 then oneB 3 xs else noB xs
def bndB (xs : List Int) : Bool := xs.all fun x => decide (-2147483647 ≤ x ∧ x ≤ 2147483647)
def attB (o : Int) (xs : List Int) : Bool := bndB xs && fitO o xs
def leaveB (o v : Int) (xs : List Int) : Bool := decide (xs.length = 0 ∧ v ≤ (rowO o).lo)
def verO (o v : Int) : Bool := inO o && decide ((rowO o).vl ≤ v ∧ v ≤ (rowO o).vh)
def chkO (v o : Int) (n : Nat) (xs : List Int) : Int :=
  if ¬ (1 ≤ v ∧ v ≤ 3) then 8 else if verO o v = false then 9 else if ¬ ((rowO o).al ≤ (n : Int) ∧ (n : Int) ≤ (rowO o).ah) then 10 else if leaveB o v xs = false ∧ attB o xs = false then 11 else 0
/-- what none means -/
def fwdI (r : Int) : List Int := (List.range r.toNat).map fun i : Nat => (i : Int)
def bwdI (r : Int) : List Int := (List.range r.toNat).map fun i : Nat => r - 1 - (i : Int)
def meantO (o r : Int) : List Int := if o = 6 then [2] else if o = 17 then [0] else if o = 11 then bwdI r else fwdI r
def rkI (r : Int) : Int := if 0 ≤ r ∧ r ≤ 4 then r else 0
def expO (v o : Int) (n : Nat) (xs : List Int) (r : Int) : List Int := if chkO v o n xs = 0 ∧ leaveB o v xs = true then meantO o (rkI r) else xs
theorem rkI_in (r : Int) : 0 ≤ rkI r ∧ rkI r ≤ 4 := by unfold rkI; split <;> omega
/-- what none means fits -/
theorem meantO_fits {k : Nat} (hk : k < 20) {r : Nat} (hr : r < 5) (hl : 1 ≤ (rowO ((k : Int) + 1)).lo) : attB ((k : Int) + 1) (meantO ((k : Int) + 1) (r : Int)) = true := by
  revert hl
  exact (by decide +kernel : ∀ k : Nat, k < 20 → ∀ r : Nat, r < 5 → 1 ≤ (rowO ((k : Int) + 1)).lo → attB ((k : Int) + 1) (meantO ((k : Int) + 1) (r : Int)) = true) k hk r hr
end
end Go.Proofs.YtjgiacghlkkjfaaGreatDoor
