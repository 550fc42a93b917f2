/-
  Part 15 of 29: contracts and what they rest on (TOpen, POpen, GNames, GTake, GSampM, GPlain).
-/
import Derived.Test.YtjgiacghlkkjfaaGreatDoorF1
import Derived.Test.YtjgiacghlkkjfaaGreatDoorF2
import Derived.Test.YtjgiacghlkkjfaaGreatDoorF3
import Derived.Test.YtjgiacghlkkjfaaGreatDoorF4
import Derived.Test.YtjgiacghlkkjfaaGreatDoorF5
import Derived.Test.YtjgiacghlkkjfaaGreatDoorF8
import Derived.Test.YtjgiacghlkkjfaaGreatDoorF9
import Derived.Test.YtjgiacghlkkjfaaGreatDoorF10
import Derived.Test.YtjgiacghlkkjfaaGreatDoorF11
import Derived.WalkKit
import Derived.Test.YtjgiacghlkkjfaaGreatDoorRows
import Derived.OrdersHeld
import Derived.Deep.RegionHeld
import Derived.BigQuiet
import Derived.Deep.QuietTactic
import Derived.Lib.Hide
import Derived.Lib.Small
import Derived.Lib.Walk
import Derived.Lib.BitFns
import Derived.Maps.AppendAt
import Derived.RangeFuncNested
import Derived.RangeFuncBound
import Derived.RangeFuncCalls
import Derived.RangeFuncLeaves
import Derived.Shelf.Abstract
import Derived.OwnWalkIn
import Derived.TacticsInMore
import Derived.LoopNIn
import Derived.LoopIn
import Derived.RangeFuncBox
import Derived.Deep.RegionHeld3
import Derived.OrdersIn
import Derived.StillTailTactics
import Derived.RangeFuncFrom
import Derived.Laws.EntriesVeiled
import Derived.ProofKit
import Derived.OpenShut
import Derived.JoinedCond
import Derived.Carry
import Derived.Laws.AppendOwnNone
import Derived.Lib.ItoaNum
import Derived.Deep.RegionLaw
import Derived.WalkMore
import Derived.Lib.SmallJoins
import Derived.IntWalk
import Derived.Deep.DeepCutAuto
import Derived.Laws.OwnMore
import Derived.ArgAppend
import Derived.Deep.Slices
import Derived.Laws.CopyOwn
import Derived.Lib.SliceRun
import Derived.SizedLaws
import Derived.Great.BuildSlice
import Derived.Defers
import Derived.Recover
import Derived.Shelf.Small.Wraps
import Derived.Shelf.Strconv.Itoa3
import Derived.Shelf.Strconv.AtoiAll
import Derived.Laws.RangeAny
import Derived.Lib.AppendZerosOnto
import Derived.Maps.OwnSet
import Derived.Maps.Views
namespace Go.Proofs.YtjgiacghlkkjfaaGreatDoor
set_option maxRecDepth 100000
section
open Go.RowKit Go.ChangeShapes Go.WideShapes Go.ChangeAt Go.Joins Go.Deep
set_option linter.unusedVariables false
set_option linter.unusedSimpArgs false
set_option maxRecDepth 100000
theorem cellsInt7 : Tryz.prog.cellsOf 3 = 1 := by kernel_rfl
theorem wf_int7 {i : Int} (h : (Lit.int .i64 i).wf = true) : -9223372036854775808 ≤ i ∧ i ≤ 9223372036854775807 := by simpa [Lit.wf, IntKind.min, IntKind.max, IntKind.signed, IntKind.bits] using h
/-- a row of limbs, as it came in: it is no longer than its bulk -/
theorem open_natB {H : Type} {enc : TypeId × Value → H} {W : World} {v : Value} {y : DataW H × List MemPlace} {fuel : Nat}
    (hf : DataW.trod enc Tryz.prog W 0 (fun _ => true) true fuel 91 [v] = some y) : ∃ ad xs cap, v = .slice ad xs.length cap ∧ Arg W (.slice ad xs.length cap) xs ad cap ∧ xs.length + 1 ≤ Rows.uptoBulk y.1 ∧ (ad = none → cap = 0) := by
  rcases open_ints Tryz.underlying91 Tryz.underlying96 cellsLimb hf with ⟨hcs, hx⟩ | ⟨a, n, cap, zs, hcs, _, hl, hm, hz, hx, hcell, hwz⟩
  · simp only [List.cons.injEq, and_true] at hcs
    subst hcs
    exact ⟨none, [], 0, rfl, ⟨rfl, .inl rfl, Nat.le_refl _, Wf.nil⟩, by have := bulk_pos y.1; simpa using this, fun _ => rfl⟩
  · simp only [List.cons.injEq, and_true] at hcs
    subst hcs
    subst hx
    simp only [if_true] at hz
    have hlen : (zs.take n).length = n := by rw [List.length_take]; omega
    have hb := bulk_slice (lits .u32 (zs.take n) : List (DataW H)) (lits .u32 (zs.drop n))
    have hb2 : (zs.take n).length + 1 ≤ Rows.uptoBulk (.slice (lits .u32 (zs.take n) : List (DataW H)) (lits .u32 (zs.drop n))) := by
      have h1 := bulk_len (lits .u32 (zs.take n) : List (DataW H))
      simp only [lits, List.length_map] at h1
      simp only [Rows.uptoBulk, lits]
      omega
    refine ⟨some a, zs.take n, cap, by rw [hlen], ⟨rfl, ?_, by rw [hlen]; exact hl, fun x hx => wf_limb (hwz x (List.mem_of_mem_take hx))⟩, hb2, fun e => by cases e⟩
    by_cases h0 : n = 0
    · exact .inl (by simp [h0])
    · obtain ⟨b, off, rfl, hc⟩ := ints_at hcell (by omega)
      refine .inr ⟨b, off, rfl, fun i hi => ?_⟩
      rw [hlen] at hi
      rw [hc i (by omega)]
      simp [hi]
/-- how much rational numbers hold -/
def sizeQ (q : Q3) : Nat := q.num.length + q.den.length + 1
def sizeQs : List Q3 → Nat
  | [] => 0
  | q :: qs => sizeQ q + sizeQs qs
theorem sizeQs_range {H : Type} (F : Nat → Q3) (D : Nat → DataW H) (n : Nat) (h : ∀ i, i < n → sizeQ (F i) ≤ Rows.uptoBulk (D i)) : sizeQs ((List.range n).map F) ≤ Rows.uptoBulkAll ((List.range n).map D) := by
  suffices hs : ∀ l : List Nat, (∀ i ∈ l, sizeQ (F i) ≤ Rows.uptoBulk (D i)) → sizeQs (l.map F) ≤ Rows.uptoBulkAll (l.map D) from hs _ (fun i hi => h i (List.mem_range.1 hi))
  intro l
  induction l with
  | nil => intro _; simp [sizeQs]
  | cons a l ih =>
    intro hl
    have h1 := hl a (List.mem_cons_self ..)
    have h2 := ih (fun i hi => hl i (List.mem_cons_of_mem _ hi))
    simp only [List.map_cons, sizeQs, Rows.uptoBulkAll]
    omega
/-- a row of rational numbers, as it came in -/
theorem open_rats {H : Type} {enc : TypeId × Value → H} {W : World} {v : Value} {y : DataW H × List MemPlace} {fuel : Nat}
    (hf : DataW.trod enc Tryz.prog W 0 (fun _ => true) true fuel 63 [v] = some y) : ∃ (ad : Option Addr) (qs : List Q3) (cap : Nat), v = .slice ad qs.length cap ∧ RowA RawQ W (.slice ad qs.length cap) qs ad cap ∧ (ad = none → cap = 0) ∧ sizeQs qs + 1 ≤ Rows.uptoBulk y.1 := by
  rcases open_slice Tryz.underlying63 hf with ⟨hcs, hx⟩ | ⟨a, len, cap, m, n, D, Pl, hcs, hb, hl, hm, hmm, hx, hi⟩
  · simp only [List.cons.injEq, and_true] at hcs
    subst hcs
    exact ⟨none, [], 0, rfl, ⟨rfl, Nat.le_refl _, .inl rfl⟩, fun _ => rfl, by have := bulk_pos y.1; simpa [sizeQs] using this⟩
  · simp only [List.cons.injEq, and_true] at hcs
    subst hcs
    subst hx
    simp only [if_true] at hmm
    rw [cellsRat] at hi
    have hel : ∀ i, i < len → ∃ (e : E3) (q : Q3), W.cell? (a.add (i * 3)) = some e.a ∧ W.cell? ((a.add (i * 3)).add 1) = some e.b ∧ W.cell? ((a.add (i * 3)).add 2) = some e.c ∧ RawQ W e.agg q ∧ sizeQ q ≤ Rows.uptoBulk (D i) := fun i hlt => by
      obtain ⟨cs', hc, ht⟩ := hi i (by omega)
      obtain ⟨_, hcl, hat⟩ := World.cells?_some hc
      obtain ⟨xs, n', _, hy, hlen, hyl, hfd⟩ := DataW.trod_struct Tryz.underlying93 ht
      have hc3 : cs'.length = 3 := hcl
      match cs', hc3 with
      | [c0, c1, c2], _ =>
        match xs, (show xs.length = 3 from hyl) with
        | [y0, y1, y2], _ =>
          have h0 := hfd 0 _ rfl
          have h1 := hfd 1 _ rfl
          have h2 := hfd 2 _ rfl
          have g0 : DataW.trod enc Tryz.prog W 0 (fun _ => true) true n' 4 [c0] = some y0 := h0
          have g1 : DataW.trod enc Tryz.prog W 0 (fun _ => true) true n' 91 [c1] = some y1 := h1
          have g2 : DataW.trod enc Tryz.prog W 0 (fun _ => true) true n' 91 [c2] = some y2 := h2
          obtain ⟨b, hbv, _⟩ := DataW.trod_bool Tryz.underlying4 g0
          simp only [List.cons.injEq, and_true] at hbv
          subst hbv
          obtain ⟨ad, zs, ca, rfl, A, l1, n1⟩ := open_natB g1
          obtain ⟨bd, ys, cb, rfl, B, l2, n2⟩ := open_natB g2
          have p0 := hat 0 (by omega)
          have p1 := hat 1 (by omega)
          have p2 := hat 2 (by omega)
          rw [show ∀ p : Addr, p.add 0 = p from fun p => by cases p; rename_i b o path; cases path <;> simp [Addr.add]] at p0
          refine ⟨⟨.bool b, .slice ad zs.length ca, .slice bd ys.length cb⟩, ⟨b, zs, ys⟩, p0, p1, p2, ⟨ad, bd, ca, cb, rfl, A, B, n1, n2⟩, ?_⟩
          have hD : D i = .agg ([y0, y1, y2].map (·.1)) := by simpa using congrArg Prod.fst hy
          rw [hD]
          simp only [List.map_cons, List.map_nil, Rows.uptoBulk, Rows.uptoBulkAll, sizeQ]
          omega
    have hel2 : ∀ i, ∃ (e : E3) (q : Q3), i < len → W.cell? (a.add (i * 3)) = some e.a ∧ W.cell? ((a.add (i * 3)).add 1) = some e.b ∧ W.cell? ((a.add (i * 3)).add 2) = some e.c ∧ RawQ W e.agg q ∧ sizeQ q ≤ Rows.uptoBulk (D i) := fun i => by
      by_cases h : i < len
      · obtain ⟨e, q, h'⟩ := hel i h
        exact ⟨e, q, fun _ => h'⟩
      · exact ⟨⟨.bool false, .bool false, .bool false⟩, ⟨false, [], []⟩, fun h' => absurd h' h⟩
    obtain ⟨E, hE⟩ := Classical.axiomOfChoice hel2
    obtain ⟨F, hF⟩ := Classical.axiomOfChoice hE
    have hlq : ((List.range len).map F).length = len := by simp
    refine ⟨some a, (List.range len).map F, cap, by rw [hlq], ⟨rfl, by rw [hlq]; exact hl, ?_⟩, (by intro e; cases e), ?_⟩
    · by_cases h0 : len = 0
      · exact .inl (by rw [h0]; rfl)
      · have hp : ∃ b o, a = ⟨b, o, none⟩ := by
          obtain ⟨h1, _⟩ := hF 0 (by omega)
          obtain ⟨b, off, spot⟩ := a
          have hspot : spot = none := by simpa [Addr.add] using World.cell?_spot h1
          subst hspot
          exact ⟨b, off, rfl⟩
        obtain ⟨b, o, rfl⟩ := hp
        refine .inr ⟨b, o, (List.range len).map E, rfl, fun i e he => ?_, ⟨by simp, fun i e q he hq => ?_⟩⟩
        · have hlt : i < len := by
            rcases Nat.lt_or_ge i len with g | g
            · exact g
            · rw [List.getElem?_eq_none (by simpa using g)] at he; cases he
          rw [List.getElem?_map, List.getElem?_range hlt] at he
          simp only [Option.map_some, Option.some.injEq] at he
          subst he
          obtain ⟨h1, h2, h3, _⟩ := hF i hlt
          rw [add_plain] at h1 h2 h3
          rw [add_plain] at h2 h3
          exact ⟨h1, h2, h3⟩
        · have hlt : i < len := by
            rcases Nat.lt_or_ge i len with g | g
            · exact g
            · rw [List.getElem?_eq_none (by simpa using g)] at he; cases he
          rw [List.getElem?_map, List.getElem?_range hlt] at he hq
          simp only [Option.map_some, Option.some.injEq] at he hq
          subst he
          subst hq
          exact (hF i hlt).2.2.2.1
    · have h1 := sizeQs_range F D len (fun i hi => (hF i hi).2.2.2.2)
      simp only [Rows.uptoBulk]
      omega
end
section
open Go.RowKit Go.ChangeShapes Go.WideShapes Go.ChangeAt Go.Joins Go.Deep
set_option linter.unusedVariables false
set_option linter.unusedSimpArgs false
set_option maxRecDepth 100000
theorem laid8 : laidOutB Tryz.prog = true := by kernel_rfl
theorem bytesInt8 : Tryz.prog.bytesOf 3 = 8 := by kernel_rfl
theorem wf_i64p {i : Int} (h : (Lit.int .i64 i).wf = true) : -9223372036854775808 ≤ i ∧ i ≤ 9223372036854775807 := by simpa [Lit.wf, IntKind.min, IntKind.max, IntKind.signed, IntKind.bits] using h
theorem open_intsW {H : Type} {enc : TypeId × Value → H} {W : World} {v : Value} {y : DataW H × List MemPlace} {fuel : Nat} {T : TypeId} (hT : Tryz.prog.underlying T = some (.slice 3))
    (hf : DataW.trod enc Tryz.prog W 0 (fun _ => true) true fuel T [v] = some y) : ∃ ad xs cap, v = .slice ad xs.length cap ∧ ArgS W (.slice ad xs.length cap) xs ad cap ∧ (xs.length = 0 ∨ xs.length * 8 ∈ DataW.weights Tryz.prog T y.1 ∨ ∃ m, xs.length ≤ m ∧ m * 8 ∈ DataW.weights Tryz.prog T y.1) ∧ (ad = none → cap = 0) := by
  rcases open_ints hT Tryz.underlying3 cellsInt7 hf with ⟨hcs, hx⟩ | ⟨a, n, cap, zs, hcs, _, hl, hm, hz, hx, hcell, hwz⟩
  · simp only [List.cons.injEq, and_true] at hcs
    subst hcs
    exact ⟨none, [], 0, rfl, ⟨rfl, .inl rfl, Nat.le_refl _, Wid.nil⟩, .inl rfl, fun _ => rfl⟩
  · simp only [List.cons.injEq, and_true] at hcs
    subst hcs
    subst hx
    simp only [if_true] at hz
    have hlen : (zs.take n).length = n := by rw [List.length_take]; omega
    refine ⟨some a, zs.take n, cap, by rw [hlen], ⟨rfl, ?_, by rw [hlen]; exact hl, fun x hx => wf_int7 (hwz x (List.mem_of_mem_take hx))⟩, .inr (.inr ⟨(lits .i64 (zs.take n) : List (DataW H)).length + (lits .i64 (zs.drop n) : List (DataW H)).length, by simp [lits], by simp [DataW.weights, hT, bytesInt8]⟩), fun e => by cases e⟩
    by_cases h0 : n = 0
    · exact .inl (by simp [h0])
    · obtain ⟨b, off, rfl, hc⟩ := ints_at hcell (by omega)
      refine .inr ⟨b, off, rfl, fun i hi => ?_⟩
      rw [hlen] at hi
      rw [hc i (by omega)]
      simp [hi]
end
section
open Go.RowKit
set_option linter.unusedVariables false
set_option linter.unusedSimpArgs false
theorem nm_size (s : ByteArray) : (nmL s).length = s.size := by obtain ⟨⟨s⟩⟩ := s; rfl
theorem nm_at {s : ByteArray} {k : Nat} (h : k < s.size) : (nmL s).getD k 0 = s[k]'h := by
  obtain ⟨⟨s⟩⟩ := s
  have h' : k < s.length := h
  show s.getD k 0 = s[k]
  rw [List.getD_eq_getElem?_getD, List.getElem?_eq_getElem h']
  rfl
set_option maxRecDepth 100000 in
set_option maxHeartbeats 4000000 in
theorem nameG_any (s : ByteArray) (w : World) (hm : s.size ≤ 140737488355328) : Calls Tryz.prog 22 #[.string s] w fun e w' => e = .returned (.bool (plainB (nmL s))) ∧ Below w.heap.size w w' := by
  obtain ⟨t, ht⟩ : ∃ t, plainB (nmL s) = t := ⟨_, rfl⟩
  rw [ht]
  have HT := Lib.hid ht
  clear ht
  go_enter Tryz.func22, Tryz.ntmps22
  go_wp2_with fail
  go_loopw [3] (fun _ wr => ∃ k : Nat, wr = w.iter s k ∧ k ≤ s.size ∧ Hid (lettersB (nmL s) k = true)) (fun _ wr => s.size - wr.iterPos w.heap.size)
  case atStart => exact ⟨0, rfl, Nat.zero_le _, Lib.hid (lettersB_zero _)⟩
  case round =>
    obtain ⟨k, rfl, hk, hlet⟩ := hrel
    have hbI : ∀ p, Below w.heap.size w (w.iter s p) := fun p => (Below.refl _ _).alloc (Nat.le_refl _) _
    by_cases hlt : k < s.size
    · obtain ⟨r, p1, hnx, hr0, hr1, hr2⟩ : ∃ (r : Int) (p1 : Nat), (∀ ty, (Instr.next (.pointer (some ⟨w.heap.size, 0, none⟩)) true ty).run Tryz.prog (w.iter s k) = .ok (.tuple #[.bool true, .int .i64 (k : Int), .int .i32 r]) (w.iter s p1)) ∧ 0 ≤ r ∧ r ≤ 2147483647 ∧ (((s[k]'hlt).toNat : Int) = r ∧ p1 = k + 1 ∨ 128 ≤ (s[k]'hlt).toNat ∧ 128 ≤ r) := by
        by_cases ha : (s[k]'hlt).toNat < 128
        · exact ⟨((s[k]'hlt).toNat : Int), k + 1, fun ty => run_next_ascii (P := Tryz.prog) w s k ty hlt ha, by omega, by omega, .inl ⟨rfl, rfl⟩⟩
        · have := decode_high s k hlt (by omega)
          exact ⟨_, _, fun ty => run_next_any (P := Tryz.prog) w s k ty hlt, by omega, by have := decode_le s k; omega, .inr ⟨by omega, by omega⟩⟩
      have hgo : nmB k ((nmL s).getD k 0) = true → lettersB (nmL s) (k + 1) = true := fun h => lettersB_next hlet.out h
      have hno : nmB k ((nmL s).getD k 0) = false → plainB (nmL s) = false := fun h => by
        unfold plainB
        rw [lettersB_stop (by rw [nm_size]; exact hlt) h, Bool.and_false]
      rw [nm_at hlt] at hgo hno
      have HGO := Lib.hid hgo
      have HNO := Lib.hid hno
      have HR := Lib.hid hr2
      have HBI := Lib.hid hbI
      have hways : ((97 ≤ r ∧ r ≤ 122) ∧ nmB k (s[k]'hlt) = true ∨ (r < 97 ∨ 122 < r) ∧ ((k = 0 ∧ nmB k (s[k]'hlt) = false) ∨ (k ≠ 0 ∧ ((r = 95 ∧ nmB k (s[k]'hlt) = true) ∨ (r ≠ 95 ∧ ((48 ≤ r ∧ r ≤ 57 ∧ nmB k (s[k]'hlt) = true) ∨ (r < 48 ∧ nmB k (s[k]'hlt) = false) ∨ (57 < r ∧ nmB k (s[k]'hlt) = false))))))) := by
        have e1 : ∀ b, nmB k (s[k]'hlt) = b ↔ (decide (97 ≤ (s[k]'hlt).toNat ∧ (s[k]'hlt).toNat ≤ 122) || (decide (k ≠ 0) && (decide (48 ≤ (s[k]'hlt).toNat ∧ (s[k]'hlt).toNat ≤ 57) || decide ((s[k]'hlt).toNat = 95)))) = b := fun b => Iff.rfl
        rw [e1, e1]
        simp only [Bool.or_eq_true, Bool.and_eq_true, decide_eq_true_eq, Bool.or_eq_false_iff, Bool.and_eq_false_iff, decide_eq_false_iff_not]
        generalize (s[k]'hlt).toNat = c at hr2
        rcases hr2 with ⟨h1, h2⟩ | ⟨h1, h2⟩ <;> omega
      clear hlet hgo hno hr2 hbI
      have hk0 : (0 : Int) ≤ (k : Int) := by omega
      rcases hways with ⟨⟨a1, a2⟩, hn⟩ | ⟨a1 | a1, ⟨hz, hn⟩ | ⟨hz, ⟨hr, hn⟩ | ⟨hr, ⟨h4, h5, hn⟩ | ⟨h4, hn⟩ | ⟨h4, hn⟩⟩⟩⟩
      · skip
        have hgo1 := HGO.out hn
        have hp1 : p1 = k + 1 := by rcases HR.out with ⟨_, h⟩ | ⟨_, h⟩ <;> omega
        subst hp1
        have HG1 := Lib.hid hgo1
        clear hn hgo1
        go_wp2_with fail
        go_roundw
        case rel => exact ⟨k + 1, rfl, by omega, HG1⟩
        case measure => simp; omega
      · have b1 : decide (97 ≤ r) = false := decide_eq_false (by omega)
        have z1 : ((k : Int) == 0) = true := by simp [hz]
        clear hz
        have hno1 := HNO.out hn
        rw [HT.out] at hno1
        subst hno1
        clear hn
        go_wp2_with fail
        (try rw [Exit.noGoto_ret])
        go_ret
        exact ⟨rfl, HBI.out _⟩
      · have b1 : decide (97 ≤ r) = false := decide_eq_false (by omega)
        have z1 : ((k : Int) == 0) = false := by simp; omega
        clear hz
        have r1 : (r != 95) = false := by simp [hr]
        have HRR := Lib.hid hr
        clear hr
        have hgo1 := HGO.out hn
        have hp1 : p1 = k + 1 := by rcases HR.out with ⟨_, h⟩ | ⟨_, h⟩ <;> omega
        subst hp1
        have HG1 := Lib.hid hgo1
        clear hn hgo1
        go_wp2_with fail
        go_roundw
        case rel => exact ⟨k + 1, rfl, by omega, HG1⟩
        case measure => simp; omega
      · have b1 : decide (97 ≤ r) = false := decide_eq_false (by omega)
        have z1 : ((k : Int) == 0) = false := by simp; omega
        clear hz
        have r1 : (r != 95) = true := by simpa using hr
        have c1 : decide (r < 48) = false := decide_eq_false (by omega)
        have c2 : decide (57 < r) = false := decide_eq_false (by omega)
        have hgo1 := HGO.out hn
        have hp1 : p1 = k + 1 := by rcases HR.out with ⟨_, h⟩ | ⟨_, h⟩ <;> omega
        subst hp1
        have HG1 := Lib.hid hgo1
        clear hn hgo1
        go_wp2_with fail
        go_roundw
        case rel => exact ⟨k + 1, rfl, by omega, HG1⟩
        case measure => simp; omega
      · have b1 : decide (97 ≤ r) = false := decide_eq_false (by omega)
        have z1 : ((k : Int) == 0) = false := by simp; omega
        clear hz
        have r1 : (r != 95) = true := by simpa using hr
        have c1 : decide (r < 48) = true := decide_eq_true h4
        have hno1 := HNO.out hn
        rw [HT.out] at hno1
        subst hno1
        clear hn
        go_wp2_with fail
        (try rw [Exit.noGoto_ret])
        go_ret
        exact ⟨rfl, HBI.out _⟩
      · have b1 : decide (97 ≤ r) = false := decide_eq_false (by omega)
        have z1 : ((k : Int) == 0) = false := by simp; omega
        clear hz
        have r1 : (r != 95) = true := by simpa using hr
        have c1 : decide (r < 48) = false := decide_eq_false (by omega)
        have c2 : decide (57 < r) = true := decide_eq_true h4
        have hno1 := HNO.out hn
        rw [HT.out] at hno1
        subst hno1
        clear hn
        go_wp2_with fail
        (try rw [Exit.noGoto_ret])
        go_ret
        exact ⟨rfl, HBI.out _⟩
      · have b0 : 97 ≤ r := by omega
        have b1 : decide (r ≤ 122) = false := decide_eq_false (by omega)
        have z1 : ((k : Int) == 0) = true := by simp [hz]
        clear hz
        have hno1 := HNO.out hn
        rw [HT.out] at hno1
        subst hno1
        clear hn
        go_wp2_with fail
        (try rw [Exit.noGoto_ret])
        go_ret
        exact ⟨rfl, HBI.out _⟩
      · omega
      · omega
      · have b0 : 97 ≤ r := by omega
        have b1 : decide (r ≤ 122) = false := decide_eq_false (by omega)
        have z1 : ((k : Int) == 0) = false := by simp; omega
        clear hz
        have r1 : (r != 95) = true := by simpa using hr
        have c1 : decide (r < 48) = true := decide_eq_true h4
        have hno1 := HNO.out hn
        rw [HT.out] at hno1
        subst hno1
        clear hn
        go_wp2_with fail
        (try rw [Exit.noGoto_ret])
        go_ret
        exact ⟨rfl, HBI.out _⟩
      · have b0 : 97 ≤ r := by omega
        have b1 : decide (r ≤ 122) = false := decide_eq_false (by omega)
        have z1 : ((k : Int) == 0) = false := by simp; omega
        clear hz
        have r1 : (r != 95) = true := by simpa using hr
        have c1 : decide (r < 48) = false := decide_eq_false (by omega)
        have c2 : decide (57 < r) = true := decide_eq_true h4
        have hno1 := HNO.out hn
        rw [HT.out] at hno1
        subst hno1
        clear hn
        go_wp2_with fail
        (try rw [Exit.noGoto_ret])
        go_ret
        exact ⟨rfl, HBI.out _⟩
    · obtain rfl : k = s.size := by omega
      have hnx := fun ty => run_next_end (P := Tryz.prog) w s s.size ty (Nat.lt_irrefl _)
      have hlet2 := hlet.out
      have HBI := Lib.hid hbI
      clear hbI hlet
      by_cases hs0 : s.size = 0
      · have q1 : (s.toList != []) = false := by
          have : nmL s = [] := List.eq_nil_of_length_eq_zero (by rw [nm_size]; exact hs0)
          rw [ByteArray.toList_eq, show s.data.toList = [] from this]
          rfl
        have q2 : s.toList.isEmpty = true := by
          have : nmL s = [] := List.eq_nil_of_length_eq_zero (by rw [nm_size]; exact hs0)
          rw [ByteArray.toList_eq, show s.data.toList = [] from this]
          rfl
        have ht0 : t = false := by
          rw [← HT.out]
          unfold plainB
          rw [nm_size, hs0]
          simp
        subst ht0
        clear hlet2
        have HS0 := Lib.hid hs0
        clear hs0 hlt
        go_wp2_with fail
        go_ret
        exact ⟨rfl, HBI.out _⟩
      · have q1 : (s.toList != []) = true := by
          have : nmL s ≠ [] := fun h => hs0 (by rw [← nm_size, h]; rfl)
          rw [ByteArray.toList_eq]
          simpa using this
        have q2 : s.toList.isEmpty = false := by
          have : nmL s ≠ [] := fun h => hs0 (by rw [← nm_size, h]; rfl)
          rw [ByteArray.toList_eq]
          simpa using this
        by_cases hs1 : s.size ≤ 32
        · have ht0 : t = true := by
            rw [← HT.out]
            unfold plainB
            rw [nm_size, hlet2, Bool.and_true]
            simp
            omega
          subst ht0
          clear hlet2
          have hs2 : (s.size : Int) ≤ 32 := by omega
          go_wp2_with fail
          go_ret
          exact ⟨rfl, HBI.out _⟩
        · have ht0 : t = false := by
            rw [← HT.out]
            unfold plainB
            rw [nm_size, hlet2, Bool.and_true]
            simp
            omega
          subst ht0
          clear hlet2
          have hs2 : ¬ (s.size : Int) ≤ 32 := by omega
          go_wp2_with fail
          go_ret
          exact ⟨rfl, HBI.out _⟩
/-- what the library's two errors hold -/
def Glb (w : World) : Prop := (∃ te pe, w.cell? ⟨1, 0, none⟩ = some (.iface te pe)) ∧ ∃ te pe, w.cell? ⟨2, 0, none⟩ = some (.iface te pe)
theorem Glb.later {w w' : World} (h : Glb w) (hb : Below w.heap.size w w') : Glb w' := by
  obtain ⟨⟨a, b, h1⟩, c, d, h2⟩ := h
  exact ⟨⟨a, b, (hb.cell (World.block_lt_of_cell? _ _ h1)).trans h1⟩, c, d, (hb.cell (World.block_lt_of_cell? _ _ h2)).trans h2⟩
theorem dec_small : ∀ k : Nat, k < 64 → 126 :: Lib.decDigits k = cotL k := fun k hk => by
  unfold cotL
  by_cases h : k < 10
  · rw [if_pos h, Lib.decDigits, dif_pos h]
  · rw [if_neg h, Lib.decDigits, dif_neg h, Lib.decDigits, dif_pos (by omega)]
    rfl
theorem atoi_cot : ∀ k : Fin 64, (match Lib.atoiAll (cotL k.val).tail with | .ok v => decide (v = (k.val : Int)) | _ => false) = true := by decide
theorem cot_yes {l d : List UInt8} {v : Int} (hl : Lib.hasPrefix l [126] = true) (hd : d = Lib.trimPrefix l [126]) (h0 : 0 ≤ v) (h1 : v < 64) : decide (Lib.decDigits v.toNat = d) = cotB l ∨ Lib.atoiAll d ≠ .ok v := by
  by_cases ha : Lib.atoiAll d = .ok v
  · left
    have hcons : l = 126 :: d := by
      rw [hd]
      unfold Lib.trimPrefix
      rw [if_pos hl]
      unfold Lib.hasPrefix at hl
      cases l with
      | nil => simp at hl
      | cons c r =>
        simp [List.isPrefixOf] at hl
        rw [← hl]
        rfl
    rw [Bool.eq_iff_iff, cotB_iff, decide_eq_true_eq]
    constructor
    · intro h
      refine ⟨v.toNat, by omega, ?_⟩
      rw [hcons, ← h, dec_small _ (by omega)]
    · rintro ⟨k, hk, he⟩
      have h2 := atoi_cot ⟨k, hk⟩
      have e2 : (cotL k).tail = d := by rw [← he, hcons]; rfl
      simp only [e2, ha, decide_eq_true_eq] at h2
      subst h2
      rw [← dec_small k hk] at he
      rw [hcons] at he
      simp only [List.cons.injEq, true_and] at he
      rw [he]
      rfl
  · exact .inr ha
theorem cot_no {l d : List UInt8} (hd : d = Lib.trimPrefix l [126]) (h : Lib.hasPrefix l [126] = false ∨ (∀ v, Lib.atoiAll d ≠ .ok v) ∨ ∃ v, Lib.atoiAll d = .ok v ∧ (v < 0 ∨ 64 ≤ v)) : cotB l = false := by
  rw [Bool.eq_false_iff]
  intro hc
  obtain ⟨k, hk, he⟩ := cotB_iff.1 hc
  have hp : ∃ r, l = 126 :: r := by rw [he]; unfold cotL; split <;> exact ⟨_, rfl⟩
  obtain ⟨r, hr⟩ := hp
  have hpre : Lib.hasPrefix l [126] = true := by rw [hr]; simp [Lib.hasPrefix, List.isPrefixOf]
  have hd2 : d = (cotL k).tail := by
    rw [hd]
    unfold Lib.trimPrefix
    rw [if_pos hpre, ← he, hr]
    rfl
  have h2 := atoi_cot ⟨k, hk⟩
  simp only [← hd2] at h2
  rcases h with h | h | ⟨v, h, h3⟩
  · rw [hpre] at h; cases h
  · split at h2
    · exact h _ (by assumption)
    · cases h2
  · rw [h] at h2
    simp only [decide_eq_true_eq] at h2
    omega
set_option maxRecDepth 100000 in
set_option maxHeartbeats 4000000 in
theorem cotG_any (s : ByteArray) (w : World) (hm : s.size ≤ 140737488355328) (G : Glb w) : Calls Tryz.prog 105 #[.string s] w fun e w' => e = .returned (.bool (cotB (nmL s))) ∧ Below w.heap.size w w' := by
  obtain ⟨t, ht⟩ : ∃ t, cotB (nmL s) = t := ⟨_, rfl⟩
  rw [ht]
  have HT := Lib.hid ht
  have HG := Lib.hid G
  have hcut := shl_CutPrefix s ⟨#[126]⟩ w
  obtain ⟨d, hd⟩ : ∃ d : ByteArray, (⟨(Lib.trimPrefix s.data.toList (ByteArray.mk #[126]).data.toList).toArray⟩ : ByteArray) = d := ⟨_, rfl⟩
  obtain ⟨m, hmm⟩ : ∃ m, Lib.hasPrefix s.data.toList (ByteArray.mk #[126]).data.toList = m := ⟨_, rfl⟩
  have hdl : nmL d = Lib.trimPrefix (nmL s) [126] := by rw [← hd]
  have hds : d.size ≤ s.size := by
    rw [← nm_size, ← nm_size, hdl]
    unfold Lib.trimPrefix
    split
    · simp
    · exact Nat.le_refl _
  rw [hd, hmm] at hcut
  have HCUT := Lib.hid hcut
  have HD := Lib.hid hdl
  have HM := Lib.hid (show Lib.hasPrefix (nmL s) [126] = m from hmm)
  clear hcut hdl hmm ht G hd
  go_enter Tryz.func105, Tryz.ntmps105
  go_wp2_with fail
  refine HCUT.out.mono ?_
  rintro e w' ⟨rfl, rfl⟩
  go_wp2_with fail
  obtain ⟨⟨te1, pe1, g1⟩, te2, pe2, g2⟩ := HG.out
  rcases hA : Lib.atoiAll (nmL d) with v | _ | _
  · refine (shl_Atoi_ok d (by omega) v hA w').mono ?_
    rintro e w2 ⟨rfl, hw⟩
    have hb : Below w'.heap.size w' w2 := by
      rcases hw with rfl | ⟨t, rfl⟩
      · exact Below.refl _ _
      · exact Lib.bytesWorld_below _ _ _
    have hvb := Lib.atoiAll_bounds hA
    have hv0 : -9223372036854775808 ≤ v := hvb.1
    have hv1 : v ≤ 9223372036854775807 := by have := hvb.2; omega
    have HB := Lib.hid hb
    have HA := Lib.hid hA
    clear hA hb hw hvb
    cases m with
    | false =>
      have ht0 : t = false := by rw [← HT.out]; exact cot_no HD.out (.inl HM.out)
      subst ht0
      go_wp2_with fail
      go_ret
      exact ⟨rfl, HB.out⟩
    | true =>
      by_cases h0 : v < 0
      · have ht0 : t = false := by rw [← HT.out]; exact cot_no HD.out (.inr (.inr ⟨v, HA.out, .inl h0⟩))
        subst ht0
        have h1 : decide (0 ≤ v) = false := decide_eq_false (by omega)
        go_wp2_with fail
        go_ret
        exact ⟨rfl, HB.out⟩
      · have h1 : 0 ≤ v := by omega
        by_cases h2 : v < 64
        · obtain ⟨i, rfl⟩ : ∃ i : Nat, v = (i : Int) := ⟨v.toNat, by omega⟩
          have hit := shl_Itoa_small i (by omega) w2
          obtain ⟨z, hz⟩ : ∃ z : ByteArray, (⟨(Lib.decDigits i).toArray⟩ : ByteArray) = z := ⟨_, rfl⟩
          rw [hz] at hit
          have hq : (z.toList == d.toList) = t := by
            rw [nm_beq, ← HT.out]
            rcases cot_yes HM.out HD.out h1 h2 with h | h
            · rw [← h]
              rw [Bool.eq_iff_iff, decide_eq_true_eq, decide_eq_true_eq, ← hz]
              constructor
              · intro h; rw [← h]; rfl
              · intro h; exact nmL_inj h
            · exact absurd HA.out h
          have HI := Lib.hid hit
          clear hit hz h0
          cases t
          all_goals
            go_wp2_with fail
            refine HI.out.mono ?_
            rintro e w3 ⟨rfl, rfl⟩
            go_wp2_with fail
            go_ret
            exact ⟨rfl, HB.out⟩
        · have ht0 : t = false := by rw [← HT.out]; exact cot_no HD.out (.inr (.inr ⟨v, HA.out, .inr (by omega)⟩))
          subst ht0
          have h3 : decide (v < 64) = false := decide_eq_false (by omega)
          go_wp2_with fail
          go_ret
          exact ⟨rfl, HB.out⟩
  · refine (shl_Atoi_syntax d (by omega) hA _ w' g1 (.inr ⟨_, _, rfl⟩)).mono ?_
    rintro e w2 ⟨N, rfl, _, _, hb⟩
    have ht0 : t = false := by
      rw [← HT.out]
      exact cot_no HD.out (.inr (.inl fun v h => by rw [show Lib.atoiAll (nmL d) = _ from hA] at h; cases h))
    subst ht0
    have HB := Lib.hid hb
    clear hA hb
    cases m with
    | false =>
      go_wp2_with fail
      go_ret
      exact ⟨rfl, HB.out⟩
    | true =>
      go_wp2_with fail
      go_ret
      exact ⟨rfl, HB.out⟩
  · refine (shl_Atoi_range d (by omega) hA _ w' g2 (.inr ⟨_, _, rfl⟩)).mono ?_
    rintro e w2 ⟨N, rfl, _, _, hb⟩
    have ht0 : t = false := by
      rw [← HT.out]
      exact cot_no HD.out (.inr (.inl fun v h => by rw [show Lib.atoiAll (nmL d) = _ from hA] at h; cases h))
    subst ht0
    have HB := Lib.hid hb
    clear hA hb
    cases m with
    | false =>
      go_wp2_with fail
      go_ret
      exact ⟨rfl, HB.out⟩
    | true =>
      go_wp2_with fail
      go_ret
      exact ⟨rfl, HB.out⟩
end
section
open Go.RowKit Go.Maps Go.MapKept Go.WideMaps
set_option linter.unusedVariables false
set_option linter.unusedSimpArgs false
abbrev SetD := DataW Unit
def inB (l : List ByteArray) (s : ByteArray) : Bool := l.any fun t => decide (t = s)
/-- block b is a map of at most n names: those of the list -/
def MapS (w : World) (b n : Nat) (seen : List ByteArray) : Prop :=
  ∃ D : SetD, w.ownsMap Tryz.prog 9 (plainElem Tryz.prog 4) b n D ∧ ∀ s : ByteArray, D.atKey (.string s.data.toList) (.lit (.bool false)) = .lit (.bool (inB seen s))
theorem lawS13 : Keyed Tryz.prog 9 := string_keyed Tryz.underlying9
set_option maxRecDepth 100000 in
theorem zeroB13 (w : World) : (zeroValue 4).run Tryz.prog w = .ok (.bool false) w := by kernel_rfl
theorem MapS.made (w : World) : MapS (w.alloc (.map #[] 0)) w.heap.size 0 [] := ⟨.map [], World.ownsMap_made w _ _ _, fun s => rfl⟩
theorem MapS.later {w w' : World} {b n : Nat} {seen : List ByteArray} (h : MapS w b n seen) (hb : Below w.heap.size w w') : MapS w' b n seen := by
  obtain ⟨D, ⟨es, clock, h3, F, h4, h5⟩, h2⟩ := h
  have hlt : b < w.heap.size := (Array.getElem?_eq_some_iff.1 h3).1
  exact ⟨D, ⟨es, clock, (hb.block b hlt).trans h3, F, h4, h5⟩, h2⟩
theorem MapS.row {w : World} {b n g : Nat} {seen : List ByteArray} {t : TypeId} {cs : Array Value} (h : MapS w b n seen) (R : Row w g t cs) : g ≠ b := by
  obtain ⟨D, ⟨es, clock, h3, F, h4, h5⟩, h2⟩ := h
  rintro rfl
  have R' : w.heap[g]? = some (.cells cs t (0, 0)) := R
  rw [R'] at h3
  cases h3
set_option maxRecDepth 100000 in
theorem plainElem_bool_inv13 {v : Value} {z : SetD × List MemPlace} (h : plainElem Tryz.prog 4 v = some z) : ∃ c, v = .bool c ∧ z = (.lit (.bool c), []) := by
  unfold plainElem at h
  rw [Tryz.underlying4] at h
  cases v <;> simp at h
  exact ⟨_, rfl, h.symm⟩
theorem MapS.look {w : World} {b n : Nat} {seen : List ByteArray} (h : MapS w b n seen) (s : ByteArray) (hs : s.size ≤ maxLen) : (Instr.lookup 132 (.map (some b)) (.string s) false).run Tryz.prog w = .ok (.bool (inB seen s)) w := by
  obtain ⟨D, h1, h2⟩ := h
  obtain ⟨v, ps, hrun, hv⟩ := h1.lookup lawS13 Tryz.underlying132 (zeroB13 w) (plainElem_bool Tryz.underlying4 false) (keyOf_string_mk Tryz.underlying9 hs)
  obtain ⟨c, rfl, hc⟩ := plainElem_bool_inv13 hv
  rw [h2 s] at hc
  simp only [Prod.mk.injEq, DataW.lit.injEq, Lit.bool.injEq] at hc
  rw [hrun, hc.1]
theorem MapS.put {w : World} {b n : Nat} {seen : List ByteArray} (h : MapS w b n seen) (hn : n < maxLen) (s : ByteArray) (hs : s.size ≤ maxLen) :
    ∃ w', (Instr.mapUpdate 132 (.map (some b)) (.string s) (.bool true)).run Tryz.prog w = .ok () w' ∧ MapS w' b (n + 1) (seen ++ [s]) ∧ w.grownBy w' (some b) := by
  obtain ⟨D, h1, h2⟩ := h
  obtain ⟨w', hrun, ho, hg⟩ := h1.update lawS13 Tryz.underlying132 hn (keyOf_string_mk Tryz.underlying9 hs) (plainElem_bool Tryz.underlying4 true)
  refine ⟨w', hrun, ⟨_, ho, fun x => ?_⟩, hg⟩
  by_cases hx : x = s
  · subst hx
    rw [atKey_put_same h1.isMap (by trivial)]
    simp [inB]
  · rw [atKey_put_other (fun e => hx (nmL_inj (by simpa using e))), h2 x]
    have hx' : ¬ s = x := fun h => hx h.symm
    simp [inB, hx']
set_option maxRecDepth 100000 in
set_option maxHeartbeats 4000000 in
theorem take_yes {gt b n : Nat} {seen : List ByteArray} {w : World} (s : ByteArray) (R : Row w gt 132 #[.map (some b)]) (M : MapS w b n seen) (hs : s.size ≤ maxLen) (hn : n < maxLen) (hno : inB seen s = false) :
    Calls Tryz.prog 104 #[.string s, .bool true, .pointer (some ⟨gt, 0, none⟩)] w fun e w' => e = .returned (.tuple #[]) ∧ MapS w' b (n + 1) (seen ++ [s]) ∧ w.grownBy w' (some b) := by
  have hl := M.look s hs
  rw [hno] at hl
  have k0 := R.cell 0
  simp only [List.getElem?_toArray, List.getElem?_cons_zero] at k0
  obtain ⟨w', hrun, hM, hg⟩ := M.put hn s hs
  have HM := Lib.hid hM
  have HG := Lib.hid hg
  clear hM hg M R
  go_enter Tryz.func104, Tryz.ntmps104
  go_wp2_with fail
  refine (demand_yes _ _).mono ?_
  rintro e w1 ⟨rfl, rfl⟩
  go_wp2_with fail
  go_end0
  exact ⟨rfl, HM.out, HG.out⟩
set_option maxRecDepth 100000 in
set_option maxHeartbeats 4000000 in
theorem take_no {gt b n : Nat} {seen : List ByteArray} {w : World} {m : Bool} (s : ByteArray) (R : Row w gt 132 #[.map (some b)]) (M : MapS w b n seen) (hs : s.size ≤ maxLen) (hno : m = false ∨ inB seen s = true) :
    Calls Tryz.prog 104 #[.string s, .bool m, .pointer (some ⟨gt, 0, none⟩)] w fun e w' => e = .panicked (diesV 15) ∧ w = w' := by
  have hl := M.look s hs
  have k0 := R.cell 0
  simp only [List.getElem?_toArray, List.getElem?_cons_zero] at k0
  cases m with
  | false =>
    clear hl hno M R
    go_enter Tryz.func104, Tryz.ntmps104
    go_wp2_with fail
    refine (demand_no _ _).mono ?_
    rintro e w1 ⟨rfl, rfl⟩
    exact ⟨rfl, rfl, rfl⟩
  | true =>
    have hin : inB seen s = true := by
      rcases hno with h | h
      · cases h
      · exact h
    rw [hin] at hl
    clear hno hin M R
    go_enter Tryz.func104, Tryz.ntmps104
    go_wp2_with fail
    refine (demand_no _ _).mono ?_
    rintro e w1 ⟨rfl, rfl⟩
    exact ⟨rfl, rfl, rfl⟩
set_option maxRecDepth 100000 in
set_option maxHeartbeats 4000000 in
theorem isLong_any (q : Q3) {u1 u2 : Option Addr} {j1 j2 : Nat} (w : World) (h1 : q.num.length ≤ 1048576) (h2 : q.den.length ≤ 1048576) : Calls Tryz.prog 110 #[.agg #[.bool q.neg, .slice u1 q.num.length j1, .slice u2 q.den.length j2]] w fun e w' => e = .returned (.bool (isLongQ q)) ∧ Below w.heap.size w w' := by
  obtain ⟨n, hn⟩ : ∃ n, q.num.length = n := ⟨_, rfl⟩
  obtain ⟨d, hd⟩ : ∃ n, q.den.length = n := ⟨_, rfl⟩
  obtain ⟨t, ht⟩ : ∃ t, isLongQ q = t := ⟨_, rfl⟩
  have htb : decide (32 < n ∨ 32 < d) = t := by rw [← ht, ← hn, ← hd]; rfl
  rw [hn] at h1
  rw [hd] at h2
  rw [hn, hd, ht]
  obtain ⟨W, hW⟩ : ∃ W, w.alloc (.cells #[.bool q.neg, .slice u1 n j1, .slice u2 d j2] 93) = W := ⟨_, rfl⟩
  have R0 : Row W w.heap.size 93 #[.bool q.neg, .slice u1 n j1, .slice u2 d j2] := by rw [← hW]; exact Row.new _ _ _
  have hbW : Below w.heap.size w W := by rw [← hW]; exact (Below.refl _ _).alloc (Nat.le_refl _) _
  obtain ⟨k0, k1, k2, _, _, _⟩ := R0.three
  have HT := Lib.hid htb
  clear hn hd ht R0 htb
  have hmx : decide ((32 : Int) < max (n : Int) (d : Int)) = t := by
    rw [← HT.out, decide_eq_decide]
    omega
  go_enter Tryz.func110, Tryz.ntmps110
  (try rw [hW])
  go_wp2_with fail
  go_ret
  exact ⟨rfl, hbW⟩
set_option maxRecDepth 100000 in
set_option maxHeartbeats 4000000 in
theorem indexQ_any {F : Nat} {cap : Array Value} {p : Q3 → Bool} {l : List Q3} {ad : Option Addr} {ca : Nat} {w : World} (R : RowA RawQ w (.slice ad l.length ca) l ad ca) (hl : l.length ≤ 17592186044416) (heF : ∀ args w, (callFunc F args).run Tryz.prog w = .ok (.enter F args) w)
    (hdo : ∀ W (x : Q3) u1 j1 u2 j2, x ∈ l → Below w.heap.size w W → Calls Tryz.prog F (#[.agg #[.bool x.neg, .slice u1 x.num.length j1, .slice u2 x.den.length j2]] ++ cap) W fun e w' => e = .returned (.bool (p x)) ∧ Below W.heap.size W w') :
    Calls Tryz.prog 141 #[.slice ad l.length ca, .func (.func F) #[] cap] w fun e w' => ∃ i : Int, e = .returned (.int .i64 i) ∧ decide (i ≥ 0) = l.any p ∧ Below w.heap.size w w' := by
  have HR := Lib.hid R
  have HDO := Lib.hid hdo
  obtain ⟨L, hL⟩ : ∃ L, l.length = L := ⟨_, rfl⟩
  have HL := Lib.hid hL
  rw [hL] at hl ⊢
  clear R hdo hL
  go_enter Tryz.func141, Tryz.ntmps141
  go_wp2_with fail
  go_loopw [5, 8] (fun _ i wr => ∃ k : Nat, i = .int .i64 (k : Int) ∧ k ≤ L ∧ Hid (∀ j x, j < k → l[j]? = some x → p x = false) ∧ Below w.heap.size w wr) (fun _ i _ => L - (intOf i).toNat)
  case atStart => exact ⟨0, rfl, by omega, Lib.hid (fun j x hj => by omega), Below.refl _ _⟩
  case round =>
    obtain ⟨k, rfl, hk, hall, hb⟩ := hrel
    by_cases hlt : k < L
    · have hltI : (k : Int) < (L : Int) := by omega
      obtain ⟨bb, o, x0, x1, x2, x, hbo, hx, e0, e1, e2, hraw⟩ := (HR.out.later hb (fun v x _ k => k.later hb)).at (i := k) (by rw [HL.out]; exact hlt)
      subst hbo
      obtain ⟨u1, u2, j1, j2, hraw', _⟩ := id hraw
      simp only [Value.agg.injEq, Array.mk.injEq, List.cons.injEq, and_true] at hraw'
      obtain ⟨rfl, rfl, rfl⟩ := hraw'
      have hmem : x ∈ l := List.mem_of_getElem? hx
      have HME := Lib.hid hmem
      have HXE := Lib.hid hx
      have hcall := HDO.out wr x u1 j1 u2 j2 hmem hb
      obtain ⟨t, ht⟩ : ∃ t, p x = t := ⟨_, rfl⟩
      rw [ht] at hcall
      obtain ⟨lx, hlx⟩ : ∃ n, x.num.length = n := ⟨_, rfl⟩
      obtain ⟨ly, hly⟩ : ∃ n, x.den.length = n := ⟨_, rfl⟩
      rw [hlx, hly] at hcall
      rw [hlx] at e1
      rw [hly] at e2
      have HCA := Lib.hid hcall
      have HTT := Lib.hid ht
      clear ht hmem hx hraw hlx hly hcall
      go_wp2_with fail
      refine HCA.out.mono ?_
      rintro e y1 ⟨rfl, hy⟩
      cases t with
      | true =>
        go_wp2_with fail
        go_ret
        refine ⟨_, rfl, ?_, hb.trans (hy.mono hb.size)⟩
        rw [List.any_eq_true.2 ⟨x, HME.out, HTT.out⟩]
        exact decide_eq_true (by omega)
      | false =>
        go_wp2_with fail
        go_roundw
        case rel =>
          refine ⟨k + 1, by go_num, by omega, Lib.hid (fun j z hj hz => ?_), hb.trans (hy.mono hb.size)⟩
          by_cases hjk : j < k
          · exact hall.out j z hjk hz
          · obtain rfl : j = k := by omega
            rw [HXE.out] at hz
            cases hz
            exact HTT.out
        case measure => simp [intOf]; omega
    · obtain rfl : k = L := by omega
      have hltI : ¬ (k : Int) < (k : Int) := by omega
      go_wp2_with fail
      go_ret
      refine ⟨_, rfl, ?_, hb⟩
      have hany : l.any p = false := by
        rw [List.any_eq_false]
        intro x hxm
        obtain ⟨j, hj, he⟩ := List.mem_iff_getElem.1 hxm
        have h := hall.out j x (by rw [← HL.out]; exact hj) (by rw [List.getElem?_eq_getElem hj, he])
        simpa using h
      rw [hany]
      rfl
set_option maxRecDepth 100000 in
set_option maxHeartbeats 4000000 in
theorem longs_any {l : List Q3} {ad : Option Addr} {ca : Nat} {w : World} (R : RowA RawQ w (.slice ad l.length ca) l ad ca) (hl : l.length ≤ 17592186044416) (hq : ∀ q ∈ l, q.num.length ≤ 1048576 ∧ q.den.length ≤ 1048576) :
    Calls Tryz.prog 109 #[.slice ad l.length ca, .func (.func 110) #[] #[]] w fun e w' => e = .returned (.bool (longB l)) ∧ Below w.heap.size w w' := by
  have hi := indexQ_any (F := 110) (cap := #[]) (p := isLongQ) R hl (fun args w => enters_of Tryz.func110 (by kernel_rfl) rfl args w) (fun W x u1 j1 u2 j2 hx _ => by
    have h := isLong_any x (u1 := u1) (j1 := j1) (u2 := u2) (j2 := j2) W (hq x hx).1 (hq x hx).2
    exact h)
  obtain ⟨t, ht⟩ : ∃ t, longB l = t := ⟨_, rfl⟩
  obtain ⟨L, hL⟩ : ∃ L, l.length = L := ⟨_, rfl⟩
  rw [show l.any isLongQ = t from ht, hL] at hi
  rw [ht, hL]
  clear ht hL
  go_enter Tryz.func109, Tryz.ntmps109
  go_wp2_with fail
  refine hi.mono ?_
  rintro e y1 ⟨i, rfl, hd, hy⟩
  subst hd
  go_wp2_with fail
  go_ret
  exact ⟨rfl, hy⟩
end
section
open Go.RowKit
set_option linter.unusedVariables false
set_option linter.unusedSimpArgs false
def numQ13 (n : Int) : Q3 := ⟨false, [n], [1]⟩
def sampD (y : Int) : GrD := ⟨3, [⟨⟨#[120]⟩, [2, 3]⟩], [⟨⟨#[119]⟩, [3, 1], [numQ13 1, numQ13 2, numQ13 3]⟩], ⟨[⟨10, [0, y], []⟩, ⟨7, [2], []⟩], [3]⟩, false, noBo⟩
theorem samp_ok : chkG (sampD 1) = 0 := by decide +kernel
theorem samp_no : chkG (sampD 3) = 12 := by decide +kernel
theorem samp_shapes : fwdF (sampD 1) = [[2, 3], [3, 1], [2, 1], [2, 1]] := by decide +kernel
end
section
open Go.RowKit
set_option linter.unusedVariables false
set_option linter.unusedSimpArgs false
set_option maxRecDepth 100000 in
set_option maxHeartbeats 4000000 in
theorem plainR_any (s : ByteArray) (w : World) (hm : s.size ≤ 140737488355328) : Calls Tryz.prog 23 #[.string s] w fun e w' => e = .returned (.bool (plainB (nmL s))) ∧ Below w.heap.size w w' := by
  obtain ⟨t, ht⟩ : ∃ t, plainB (nmL s) = t := ⟨_, rfl⟩
  rw [ht]
  have hB := Below.refl w.heap.size w
  by_cases h1 : s.size < 1
  · have h1I : (s.size : Int) < 1 := by omega
    obtain rfl : t = false := by
      rw [← ht]
      unfold plainB
      rw [nm_size, decide_eq_false (by omega)]
      rfl
    clear ht
    go_enter Tryz.func23, Tryz.ntmps23
    go_wp2_with fail
    (try rw [Exit.noGoto_ret])
    go_ret
    exact ⟨rfl, hB⟩
  · have h1I : ¬ (s.size : Int) < 1 := by omega
    by_cases h2 : s.size > 32
    · have h2I : (s.size : Int) > 32 := by omega
      obtain rfl : t = false := by
        rw [← ht]
        unfold plainB
        rw [nm_size, decide_eq_false (by omega)]
        rfl
      clear ht
      go_enter Tryz.func23, Tryz.ntmps23
      go_wp2_with fail
      (try rw [Exit.noGoto_ret])
      go_ret
      exact ⟨rfl, hB⟩
    · have h2I : ¬ (s.size : Int) > 32 := by omega
      have hP : plainB (nmL s) = lettersB (nmL s) s.size := by
        unfold plainB
        rw [nm_size, decide_eq_true (by omega)]
        simp
      rw [hP] at ht
      have HT := Lib.hid ht
      clear ht hP
      go_enter Tryz.func23, Tryz.ntmps23
      go_wp2_with fail
      go_loopw [3] (fun i wr => ∃ k : Nat, i = .int .i64 (k : Int) ∧ Below w.heap.size w wr ∧ k ≤ s.size ∧ Hid (lettersB (nmL s) k = true)) (fun i _ => s.size - (intOf i).toNat)
      case atStart => exact ⟨0, rfl, hB, Nat.zero_le _, Lib.hid (lettersB_zero _)⟩
      case round =>
        rename World => wr
        obtain ⟨k, rfl, hbr, hk, hlet⟩ := hrel
        by_cases hlt : k < s.size
        · have hltI : (k : Int) < (s.size : Int) := by omega
          have hgo : nmB k ((nmL s).getD k 0) = true → lettersB (nmL s) (k + 1) = true := fun h => lettersB_next hlet.out h
          have hno : nmB k ((nmL s).getD k 0) = false → lettersB (nmL s) s.size = false := fun h => lettersB_stop hlt h
          rw [nm_at hlt] at hgo hno
          have HGO := Lib.hid hgo
          have HNO := Lib.hid hno
          have hways : ((97 ≤ ((s[k]'hlt).toNat : Int) ∧ ((s[k]'hlt).toNat : Int) ≤ 122) ∧ nmB k (s[k]'hlt) = true) ∨ ((((s[k]'hlt).toNat : Int) < 97 ∨ 122 < ((s[k]'hlt).toNat : Int)) ∧ ((k = 0 ∧ nmB k (s[k]'hlt) = false) ∨ (k ≠ 0 ∧ ((((s[k]'hlt).toNat : Int) < 48 ∧ nmB k (s[k]'hlt) = false) ∨ (48 ≤ ((s[k]'hlt).toNat : Int) ∧ ((s[k]'hlt).toNat : Int) ≤ 57 ∧ nmB k (s[k]'hlt) = true) ∨ (57 < ((s[k]'hlt).toNat : Int) ∧ ((s[k]'hlt).toNat : Int) = 95 ∧ nmB k (s[k]'hlt) = true) ∨ (57 < ((s[k]'hlt).toNat : Int) ∧ ¬ ((s[k]'hlt).toNat : Int) = 95 ∧ nmB k (s[k]'hlt) = false))))) := by
            have e1 : ∀ b, nmB k (s[k]'hlt) = b ↔ (decide (97 ≤ (s[k]'hlt).toNat ∧ (s[k]'hlt).toNat ≤ 122) || (decide (k ≠ 0) && (decide (48 ≤ (s[k]'hlt).toNat ∧ (s[k]'hlt).toNat ≤ 57) || decide ((s[k]'hlt).toNat = 95)))) = b := fun b => Iff.rfl
            rw [e1, e1]
            simp only [Bool.or_eq_true, Bool.and_eq_true, decide_eq_true_eq, Bool.or_eq_false_iff, Bool.and_eq_false_iff, decide_eq_false_iff_not]
            generalize (s[k]'hlt).toNat = c
            omega
          have HBR := Lib.hid hbr
          have HLT := Lib.hid hlt
          clear hgo hno hlet hbr
          obtain ⟨c, hc⟩ : ∃ c : Int, ((s[k]'hlt).toNat : Int) = c := ⟨_, rfl⟩
          rw [hc] at hways
          rcases hways with ⟨⟨a1, a2⟩, hn⟩ | ⟨a1 | a1, ⟨hz, hn⟩ | ⟨hz, ⟨h4, hn⟩ | ⟨h4, h5, hn⟩ | ⟨h4, h5, hn⟩ | ⟨h4, h5, hn⟩⟩⟩
          · have HG1 := Lib.hid (HGO.out hn)
            clear hn
            have b1 : decide (97 ≤ c) = true := decide_eq_true a1
            have b2 : decide (c ≤ 122) = true := decide_eq_true a2
            go_wp2_with fail
            go_roundw
            case rel => exact ⟨k + 1, by go_num, HBR.out, by have := HLT.out; omega, Lib.hid HG1.out⟩
            case measure => simp [intOf]; have := HLT.out; omega
          · have hno1 := HNO.out hn
            rw [HT.out] at hno1
            subst hno1
            clear hn
            have b1 : decide (97 ≤ c) = false := decide_eq_false (by omega)
            have z1 : ((k : Int) == 0) = true := by simp [hz]
            clear hz
            have HA1 := Lib.hid a1
            go_wp2_with fail
            all_goals (try rw [Exit.noGoto_ret])
            all_goals go_ret
            all_goals exact ⟨rfl, HBR.out⟩
          · have hno1 := HNO.out hn
            rw [HT.out] at hno1
            subst hno1
            clear hn
            have b1 : decide (97 ≤ c) = false := decide_eq_false (by omega)
            have z1 : ((k : Int) == 0) = false := by simpa using hz
            clear hz
            have d1 : decide (48 ≤ c) = false := decide_eq_false (by omega)
            have d3 : (c == 95) = false := by simp; omega
            go_wp2_with fail
            (try rw [Exit.noGoto_ret])
            go_ret
            exact ⟨rfl, HBR.out⟩
          · have HG1 := Lib.hid (HGO.out hn)
            clear hn
            have b1 : decide (97 ≤ c) = false := decide_eq_false (by omega)
            have z1 : ((k : Int) == 0) = false := by simpa using hz
            clear hz
            have d1 : decide (48 ≤ c) = true := decide_eq_true (by omega)
            have d2 : decide (c ≤ 57) = true := decide_eq_true (by omega)
            go_wp2_with fail
            go_roundw
            case rel => exact ⟨k + 1, by go_num, HBR.out, by have := HLT.out; omega, Lib.hid HG1.out⟩
            case measure => simp [intOf]; have := HLT.out; omega
          · have HG1 := Lib.hid (HGO.out hn)
            clear hn
            have b1 : decide (97 ≤ c) = false := decide_eq_false (by omega)
            have z1 : ((k : Int) == 0) = false := by simpa using hz
            clear hz
            have d1 : decide (48 ≤ c) = true := decide_eq_true (by omega)
            have d2 : decide (c ≤ 57) = false := decide_eq_false (by omega)
            have d3 : (c == 95) = true := by simp; omega
            go_wp2_with fail
            go_roundw
            case rel => exact ⟨k + 1, by go_num, HBR.out, by have := HLT.out; omega, Lib.hid HG1.out⟩
            case measure => simp [intOf]; have := HLT.out; omega
          · have hno1 := HNO.out hn
            rw [HT.out] at hno1
            subst hno1
            clear hn
            have b1 : decide (97 ≤ c) = false := decide_eq_false (by omega)
            have z1 : ((k : Int) == 0) = false := by simpa using hz
            clear hz
            have d1 : decide (48 ≤ c) = true := decide_eq_true (by omega)
            have d2 : decide (c ≤ 57) = false := decide_eq_false (by omega)
            have d3 : (c == 95) = false := by simp; omega
            go_wp2_with fail
            (try rw [Exit.noGoto_ret])
            go_ret
            exact ⟨rfl, HBR.out⟩
          · have hno1 := HNO.out hn
            rw [HT.out] at hno1
            subst hno1
            clear hn
            have b1 : decide (97 ≤ c) = true := decide_eq_true (by omega)
            have b2 : decide (c ≤ 122) = false := decide_eq_false (by omega)
            have z1 : ((k : Int) == 0) = true := by simp [hz]
            clear hz
            have d1 : decide (48 ≤ c) = true := decide_eq_true (by omega)
            have d2 : decide (c ≤ 57) = false := decide_eq_false (by omega)
            have d3 : (c == 95) = false := by simp; omega
            go_wp2_with fail
            (try rw [Exit.noGoto_ret])
            go_ret
            exact ⟨rfl, HBR.out⟩
          · omega
          · omega
          · omega
          · have hno1 := HNO.out hn
            rw [HT.out] at hno1
            subst hno1
            clear hn
            have b1 : decide (97 ≤ c) = true := decide_eq_true (by omega)
            have b2 : decide (c ≤ 122) = false := decide_eq_false (by omega)
            have z1 : ((k : Int) == 0) = false := by simpa using hz
            clear hz
            have d1 : decide (48 ≤ c) = true := decide_eq_true (by omega)
            have d2 : decide (c ≤ 57) = false := decide_eq_false (by omega)
            have d3 : (c == 95) = false := by simp; omega
            go_wp2_with fail
            (try rw [Exit.noGoto_ret])
            go_ret
            exact ⟨rfl, HBR.out⟩
        · obtain rfl : s.size = k := by omega
          have hltI : ¬ (s.size : Int) < (s.size : Int) := by omega
          have hl := hlet.out
          rw [HT.out] at hl
          subst hl
          go_wp2_with fail
          go_ret
          exact ⟨rfl, hbr⟩
end
end Go.Proofs.YtjgiacghlkkjfaaGreatDoor
