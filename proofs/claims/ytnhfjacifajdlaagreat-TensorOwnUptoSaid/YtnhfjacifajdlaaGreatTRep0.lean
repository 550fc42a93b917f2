/-
  math/bits.Mul of 1 and a small number; copy within a row of structs.
-/
import Derived.Shelf.Bits.Mul64
import Derived.Laws.CopyOwn
import Derived.Test.YtnhfjacifajdlaaGreatTCode8
namespace Go.Proofs.YtnhfjacifajdlaaGreat
open Go.RowKit Go.Shelf
set_option linter.unusedVariables false
set_option linter.unusedSimpArgs false

set_option maxHeartbeats 1000000 in
theorem mul64_one (c : Nat) (hc : c ≤ 1048576) (w : World) :
    Calls Tryz.prog 126 #[.int .u64 1, .int .u64 (c : Int)] w fun e w' => e = .returned (.tuple #[.int .u64 0, .int .u64 (c : Int)]) ∧ w' = w := by
  have e1 : bits .and .u64 (1 : Int) 4294967295 = 1 := by decide +kernel
  have e4 : bits .and .u64 (0 : Int) 4294967295 = 0 := by decide +kernel
  have e2 : bits .and .u64 (c : Int) 4294967295 = (c : Int) := by
    rw [Mul64.maskN c (by omega)]
    omega
  have e3 : (c : Int) / 4294967296 = 0 := by omega
  go_enter Tryz.func126, Tryz.ntmps126
  go_wp2
  go_ret2
  exact ⟨rfl, rfl⟩
theorem mul_one (c : Nat) (hc : c ≤ 1048576) (w : World) :
    Calls Tryz.prog 94 #[.int .u64 1, .int .u64 (c : Int)] w fun e w' => e = .returned (.tuple #[.int .u64 0, .int .u64 (c : Int)]) ∧ w' = w := by
  go_enter Tryz.func94, Tryz.ntmps94
  go_wp2_with (go_at_call 126; refine (mul64_one c hc _).mono ?_; rintro e w1 ⟨rfl, rfl⟩)
  go_ret2
  exact ⟨rfl, rfl⟩

/-- copy, of elements of z cells -/
theorem run_copy_sized (P : Program) (w : World) (dT sT ty elem : TypeId) (g o dLen dCap : Nat) (a : Addr) (sLen sCap z : Nat) (cur : Array Value) (t : TypeId) (cs : List Value)
    (hu : P.underlying dT = some (.slice elem)) (hs : (P.info? elem).map (·.size) = some z)
    (hg : w.heap[g]? = some (.cells cur t (0, 0))) (hn : cs.length = Nat.min sLen dLen * z)
    (hsrc : ∀ j v, cs[j]? = some v → w.cell? (a.add j) = some v) (hfit : o + cs.length ≤ cur.size) (h1 : ∀ v ∈ cs, v.oneCell' = true) :
    (Builtin.copy_ #[dT, sT] ty #[.slice (some ⟨g, o, none⟩) dLen dCap, .slice (some a) sLen sCap]).run P w =
      .ok (goInt (Nat.min sLen dLen)) (w.setRow g (cur.toList.take o ++ cs ++ cur.toList.drop (o + cs.length)).toArray) := by
  have hl := run_loadCells_list (P := P) w a cs hsrc
  have hst := run_storeCells_at P g o t cs 0 cur w hg (by simpa using hfit) h1
  cases hq : P.info? elem with
  | none => simp [hq] at hs
  | some i =>
    have hi : i.size = z := by simpa [hq] using hs
    simp [Builtin.copy_, run_underlying hu, Builtin.lenOf, Builtin.firstCells, sizeOf, typeInfo, hq, hi, ← hn, hl, hst]
theorem wpList_copy_sized {P : Program} {w : World} {ops : Array Oper} {rest : List Oper} {o : Oper} {a : Act} {Q : Exit → Act → World → Prop} (hgd : o.guard = none) (d s : Operand) (dT sT : TypeId)
    (ho : o.op = .call { callee := .builtin .copy, args := #[d, s], argTypes := #[dT, sT] }) (elem : TypeId) (hu : P.underlying dT = some (.slice elem)) (z : Nat) (hsz : (P.info? elem).map (·.size) = some z)
    (g off dLen dCap : Nat) (ad : Addr) (sLen sCap : Nat) (hd : a.eval d = .slice (some ⟨g, off, none⟩) dLen dCap) (hs : a.eval s = .slice (some ad) sLen sCap)
    (cur : Array Value) (t : TypeId) (hg : w.heap[g]? = some (.cells cur t (0, 0))) (cs : List Value) (hn : cs.length = Nat.min sLen dLen * z)
    (hsrc : ∀ j v, cs[j]? = some v → w.cell? (ad.add j) = some v) (hfit : off + cs.length ≤ cur.size) (h1 : ∀ v ∈ cs, v.oneCell' = true)
    (h : wpList P ops Q rest (a.put o.dst (goInt (Nat.min sLen dLen))) (w.setRow g (cur.toList.take off ++ cs ++ cur.toList.drop (off + cs.length)).toArray)) : wpList P ops Q (o :: rest) a w := by
  refine wpList_plain hgd fun K hK => ?_
  have hrun := run_copy_sized P w dT sT o.type elem g off dLen dCap ad sLen sCap z cur t cs hu hsz hg hn hsrc hfit h1
  unfold Oper.wp
  simp [execOp, ho, resolve, invoke, builtin, hd, hs, hrun, Result.andThen]
  rw [List.append_assoc] at h
  exact hK _ _ h
theorem step_copy_sized {P : Program} {ops : Array Oper} {o : Oper} {a : Act} {w : World} {K : Act → World → Prop} {Q : Exit → Act → World → Prop} {E : Prop} (hgd : o.guard = none) (d s : Operand) (dT sT : TypeId)
    (ho : o.op = .call { callee := .builtin .copy, args := #[d, s], argTypes := #[dT, sT] }) (elem : TypeId) (hu : P.underlying dT = some (.slice elem)) (z : Nat) (hsz : (P.info? elem).map (·.size) = some z)
    (g off dLen dCap : Nat) (ad : Addr) (sLen sCap : Nat) (hd : a.eval d = .slice (some ⟨g, off, none⟩) dLen dCap) (hs : a.eval s = .slice (some ad) sLen sCap)
    (cur : Array Value) (t : TypeId) (hg : w.heap[g]? = some (.cells cur t (0, 0))) (cs : List Value) (hn : cs.length = Nat.min sLen dLen * z)
    (hsrc : ∀ j v, cs[j]? = some v → w.cell? (ad.add j) = some v) (hfit : off + cs.length ≤ cur.size) (h1 : ∀ v ∈ cs, v.oneCell' = true)
    (h : K (a.put o.dst (goInt (Nat.min sLen dLen))) (w.setRow g (cur.toList.take off ++ cs ++ cur.toList.drop (off + cs.length)).toArray)) :
    if Region.wanted o (yielded ops a.tmps) = true then Oper.wp P o a w K Q else E := by
  have hw : Region.wanted o (yielded ops a.tmps) = true := by simp [Region.wanted, hgd]
  rw [if_pos hw]
  have hrun := run_copy_sized P w dT sT o.type elem g off dLen dCap ad sLen sCap z cur t cs hu hsz hg hn hsrc hfit h1
  unfold Oper.wp
  simp [execOp, ho, resolve, invoke, builtin, hd, hs, hrun, Result.andThen]
  rw [List.append_assoc] at h
  exact h

/-! a row of k like structs -/
def repE (e : E3) (k : Nat) : List Value := flat3 (List.replicate k e)
theorem repE_len (e : E3) (k : Nat) : (repE e k).length = k * 3 := by unfold repE; rw [flat3_length, List.length_replicate]
theorem repE_add (e : E3) (k m : Nat) : repE e (k + m) = repE e k ++ repE e m := by unfold repE; rw [← List.replicate_append_replicate, flat3_append]
theorem repE_grow (e : E3) (k m : Nat) (L : List Value) (h : (k + m) * 3 ≤ L.length) :
    (repE e k ++ L.drop (k * 3)).take (k * 3) ++ repE e m ++ (repE e k ++ L.drop (k * 3)).drop (k * 3 + (repE e m).length) = repE e (k + m) ++ L.drop ((k + m) * 3) := by
  have h1 : (repE e k ++ L.drop (k * 3)).take (k * 3) = repE e k := by rw [List.take_append_of_le_length (by rw [repE_len]; omega), List.take_of_length_le (by rw [repE_len]; omega)]
  have h2 : (repE e k ++ L.drop (k * 3)).drop (k * 3 + (repE e m).length) = L.drop ((k + m) * 3) := by
    rw [← repE_len e k, List.drop_append, List.drop_eq_nil_of_le (by omega), List.nil_append, List.drop_drop, repE_len, repE_len]
    congr 1
    omega
  rw [h1, h2, repE_add]
theorem repE_cells {e : E3} (h : e.a.oneCell' = true ∧ e.b.oneCell' = true ∧ e.c.oneCell' = true) (k : Nat) : ∀ v ∈ repE e k, v.oneCell' = true := by
  induction k with
  | zero => intro v hv; simp [repE, flat3] at hv
  | succ k ih =>
    intro v hv
    rw [show k + 1 = 1 + k by omega, repE_add] at hv
    rcases List.mem_append.1 hv with hv | hv
    · simp [repE, flat3] at hv
      rcases hv with rfl | rfl | rfl
      · exact h.1
      · exact h.2.1
      · exact h.2.2
    · exact ih v hv
theorem row_src {w : World} {g : Nat} {t : TypeId} {L : List Value} (h : w.heap[g]? = some (.cells L.toArray t (0, 0))) (cs M : List Value) (e : L = cs ++ M) : ∀ j v, cs[j]? = some v → w.cell? ((⟨g, 0, none⟩ : Addr).add j) = some v := by
  intro j v hj
  have hlt : j < cs.length := by
    rcases Nat.lt_or_ge j cs.length with k | k
    · exact k
    · rw [List.getElem?_eq_none k] at hj; cases hj
  have : L[j]? = some v := by rw [e, List.getElem?_append_left hlt]; exact hj
  by_cases h0 : j = 0
  · subst h0; simp [Addr.add, World.cell?, h, this]
  · simp [Addr.add, World.cell?, h, this, h0]
end Go.Proofs.YtnhfjacifajdlaaGreat
