/-
  The reference of layer 5: Same, Own, Block.
-/
import Derived.Test.YtgjoiacgdgbcjaaWRefB
import Derived.Laws.BytesArg
import Derived.Laws.AppendOwnNone
namespace Go.Proofs.Ytgjoiacgdgbcjaa
open Go.RowKit
set_option linter.unusedVariables false
set_option linter.unusedSimpArgs false

/-- string(b) -/
theorem string_of {w : World} {ad : Option Addr} {xs : List Int} {cap : Nat} (h : LimB w ad xs) :
    (convert 22 9 (.slice ad xs.length cap)).run Try.prog w = .ok (.string (strOfNums xs)) w := by
  rcases h with rfl | ⟨b, off, rfl, hc⟩
  · cases ad with
    | none => exact run_convert_bytes_nil w 22 5 Try.underlying22 Try.underlying5 _ _ _ Try.underlying9
    | some a =>
      rw [run_convert_bytes_string w 22 9 5 _ _ cap Try.underlying22 Try.underlying5 Try.underlying9]
      have hl := run_loadCells_list (P := Try.prog) w a [] (fun j v hj => by simp at hj)
      exact run_bytesToString w a 0 cap [] hl
  · exact run_convert_bytes_arg w 22 5 Try.underlying22 Try.underlying5 b off _ cap xs rfl hc _ Try.underlying9
theorem strOf_inj {xs ys : List Int} (hx : Byt xs) (hy : Byt ys) : ((strOfNums xs).toList == (strOfNums ys).toList) = decide (xs = ys) := by
  rw [ByteArray.toList_eq, ByteArray.toList_eq, strOfNums_data, strOfNums_data, Bool.eq_iff_iff, beq_iff_eq, decide_eq_true_iff]
  constructor
  · intro h
    have back : ∀ {zs : List Int}, Byt zs → (zs.map fun n => UInt8.ofNat n.toNat).map (fun c => (c.toNat : Int)) = zs := by
      intro zs hz
      induction zs with
      | nil => rfl
      | cons z zs ih =>
        have h1 := hz z (by simp)
        rw [List.map_cons, List.map_cons, ih (fun y hy => hz y (by simp [hy])), UInt8.toNat_ofNat']
        congr 1
        omega
    rw [← back hx, h, back hy]
  · intro h
    rw [h]

set_option maxHeartbeats 1000000 in
theorem sameB_any {u v : Value} {xs ys : List Int} {a b : Option Addr} {capa capb : Nat} {w : World} (h1 : ArgB w u xs a capa) (h2 : ArgB w v ys b capb) :
    Calls Try.prog 14 #[u, v] w fun e w' => e = .returned (.bool (decide (xs = ys))) ∧ w = w' := by
  obtain ⟨rfl, lx, _, wx⟩ := h1
  obtain ⟨rfl, ly, _, wy⟩ := h2
  have hx := string_of (cap := capa) lx
  have hy := string_of (cap := capb) ly
  have hs := strOf_inj wx wy
  obtain ⟨d, hd⟩ : ∃ d, decide (xs = ys) = d := ⟨_, rfl⟩
  rw [hd] at hs ⊢
  clear lx ly wx wy hd
  go_enter Try.func14, Try.ntmps14
  go_wp2
  go_ret
  exact ⟨rfl, rfl⟩
/-- append(nil, b..) -/
theorem step_copyB {ops : Array Oper} {rest : List Oper} {o : Oper} {a : Act} {w : World} {Q : Exit → Act → World → Prop} (hg : o.guard = none) (t : Nat)
    (hop : o.op = Op.call { callee := Callee.builtin Builtin.append, args := #[Operand.const (.slice none 0 0), Operand.tmp t], argTypes := #[22, 22] }) {xs : List Int} {ad : Option Addr} {cap : Nat} {u : Value} (hx : a.eval (.tmp t) = u)
    (hA : ArgB w u xs ad cap) (hn : ad = none → cap = 0) (hl : xs.length ≤ 140737488355328)
    (h : ∀ v' w1, NumB w.heap.size w1 v' xs → Below w.heap.size w w1 → wpList Try.prog ops Q rest (a.put o.dst v') w1) : wpList Try.prog ops Q (o :: rest) a w := by
  obtain ⟨i0, hi, hz0, hz1, hz2⟩ := info_parts infoByte
  have hnil := World.ownsRow_nil w w.heap.size 5 1
  obtain ⟨rfl, lx, hle, wx⟩ := hA
  cases ad with
  | none =>
    have hc := hn rfl
    subst hc
    have hxs : xs = [] := List.eq_nil_of_length_eq_zero (by omega)
    subst hxs
    have hrun := fun ty => run_append_owned_none (P := Try.prog) w w.heap.size 22 ty 5 i0 1 Try.underlying22 hi (.slice none 0 0) 0 [] hnil
    refine wpList_plain hg fun K hK => ?_
    have h' := hK _ _ (h _ _ hnil (Below.refl _ _))
    obtain ⟨dst, op, type, pos, after, guard⟩ := o
    simp only at hop hg h' ⊢
    subst hop
    subst hg
    simp only [List.length_nil] at hx
    have hx' : a.tmps[t]?.getD undef = .slice none 0 0 := by simpa [go_sem] using hx
    unfold Oper.wp
    simp [go_sem, hx', hrun]
    exact h'
  | some ad =>
    have hcells : ∀ j u, (xs.map (Value.int .u8))[j]? = some u → w.cell? (ad.add j) = some u := by
      intro j u hj
      rcases lx with rfl | ⟨b, off, e, hc⟩
      · simp at hj
      · cases e
        rw [List.getElem?_map] at hj
        have hjl : j < xs.length := by
          rcases Nat.lt_or_ge j xs.length with h | h
          · exact h
          · rw [List.getElem?_eq_none h] at hj; cases hj
        rw [show (⟨b, off, none⟩ : Addr).add j = ⟨b, off + j, none⟩ from (by unfold Addr.add; split <;> simp_all), hc j hjl, ← hj]
        simp [hjl]
    refine wpList_append_own w hg (.const (.slice none 0 0)) (.tmp t) 22 hop w.heap.size 5 i0 (.int .u8 0) 1 1 Try.underlying22 hi hz0 hz1 hz2 rfl (by decide) (.slice none 0 0) 0 [] rfl hnil ad xs.length cap (xs.map (Value.int .u8)) hx (by simp) hcells (ints_oneCell _ _) (by unfold maxLen; omega) (by omega) (Nat.le_refl _) ?_
    intro v' w1 hown hgrow _
    refine h v' w1 ?_ ((Below.refl _ w).grown hgrow (Nat.le_refl _) (fun k hk => by cases hk))
    unfold NumB
    simpa using hown

set_option maxHeartbeats 1000000 in
theorem ownB_any {u : Value} {xs : List Int} {a : Option Addr} {cap : Nat} {w : World} (h1 : ArgB w u xs a cap) (hn : a = none → cap = 0) (hx : xs.length ≤ 140737488355328) :
    Calls Try.prog 11 #[u] w fun e w' => ∃ r, e = .returned r ∧ ResB w.heap.size w' r xs ∧ Below w.heap.size w w' := by
  have A := h1
  have hw := h1.wf
  obtain rfl := h1.is
  clear h1
  have HN := Lib.hid hn
  have HW := Lib.hid hw
  clear hn hw
  go_enter Try.func11, Try.ntmps11
  go_wp2_with (at_builtin; refine step_copyB rfl _ rfl rfl A HN.out hx ?_; intro r w1 N1 hb1)
  go_wp2
  go_ret
  exact ⟨_, rfl, ⟨N1, HW.out⟩, hb1⟩
end Go.Proofs.Ytgjoiacgdgbcjaa
