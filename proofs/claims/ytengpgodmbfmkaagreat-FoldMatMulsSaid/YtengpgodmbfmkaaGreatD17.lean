/-
  Opening arguments of layer 7's laws: tensors.
-/
import Derived.Test.YtengpgodmbfmkaaGreatD13
import Derived.Test.YtengpgodmbfmkaaGreatD14
namespace Go.Proofs.YtengpgodmbfmkaaGreat
set_option linter.unusedVariables false
set_option linter.unusedSimpArgs false
set_option maxRecDepth 100000
set_option maxHeartbeats 40000000
section
open Go.RowKit
theorem append_types {P : Program} {t t' e e' : TypeId} (ht : P.underlying t = some (.slice e)) (ht' : P.underlying t' = some (.slice e')) (ty : TypeId) (v x : Value) (w : World) :
 (Builtin.append_ #[t, t'] ty #[v, x]).run P w = (Builtin.append_ #[t, t] ty #[v, x]).run P w := by
 unfold Builtin.append_
 cases v <;> simp [run_underlying ht, run_underlying ht']
theorem step_copyT {ops : Array Oper} {rest : List Oper} {o : Oper} {a : Act} {w : World} {Q : Exit → Act → World → Prop} (hg : o.guard = none) (t : Nat) (T T' : TypeId) (hT : Tryz.prog.underlying T = some (.slice 3)) (hT' : Tryz.prog.underlying T' = some (.slice 3))
 (hop : o.op = Op.call { callee := Callee.builtin Builtin.append, args := #[Operand.const (.slice none 0 0), Operand.tmp t], argTypes := #[T, T'] }) {xs : List Int} {ad : Option Addr} {cap : Nat} {u : Value} (hx : a.eval (.tmp t) = u)
 (hA : ArgS w u xs ad cap) (hn : ad = none → cap = 0) (hl : xs.length ≤ 17592186044416)
 (h : ∀ v' w1, ResS w.heap.size w1 v' xs → Below w.heap.size w w1 → wpList Tryz.prog ops Q rest (a.put o.dst v') w1) : wpList Tryz.prog ops Q (o :: rest) a w := by
 obtain ⟨i0, hi, hz0, hz1, hz2⟩ := info_parts infoS
 have hnil := World.ownsRow_nil w w.heap.size 3 1
 have hs : a.eval (.const (.slice none 0 0)) = .slice none 0 0 := rfl
 obtain ⟨rfl, lx, hle, wx⟩ := hA
 cases ad with
 | none =>
  have hc := hn rfl
  subst hc
  have hxs : xs = [] := List.eq_nil_of_length_eq_zero (by omega)
  subst hxs
  refine wpList_plain hg fun K hK => ?_
  have hrun := (append_types hT hT' o.type (.slice none 0 0) (.slice none 0 0) w).trans (run_append_owned_none (P := Tryz.prog) w w.heap.size T o.type 3 i0 1 hT hi (.slice none 0 0) 0 [] hnil)
  unfold Oper.wp
  simp [execOp, hop, resolve, invoke, builtin, hs, hx, hrun, Result.andThen]
  exact hK _ _ (h _ _ ⟨hnil, wx⟩ (Below.refl _ _))
 | some ad =>
  refine wpList_plain hg fun K hK => ?_
  obtain ⟨v', w', hr, hown, hgrow, _⟩ := run_append_own (P := Tryz.prog) w w.heap.size T o.type 3 i0 (.int .i64 0) 1 8 hT hi hz0 hz1 hz2 rfl (by decide) (.slice none 0 0) 0 [] hnil ad xs.length cap (xs.map (Value.int .i64)) (by simp) (cells_argS (cap := cap) lx) (ints_oneCell _ _) (by unfold maxLen; omega) (by omega) (Nat.le_refl _)
  have hr2 := (append_types hT hT' o.type (.slice none 0 0) (.slice (some ad) xs.length cap) w).trans hr
  unfold Oper.wp
  simp [execOp, hop, resolve, invoke, builtin, hs, hx, hr2, Result.andThen]
  refine hK _ _ (h v' w' ⟨?_, wx⟩ ((Below.refl _ w).grown hgrow (Nat.le_refl _) (fun k hk => by cases hk)))
  unfold NumS
  simpa using hown
structure TensQ (w : World) (v : Value) (s : List Int) (qs : List Q3) (a : Option Addr) (ca : Nat) (b : Option Addr) (cb : Nat) : Prop where
 is : v = .agg #[.slice a s.length ca, .slice b qs.length cb]
 sh : ArgS w (.slice a s.length ca) s a ca
 nila : a = none → ca = 0
 el : RowA RawQ w (.slice b qs.length cb) qs b cb
 nilb : b = none → cb = 0
theorem TensQ.later {w w' : World} {v : Value} {s : List Int} {qs : List Q3} {a b : Option Addr} {ca cb : Nat} (h : TensQ w v s qs a ca b cb) (hb : Below w.heap.size w w') : TensQ w' v s qs a ca b cb :=
 ⟨h.is, h.sh.later hb, h.nila, h.el.later hb (fun v x _ k => k.later hb), h.nilb⟩
structure TensR (w : World) (v : Value) (s : List Int) (L : List Rat) (m : Nat) (a : Option Addr) (ca : Nat) (b : Option Addr) (cb : Nat) : Prop where
 is : v = .agg #[.slice a s.length ca, .slice b L.length cb]
 sh : ArgS w (.slice a s.length ca) s a ca
 nila : a = none → ca = 0
 el : RowA (fun w v x => ArgR w v x m) w (.slice b L.length cb) L b cb
 nilb : b = none → cb = 0
theorem TensR.later {w w' : World} {v : Value} {s : List Int} {L : List Rat} {m : Nat} {a b : Option Addr} {ca cb : Nat} (h : TensR w v s L m a ca b cb) (hb : Below w.heap.size w w') : TensR w' v s L m a ca b cb :=
 ⟨h.is, h.sh.later hb, h.nila, h.el.later hb (fun v x _ k => k.later hb), h.nilb⟩
theorem infoR : (Tryz.prog.info? 58).map (fun i => (i.zero, i.size, i.bytes)) = some (some (.agg #[.bool false, .slice none 0 0, .slice none 0 0]), 3, 56) := by kernel_rfl
theorem infoQ : (Tryz.prog.info? 54).map (fun i => (i.zero, i.size, i.bytes)) = some (some (.agg #[.bool false, .slice none 0 0, .slice none 0 0]), 3, 56) := by kernel_rfl
theorem OwnE.hits {base : Nat} {T : TypeId} {w : World} {v : Value} {es : List E3} (h : OwnE base T w v es) (hb : base ≤ w.heap.size) : ∃ r, (v.ownBlock = none ∨ v.ownBlock = some r) ∧ base ≤ r ∧ ∀ g t cs, Row w g t cs → t ≠ T → g ≠ r := by
 have hlt := h.lt
 cases e : v.ownBlock with
 | none => exact ⟨w.heap.size, .inl rfl, hb, fun g t cs R _ => by have := R.lt; omega⟩
 | some r =>
  refine ⟨r, .inr rfl, (hlt r e).1, fun g t cs R ht he => ?_⟩
  subst he
  obtain ⟨cur, hc⟩ := h.typed e
  have := hc.symm.trans R
  simp only [Option.some.injEq, Obj.cells.injEq] at this
  exact ht this.2.1.symm
theorem Kept.grown {r : Nat} {a w w' : World} {v : Value} (h : Kept r a w) (hg : w.grownBy w' v.ownBlock) (hv : v.ownBlock = none ∨ v.ownBlock = some r) : Kept r a w' := by
 refine ⟨hg.os.trans h.os, hg.tape.trans h.tape, hg.output.trans h.output, Nat.le_trans h.size hg.size, fun k hk hr => ?_⟩
 rw [hg.block k (Nat.lt_of_lt_of_le hk h.size) (by rcases hv with e | e <;> rw [e] <;> simp <;> omega)]
 exact h.block k hk hr
theorem Kept.cell {r : Nat} {w w' : World} (h : Kept r w w') {p : Addr} {u : Value} (hc : w.cell? p = some u) (hp : p.block ≠ r) : w'.cell? p = some u :=
 (World.cell?_of_block (h.block p.block (World.block_lt_of_cell? w p hc) hp)).trans hc
theorem ResS.far {base : Nat} {w w' : World} {u : Value} {zs : List Int} {g : Nat} {t : TypeId} {cs : Array Value} (h : ResS base w u zs) (R : Row w g t cs) (ht : t ≠ 3) (hk : ∀ k, k ≠ g → w'.heap[k]? = w.heap[k]?) : ResS base w' u zs := by
 refine ⟨?_, h.wf⟩
 obtain ⟨h1, h2⟩ := h.num
 refine ⟨h1, ?_⟩
 rcases h2 with h2 | ⟨k, cap, cur, rfl, hg0, hg', hc, hm, hs, ht'⟩
 · exact .inl h2
 · refine .inr ⟨k, cap, cur, rfl, hg0, (hk k ?_).trans hg', hc, hm, hs, ht'⟩
   rintro rfl
   have e := hg'.symm.trans R
   injection e with e
   injection e with _ e
   exact ht e.symm
theorem ResS.apart {base base' : Nat} {T : TypeId} {w w' : World} {v u : Value} {es : List E3} {zs : List Int} {o : Obj} (h : OwnE base T w v es) (hg : (w.alloc o).grownBy w' v.ownBlock) (hT : T ≠ 3) (k : ResS base' w u zs) : ResS base' w' u zs := ⟨apartE h hg hT k.num, k.wf⟩
theorem RowO.far {α : Type} {base : Nat} {T : TypeId} {P : World → Value → α → Prop} {w w' : World} {u : Value} {L : List α} {g : Nat} {t : TypeId} {cs : Array Value} (h : RowO base T P w u L) (R : Row w g t cs) (ht : t ≠ T) (hk : ∀ k, k ≠ g → w'.heap[k]? = w.heap[k]?) (hP : ∀ v x, P w v x → P w' v x) : RowO base T P w' u L := by
 obtain ⟨es, h1, h2⟩ := h
 refine ⟨es, h1.same fun k e => hk k fun e2 => ?_, h2.imp fun v x _ => hP v x⟩
 subst e2
 obtain ⟨cur, hc⟩ := h1.typed e
 have := hc.symm.trans R
 simp only [Option.some.injEq, Obj.cells.injEq] at this
 exact ht this.2.1.symm
theorem kept1 {g i : Nat} {w : World} (x : Value) : ∀ k, k ≠ g → (w.setCell ⟨g, i, none⟩ x).heap[k]? = w.heap[k]? := fun k hk => Below.heap_setCell _ _ _ _ hk
theorem Row.set21 {w : World} {g : Nat} {t : TypeId} {a b : Value} (h : Row w g t #[a, b]) (x : Value) : Row (w.setCell ⟨g, 1, none⟩ x) g t #[a, x] := h.set 1 x
theorem take_nextL {α : Type} {qs : List α} {k : Nat} {q : α} (h : qs[k]? = some q) : qs.take (k + 1) = qs.take k ++ [q] := by rw [List.take_add_one, h]; rfl
theorem ResR.shape {base : Nat} {w : World} {v : Value} {x : Rat} {n : Nat} (h : ResR base w v x n) : ∃ m a1 n1 c1 a2 n2 c2, v = .agg #[.bool m, .slice a1 n1 c1, .slice a2 n2 c2] := by
 obtain ⟨_, _, _, _, _, _, rfl, _⟩ := h
 exact ⟨_, _, _, _, _, _, _, rfl⟩
theorem ResQ.shape {base : Nat} {w : World} {v : Value} {x : Rat} {n : Nat} (h : ResQ base w v x n) : ∃ m a1 n1 c1 a2 n2 c2, v = .agg #[.bool m, .slice a1 n1 c1, .slice a2 n2 c2] := by
 obtain ⟨_, _, _, _, _, _, rfl, _⟩ := h
 exact ⟨_, _, _, _, _, _, _, rfl⟩
theorem RawO.shape {base : Nat} {w : World} {v : Value} {q : Q3} (h : RawO base w v q) : ∃ m a1 n1 c1 a2 n2 c2, v = .agg #[.bool m, .slice a1 n1 c1, .slice a2 n2 c2] := by
 obtain ⟨_, _, _, _, rfl, _⟩ := h
 exact ⟨_, _, _, _, _, _, _, rfl⟩
theorem RowA.low {α : Type} {P : World → Value → α → Prop} {w : World} {u : Value} {L : List α} {ad : Option Addr} {cap : Nat} (h : RowA P w u L ad cap) {b o : Nat} (hn : L ≠ []) (e : ad = some ⟨b, o, none⟩) : b < w.heap.size := by
 rcases h.els with hh | ⟨b', o', es', e', c', k'⟩
 · exact absurd hh hn
 · obtain ⟨d, _, h1, _, _⟩ := k'.at (i := 0) (by rcases Nat.eq_zero_or_pos L.length with g | g
                                                 · exact absurd (List.eq_nil_of_length_eq_zero g) hn
                                                 · exact g)
   have h3 := World.block_lt_of_cell? w _ (c' 0 d h1).1
   rw [e] at e'
   simp only [Option.some.injEq, Addr.mk.injEq] at e'
   rw [e'.1]
   exact h3
theorem ownT_slice {base sz n : Nat} {T : TypeId} {w : World} {v : Value} {xs : List Value} (h : w.ownsRow base T sz v n xs) : ∃ a c, v = .slice a n c := by
 obtain ⟨_, h2⟩ := h
 rcases h2 with ⟨rfl, rfl⟩ | ⟨g, cap, cur, rfl, _⟩
 · exact ⟨_, _, rfl⟩
 · exact ⟨_, _, rfl⟩
end
section
open Go.RowKit
theorem sameSh_any {u v : Value} {xs ys : List Int} {a b : Option Addr} {ca cb : Nat} {w : World} (A : ArgS w u xs a ca) (B : ArgS w v ys b cb) (hx : xs.length ≤ 140737488355328) :
 Calls Tryz.prog 81 #[u, v] w fun e w' => e = .returned (.bool (decide (xs = ys))) ∧ Below w.heap.size w w' := by
 have HA := Lib.hid A
 have HB := Lib.hid B
 obtain rfl := A.is
 obtain rfl := B.is
 obtain ⟨L, hL⟩ : ∃ L, xs.length = L := ⟨_, rfl⟩
 obtain ⟨M, hM⟩ : ∃ M, ys.length = M := ⟨_, rfl⟩
 obtain ⟨d, hd⟩ : ∃ d, decide (xs = ys) = d := ⟨_, rfl⟩
 have HL := Lib.hid hL
 have HM := Lib.hid hM
 have HD := Lib.hid hd
 rw [hL] at hx
 rw [hL, hM, hd]
 clear A B hL hM hd
 by_cases hlm : L = M
 · subst hlm
   have hne : ((L : Int) != (L : Int)) = false := by simp
   go_enter Tryz.func81, Tryz.ntmps81
   go_wp2
   go_loopw [5] (fun i wr => ∃ k : Nat, i = .int .i64 (k : Int) ∧ k ≤ L ∧ xs.take k = ys.take k ∧ Below w.heap.size w wr) (fun i _ => L - (intOf i).toNat)
   case atStart => exact ⟨0, rfl, Nat.zero_le _, rfl, Below.refl _ _⟩
   case round =>
    obtain ⟨k, rfl, hkL, hp, hb⟩ := hrel
    have HP := Lib.hid hp
    clear hp
    by_cases hlt : k < L
    · obtain ⟨b1, o1, rfl, hc1⟩ := (HA.out.later hb).at (i := k) (by rw [HL.out]; exact hlt)
      obtain ⟨b2, o2, rfl, hc2⟩ := (HB.out.later hb).at (i := k) (by rw [HM.out]; exact hlt)
      have e1 := take_next (xs := xs) (k := k) (by rw [HL.out]; exact hlt)
      have e2 := take_next (xs := ys) (k := k) (by rw [HM.out]; exact hlt)
      obtain ⟨x, hx⟩ : ∃ x, xs.getD k 0 = x := ⟨_, rfl⟩
      obtain ⟨y, hy⟩ : ∃ y, ys.getD k 0 = y := ⟨_, rfl⟩
      rw [hx] at hc1 e1
      rw [hy] at hc2 e2
      have E1 := Lib.hid e1
      have E2 := Lib.hid e2
      have HX := Lib.hid hx
      have HY := Lib.hid hy
      have hin : 0 ≤ (k : Int) ∧ (k : Int) < (L : Int) := by omega
      have hltI : (k : Int) < (L : Int) := by omega
      clear hx hy e1 e2
      by_cases hxy : x = y
      · subst hxy
        have hn : (x != x) = false := by simp
        go_wp2
        go_quiet (fail)
        go_wp2
        go_roundw
        case rel => exact ⟨k + 1, by go_num, by omega, by rw [E1.out, E2.out, HP.out], hb.trans (belowS_drew _ _ _)⟩
        case measure => simp [intOf]; omega
      · obtain rfl : d = false := by
         rw [← HD.out, decide_eq_false_iff_not]
         intro h
         apply hxy
         rw [← HX.out, ← HY.out, h]
        have hn : (x != y) = true := by simpa using hxy
        go_wp2
        go_quiet (fail)
        go_wp2
        go_ret
        exact ⟨rfl, hb.trans (belowS_drew _ _ _)⟩
    · obtain rfl : k = L := by omega
      obtain rfl : d = true := by
       rw [← HD.out, decide_eq_true_iff]
       have := HP.out
       rwa [take_all HL.out, take_all HM.out] at this
      have hltI : ¬ (k : Int) < (k : Int) := by omega
      go_wp2
      go_ret
      exact ⟨rfl, hb⟩
 · obtain rfl : d = false := by
    rw [← HD.out, decide_eq_false_iff_not]
    intro h
    apply hlm
    rw [← HL.out, ← HM.out, h]
   have hne : ((L : Int) != (M : Int)) = true := by simp; omega
   go_enter Tryz.func81, Tryz.ntmps81
   go_wp2
   go_ret
   exact ⟨rfl, Below.refl _ _⟩
def okQ (q : Q3) : Bool := validB q.neg q.num q.den q.rat
def mayT (s : List Int) (qs : List Q3) : Int := if mayC s ≠ 0 then mayC s else if (qs.length : Int) ≠ countS s then 13 else if qs.all okQ = true then 0 else 6
theorem mayT_ok {s : List Int} {qs : List Q3} (h : mayC s = 0) (h2 : (qs.length : Int) = countS s) (h3 : ∀ q ∈ qs, okQ q = true) : mayT s qs = 0 := by
 unfold mayT
 rw [if_neg (by rw [h]; simp), if_neg (by rw [h2]; simp), if_pos (List.all_eq_true.2 h3)]
end
section
open Go.RowKit
theorem ResS.at_ {base : Nat} {w : World} {ad : Option Addr} {n cap : Nat} {xs : List Int} (h : ResS base w (.slice ad n cap) xs) : n = xs.length ∧ ArgS w (.slice ad n cap) xs ad cap ∧ (ad = none → cap = 0) := by
 obtain ⟨ad', cap', e, _, A, hn⟩ := h.slice
 simp only [Value.slice.injEq] at e
 obtain ⟨rfl, rfl, rfl⟩ := e
 exact ⟨rfl, A, hn⟩
theorem RowA.imp {α : Type} {P Q : World → Value → α → Prop} {w : World} {u : Value} {L : List α} {ad : Option Addr} {cap : Nat} (h : RowA P w u L ad cap) (hP : ∀ v x, x ∈ L → P w v x → Q w v x) : RowA Q w u L ad cap := by
 refine ⟨h.is, h.le, ?_⟩
 rcases h.els with e | ⟨b, o, es, e, c, k⟩
 · exact .inl e
 · exact .inr ⟨b, o, es, e, c, k.imp hP⟩
theorem RowO.at_ {α : Type} {base : Nat} {T : TypeId} {P : World → Value → α → Prop} {w : World} {ad : Option Addr} {n cap : Nat} {L : List α} (h : RowO base T P w (.slice ad n cap) L) : n = L.length ∧ RowA P w (.slice ad n cap) L ad cap ∧ (ad = none → cap = 0) := by
 obtain ⟨ad', cap', A, hn, _⟩ := h.arg
 have e := A.is
 simp only [Value.slice.injEq] at e
 obtain ⟨rfl, rfl, rfl⟩ := e
 exact ⟨rfl, A, hn⟩
end
section
open Go.RowKit
theorem intRR_any (k : Int) (w : World) (h0 : -9223372036854775808 ≤ k) (h1 : k ≤ 9223372036854775807) :
 Calls Tryz.prog 31 #[.int .i64 k] w fun e w' => ∃ r, e = .returned r ∧ ResR w.heap.size w' r (intQ k) 6 ∧ Below w.heap.size w w' := by
 obtain ⟨i1, i2, i3⟩ := intQ_parts k
 obtain ⟨m1, hm1⟩ : ∃ m, decide (k < 0) = m := ⟨_, rfl⟩
 rw [hm1] at i1
 have I1 := Lib.hid i1
 have I2 := Lib.hid i2
 have I3 := Lib.hid i3
 clear i1 i2 i3
 obtain ⟨W, hW⟩ : ∃ W, (w.alloc (.cells #[.bool false, .slice none 0 0, .slice none 0 0] 58)) = W := ⟨_, rfl⟩
 have R0 : Row W (w.heap.size) 58 #[.bool false, .slice none 0 0, .slice none 0 0] := by rw [← hW]; exact (Row.new _ _ _)
 have hBW : Below w.heap.size w W := by rw [← hW]; exact ((Below.refl _ _).alloc (by (try simp) <;> omega) _)
 have hsW : w.heap.size + 1 ≤ W.heap.size := by rw [← hW]; simp
 go_enter Tryz.func31, Tryz.ntmps31
 go_wp2_with fail
 refine (sizeR_any k _ h0 h1).mono ?_
 rintro e w1 ⟨r1, rfl, z1, q1, l1, hb1⟩
 have hs1 := hb1.size
 obtain ⟨ad1, cp1, rfl, q1, A1⟩ := q1.slice
 have v1 : valD z1 = (((intQ k).num.natAbs : Nat) : Int) := by rw [q1.eq, I2.out]
 have V1 := Lib.hid v1
 have hb2 : Below w1.heap.size w1 (w1.alloc (.cells #[.int .i64 1] 3)) := (Below.refl _ _).alloc (Nat.le_refl _) _
 have L := digit_lit (Row.new w1 3 #[.int .i64 1]) (by omega)
 have P2 := (R0.later hb1).later hb2
 have A2 := A1.later hb2
 have Q1 := Lib.hid q1
 clear v1 q1 hW
 obtain ⟨q0, q1, q2, h0', h1', h2'⟩ := (R0.later hb1).three
 obtain ⟨u0, u1, u2, g0, g1, g2⟩ := P2.three
 go_wp2_with fail
 refine bodyPost_ret (v := .agg #[.bool m1, .slice ad1 z1.length cp1, .slice (some ⟨w1.heap.size, 0, none⟩) 1 1]) (by simp [results, Tryz.results31, go_sem, u0, u1, u2]) rfl ⟨_, rfl, ⟨z1, [1], ad1, some ⟨w1.heap.size, 0, none⟩, cp1, 1, by rw [I1.out]; rfl, ?_, ?_, l1, by simp⟩, ?_⟩
 · exact (((Q1.out.mono (by omega)).later hb2).far P2 (by decide) (kept3 _ _ _)).eqTo V1.out
 · rw [I3.out]; exact (ResD.one w1 (by omega)).far P2 (by decide) (kept3 _ _ _)
 · exact below_set3 ((hBW.trans (hb1.mono (by omega))).trans (hb2.mono (by omega))) (by omega) _ _ _
def ResT (base : Nat) (w : World) (v : Value) (s : List Int) (L : List Rat) (m : Nat) : Prop :=
 ∃ (a b : Option Addr) (ca cb : Nat), v = .agg #[.slice a s.length ca, .slice b L.length cb] ∧ ResS base w (.slice a s.length ca) s ∧ RowO base 54 (fun W v x => ResQ base W v x m) w (.slice b L.length cb) L
theorem ResT.later {base : Nat} {w w' : World} {v : Value} {s : List Int} {L : List Rat} {m : Nat} (h : ResT base w v s L m) (hb : Below w.heap.size w w') : ResT base w' v s L m := by
 obtain ⟨a, b, ca, cb, rfl, h1, h2⟩ := h
 exact ⟨a, b, ca, cb, rfl, h1.later hb, h2.later hb (fun v x h => h.later hb)⟩
theorem ResT.mono {base base' : Nat} {w : World} {v : Value} {s : List Int} {L : List Rat} {m : Nat} (h : ResT base w v s L m) (hb : base' ≤ base) : ResT base' w v s L m := by
 obtain ⟨a, b, ca, cb, rfl, h1, h2⟩ := h
 exact ⟨a, b, ca, cb, rfl, h1.mono hb, h2.mono hb (fun v x h => h.mono hb)⟩
theorem ResT.far {base : Nat} {w w' : World} {v : Value} {s : List Int} {L : List Rat} {m g : Nat} {t : TypeId} {cs : Array Value} (h : ResT base w v s L m) (R : Row w g t cs) (h1 : t ≠ 3) (h2 : t ≠ 144) (h3 : t ≠ 54) (hk : ∀ k, k ≠ g → w'.heap[k]? = w.heap[k]?) : ResT base w' v s L m := by
 obtain ⟨a, b, ca, cb, rfl, k1, k2⟩ := h
 exact ⟨a, b, ca, cb, rfl, k1.far R h1 hk, k2.far R h3 hk (fun v x h => h.far R h2 hk)⟩
end
section
open Go.RowKit Go.ChangeShapes Go.WideShapes Go.ChangeAt Go.Joins Go.Deep
theorem cellsInt7 : Tryz.prog.cellsOf 3 = 1 := by kernel_rfl
theorem wf_int7 {i : Int} (h : (Lit.int .i64 i).wf = true) : -9223372036854775808 ≤ i ∧ i ≤ 9223372036854775807 := by simpa [Lit.wf, IntKind.min, IntKind.max, IntKind.signed, IntKind.bits] using h
theorem open_natB {H : Type} {enc : TypeId × Value → H} {W : World} {v : Value} {y : DataW H × List MemPlace} {fuel : Nat}
 (hf : DataW.trod enc Tryz.prog W 0 (fun _ => true) true fuel 52 [v] = some y) : ∃ ad xs cap, v = .slice ad xs.length cap ∧ Arg W (.slice ad xs.length cap) xs ad cap ∧ xs.length + 1 ≤ Rows.uptoBulk y.1 ∧ (ad = none → cap = 0) := by
 rcases open_ints Tryz.underlying52 Tryz.underlying144 cellsLimb hf with ⟨hcs, hx⟩ | ⟨a, n, cap, zs, hcs, _, hl, hm, hz, hx, hcell, hwz⟩
 · simp only [List.cons.injEq, and_true] at hcs
   subst hcs
   exact ⟨none, [], 0, rfl, ⟨rfl, .inl rfl, Nat.le_refl _, Wf.nil⟩, by have := bulk_pos y.1; simpa using this, fun _ => rfl⟩
 · simp only [List.cons.injEq, and_true] at hcs
   subst hcs
   subst hx
   simp only [if_true] at hz
   have hlen : (zs.take n).length = n := by rw [List.length_take]; omega
   have hb := bulk_slice (lits .u32 (zs.take n) : List (DataW H)) (lits .u32 (zs.drop n))
   have hb2 : (zs.take n).length + 1 ≤ Rows.uptoBulk (.slice (lits .u32 (zs.take n) : List (DataW H)) (lits .u32 (zs.drop n))) := by
    have h1 := bulk_len (lits .u32 (zs.take n) : List (DataW H))
    simp only [lits, List.length_map] at h1
    simp only [Rows.uptoBulk, lits]
    omega
   refine ⟨some a, zs.take n, cap, by rw [hlen], ⟨rfl, ?_, by rw [hlen]; exact hl, fun x hx => wf_limb (hwz x (List.mem_of_mem_take hx))⟩, hb2, fun e => by cases e⟩
   by_cases h0 : n = 0
   · exact .inl (by simp [h0])
   · obtain ⟨b, off, rfl, hc⟩ := ints_at hcell (by omega)
     refine .inr ⟨b, off, rfl, fun i hi => ?_⟩
     rw [hlen] at hi
     rw [hc i (by omega)]
     simp [hi]
def sizeQ (q : Q3) : Nat := q.num.length + q.den.length + 1
def sizeQs : List Q3 → Nat
 | [] => 0
 | q :: qs => sizeQ q + sizeQs qs
theorem sizeQs_mem {qs : List Q3} {q : Q3} (h : q ∈ qs) : sizeQ q ≤ sizeQs qs := by
 induction qs with
 | nil => cases h
 | cons p qs ih =>
  simp only [sizeQs]
  rcases List.mem_cons.1 h with rfl | h
  · omega
  · have := ih h; omega
theorem sizeQs_range {H : Type} (F : Nat → Q3) (D : Nat → DataW H) (n : Nat) (h : ∀ i, i < n → sizeQ (F i) ≤ Rows.uptoBulk (D i)) : sizeQs ((List.range n).map F) ≤ Rows.uptoBulkAll ((List.range n).map D) := by
 suffices hs : ∀ l : List Nat, (∀ i ∈ l, sizeQ (F i) ≤ Rows.uptoBulk (D i)) → sizeQs (l.map F) ≤ Rows.uptoBulkAll (l.map D) from hs _ (fun i hi => h i (List.mem_range.1 hi))
 intro l
 induction l with
 | nil => intro _; simp [sizeQs]
 | cons a l ih =>
  intro hl
  have h1 := hl a (List.mem_cons_self ..)
  have h2 := ih (fun i hi => hl i (List.mem_cons_of_mem _ hi))
  simp only [List.map_cons, sizeQs, Rows.uptoBulkAll]
  omega
theorem open_rats {H : Type} {enc : TypeId × Value → H} {W : World} {v : Value} {y : DataW H × List MemPlace} {fuel : Nat}
 (hf : DataW.trod enc Tryz.prog W 0 (fun _ => true) true fuel 24 [v] = some y) : ∃ (ad : Option Addr) (qs : List Q3) (cap : Nat), v = .slice ad qs.length cap ∧ RowA RawQ W (.slice ad qs.length cap) qs ad cap ∧ (ad = none → cap = 0) ∧ sizeQs qs + 1 ≤ Rows.uptoBulk y.1 := by
 rcases open_slice Tryz.underlying24 hf with ⟨hcs, hx⟩ | ⟨a, len, cap, m, n, D, Pl, hcs, hb, hl, hm, hmm, hx, hi⟩
 · simp only [List.cons.injEq, and_true] at hcs
   subst hcs
   exact ⟨none, [], 0, rfl, ⟨rfl, Nat.le_refl _, .inl rfl⟩, fun _ => rfl, by have := bulk_pos y.1; simpa [sizeQs] using this⟩
 · simp only [List.cons.injEq, and_true] at hcs
   subst hcs
   subst hx
   simp only [if_true] at hmm
   rw [cellsRat] at hi
   have hel : ∀ i, i < len → ∃ (e : E3) (q : Q3), W.cell? (a.add (i * 3)) = some e.a ∧ W.cell? ((a.add (i * 3)).add 1) = some e.b ∧ W.cell? ((a.add (i * 3)).add 2) = some e.c ∧ RawQ W e.agg q ∧ sizeQ q ≤ Rows.uptoBulk (D i) := fun i hlt => by
    obtain ⟨cs', hc, ht⟩ := hi i (by omega)
    obtain ⟨_, hcl, hat⟩ := World.cells?_some hc
    obtain ⟨xs, n', _, hy, hlen, hyl, hfd⟩ := DataW.trod_struct Tryz.underlying54 ht
    have hc3 : cs'.length = 3 := hcl
    match cs', hc3 with
    | [c0, c1, c2], _ =>
     match xs, (show xs.length = 3 from hyl) with
     | [y0, y1, y2], _ =>
      have h0 := hfd 0 _ rfl
      have h1 := hfd 1 _ rfl
      have h2 := hfd 2 _ rfl
      have g0 : DataW.trod enc Tryz.prog W 0 (fun _ => true) true n' 4 [c0] = some y0 := h0
      have g1 : DataW.trod enc Tryz.prog W 0 (fun _ => true) true n' 52 [c1] = some y1 := h1
      have g2 : DataW.trod enc Tryz.prog W 0 (fun _ => true) true n' 52 [c2] = some y2 := h2
      obtain ⟨b, hbv, _⟩ := DataW.trod_bool Tryz.underlying4 g0
      simp only [List.cons.injEq, and_true] at hbv
      subst hbv
      obtain ⟨ad, zs, ca, rfl, A, l1, n1⟩ := open_natB g1
      obtain ⟨bd, ys, cb, rfl, B, l2, n2⟩ := open_natB g2
      have p0 := hat 0 (by omega)
      have p1 := hat 1 (by omega)
      have p2 := hat 2 (by omega)
      rw [show ∀ p : Addr, p.add 0 = p from fun p => by cases p; rename_i b o path; cases path <;> simp [Addr.add]] at p0
      refine ⟨⟨.bool b, .slice ad zs.length ca, .slice bd ys.length cb⟩, ⟨b, zs, ys⟩, p0, p1, p2, ⟨ad, bd, ca, cb, rfl, A, B, n1, n2⟩, ?_⟩
      have hD : D i = .agg ([y0, y1, y2].map (·.1)) := by simpa using congrArg Prod.fst hy
      rw [hD]
      simp only [List.map_cons, List.map_nil, Rows.uptoBulk, Rows.uptoBulkAll, sizeQ]
      omega
   have hel2 : ∀ i, ∃ (e : E3) (q : Q3), i < len → W.cell? (a.add (i * 3)) = some e.a ∧ W.cell? ((a.add (i * 3)).add 1) = some e.b ∧ W.cell? ((a.add (i * 3)).add 2) = some e.c ∧ RawQ W e.agg q ∧ sizeQ q ≤ Rows.uptoBulk (D i) := fun i => by
    by_cases h : i < len
    · obtain ⟨e, q, h'⟩ := hel i h
      exact ⟨e, q, fun _ => h'⟩
    · exact ⟨⟨.bool false, .bool false, .bool false⟩, ⟨false, [], []⟩, fun h' => absurd h' h⟩
   obtain ⟨E, hE⟩ := Classical.axiomOfChoice hel2
   obtain ⟨F, hF⟩ := Classical.axiomOfChoice hE
   have hlq : ((List.range len).map F).length = len := by simp
   refine ⟨some a, (List.range len).map F, cap, by rw [hlq], ⟨rfl, by rw [hlq]; exact hl, ?_⟩, (by intro e; cases e), ?_⟩
   · by_cases h0 : len = 0
     · exact .inl (by rw [h0]; rfl)
     · have hp : ∃ b o, a = ⟨b, o, none⟩ := by
        obtain ⟨h1, _⟩ := hF 0 (by omega)
        obtain ⟨b, off, spot⟩ := a
        have hspot : spot = none := by simpa [Addr.add] using World.cell?_spot h1
        subst hspot
        exact ⟨b, off, rfl⟩
       obtain ⟨b, o, rfl⟩ := hp
       refine .inr ⟨b, o, (List.range len).map E, rfl, fun i e he => ?_, ⟨by simp, fun i e q he hq => ?_⟩⟩
       · have hlt : i < len := by
          rcases Nat.lt_or_ge i len with g | g
          · exact g
          · rw [List.getElem?_eq_none (by simpa using g)] at he; cases he
         rw [List.getElem?_map, List.getElem?_range hlt] at he
         simp only [Option.map_some, Option.some.injEq] at he
         subst he
         obtain ⟨h1, h2, h3, _⟩ := hF i hlt
         rw [add_plain] at h1 h2 h3
         rw [add_plain] at h2 h3
         exact ⟨h1, h2, h3⟩
       · have hlt : i < len := by
          rcases Nat.lt_or_ge i len with g | g
          · exact g
          · rw [List.getElem?_eq_none (by simpa using g)] at he; cases he
         rw [List.getElem?_map, List.getElem?_range hlt] at he hq
         simp only [Option.map_some, Option.some.injEq] at he hq
         subst he
         subst hq
         exact (hF i hlt).2.2.2.1
   · have h1 := sizeQs_range F D len (fun i hi => (hF i hi).2.2.2.2)
     simp only [Rows.uptoBulk]
     omega
theorem cellsTensor : Tryz.prog.cellsOf 26 = 2 := by kernel_rfl
end
section
open Go.RowKit Go.Shelf
attribute [local go_sem] Oper.semAt_some
theorem region_roundL {l n id : Nat} {P : Program} {ops : Array Oper} {Q : Exit → Act → World → Prop} {a : Act} {w : World} (S : World → Prop) (z : Nat) (hm : P.follows .mixedOrders = true) (hnd : noDefer ops = true) (hLO : ¬ LetsOut Q)
 (hS : S w.drew) (h : S w.drew → wpAnyL P .any ops Q S z ops.size (Array.replicate ops.size false) a w.drew) : (Code.region id ops true).wpIn (Fence.wide.inRound l) n P Q a w :=
 wpIn_region_any hm (wpAnyIn_of_round hnd hLO _ _ _ _ (wpAny_of_L _ _ _ _ (h hS)))
def KeepC (W W' : World) : Prop := ∀ (k : Nat) (cur : Array Value) (t : TypeId) (fr : Nat × Nat), W.heap[k]? = some (Obj.cells cur t fr) → W'.heap[k]? = W.heap[k]?
theorem KeepC.below {W W' : World} (h : Below W.heap.size W W') : KeepC W W' := fun k _ _ _ e => h.block k (lt_of_block e)
theorem KeepC.grown {W W' : World} {row : Option Nat} (hg : W.grownBy W' row) (hr : ∀ r, row = some r → ∃ o : Obj, W.heap[r]? = some o ∧ o.isCells = false) : KeepC W W' := fun k cur t fr e =>
 hg.block k (lt_of_block e) fun e2 => by
  obtain ⟨o, ho, hc⟩ := hr k e2.symm
  rw [e] at ho
  cases ho
  cases hc
theorem keepC_row {W W' : World} {base size n : Nat} {T : TypeId} {v : Value} {xs : List Value} (k : KeepC W W') (h : W.ownsRow base T size v n xs) : W'.ownsRow base T size v n xs := by
 obtain ⟨h1, h2⟩ := h
 refine ⟨h1, ?_⟩
 rcases h2 with h2 | ⟨g, cap, cur, rfl, hg0, hh, hrest⟩
 · exact .inl h2
 · exact .inr ⟨g, cap, cur, rfl, hg0, (k _ _ _ _ hh).trans hh, hrest⟩
theorem Boxed.keepC {W W' : World} {B : Nat} {t : TypeId} {v : Value} (h : Boxed W B t v) (k : KeepC W W') : Boxed W' B t v := (k _ _ _ _ h).trans h
theorem Row.keepC {W W' : World} {B : Nat} {t : TypeId} {cs : Array Value} (h : Row W B t cs) (k : KeepC W W') : Row W' B t cs := (k _ _ _ _ h).trans h
theorem OwnE.keepC {W W' : World} {base : Nat} {T : TypeId} {v : Value} {es : List E3} (h : OwnE base T W v es) (k : KeepC W W') : OwnE base T W' v es := keepC_row k h
theorem Num.keepC {W W' : World} {base : Nat} {v : Value} {xs : List Int} (h : Num base W v xs) (k : KeepC W W') : Num base W' v xs := keepC_row k h
theorem Res.keepC {W W' : World} {base : Nat} {v : Value} {xs : List Int} {m : Int} (h : Res base W v xs m) (k : KeepC W W') : Res base W' v xs m := ⟨h.num.keepC k, h.wf, h.full, h.eq⟩
theorem ResQ.keepC {W W' : World} {base n : Nat} {v : Value} {x : Rat} (h : ResQ base W v x n) (k : KeepC W W') : ResQ base W' v x n := by
 obtain ⟨zs, ys, ad, bd, ca, cb, rfl, A, B, h⟩ := h
 exact ⟨zs, ys, ad, bd, ca, cb, rfl, A.keepC k, B.keepC k, h⟩
theorem RawO.keepC {W W' : World} {base : Nat} {v : Value} {q : Q3} (h : RawO base W v q) (k : KeepC W W') : RawO base W' v q := by
 obtain ⟨ad, bd, ca, cb, rfl, A, B, h⟩ := h
 exact ⟨ad, bd, ca, cb, rfl, A.keepC k, B.keepC k, h⟩
theorem ownV_hits {base size n : Nat} {T : TypeId} {w : World} {v : Value} {xs : List Value} (h : w.ownsRow base T size v n xs) (hb : base ≤ w.heap.size) :
 ∃ r, (v.ownBlock = none ∨ v.ownBlock = some r) ∧ base ≤ r ∧ (∀ g t cs, Row w g t cs → t ≠ T → g ≠ r) ∧ (∀ o, w.heap[r]? = some o → o.isCells = true) ∧ (v.ownBlock = some r ∨ r = w.heap.size) := by
 obtain ⟨_, h2⟩ := h
 rcases h2 with ⟨rfl, _⟩ | ⟨g, cap, cur, rfl, hg0, hh, hrest⟩
 · refine ⟨w.heap.size, .inl rfl, hb, fun g t cs R _ => by have := R.lt; omega, fun o ho => ?_, .inr rfl⟩
   have := lt_of_block ho
   omega
 · refine ⟨g, .inr rfl, hg0, fun k t cs R ht e => ?_, fun o ho => ?_, .inl rfl⟩
   · subst e
     have := hh.symm.trans R
     simp only [Option.some.injEq, Obj.cells.injEq] at this
     exact ht this.2.1.symm
   · rw [hh] at ho
     cases ho
     rfl
theorem keepsFrom_kept {r B : Nat} {W W' : World} (h : Kept r W W') (hr : ∀ o, W.heap[r]? = some o → o.isCells = true) : KeepsFrom B W W' := ⟨h.size, fun k o _ hk ho => by
 have hne : k ≠ r := fun e => by
  subst e
  rw [hr o hk] at ho
  cases ho
 exact (h.block k (lt_of_block hk) hne).trans hk⟩
theorem keepsFrom_set {B : Nat} {W W' : World} (h : KeepsFrom B W W') (p : Addr) (v : Value) : KeepsFrom B W (W'.setCell p v) := h.trans ((KeepsOthers.setCell W' p v).from B)
theorem keepsFrom_below {B : Nat} {W W' : World} (h : Below W.heap.size W W') : KeepsFrom B W W' := ⟨h.size, fun k o _ hk ho => (h.block k (lt_of_block hk)).trans hk⟩
theorem list_upto {α β : Type} (qs : List α) (f : α → β) (d : α) {N : Nat} (hN : qs.length = N) {ys : List (Fin N)} (h : Upto ys N) : ys.map (fun x => f (qs[x.val]?.getD d)) = qs.map f := by
 have h1 : ys.map (fun x => f (qs[x.val]?.getD d)) = (ys.map Fin.val).map (fun k => f (qs[k]?.getD d)) := by rw [List.map_map]; rfl
 rw [h1, show ys.map Fin.val = List.range N from h, ← hN]
 apply List.ext_getElem
 · simp
 · intro i h1 h2
   simp at h1 h2
   simp [h2]
def dfE : E3 := ⟨.bool false, .slice none 0 0, .slice none 0 0⟩
def ratAt (es : List E3) {n : Nat} (x : Fin n) : Array Value := #[.agg #[(es[x.val]?.getD dfE).a, (es[x.val]?.getD dfE).b, (es[x.val]?.getD dfE).c]]
def limbV (xs : List Int) {n : Nat} (x : Fin n) : Array Value := #[.int .u32 (xs[x.val]?.getD 0)]
def numV (xs : List Int) {n : Nat} (x : Fin n) : Array Value := #[.int .i64 (xs[x.val]?.getD 0)]
def LimE (w : World) (ad : Option Addr) (es : List E3) (n₀ : Nat) : Prop := es = [] ∨ ∃ b o, ad = some ⟨b, o, none⟩ ∧ CellsE w b o es ∧ b < n₀
theorem LimE.below {w w' : World} {ad : Option Addr} {es : List E3} {n₀ : Nat} (h : LimE w ad es n₀) (hb : Below n₀ w w') : LimE w' ad es n₀ := by
 rcases h with h | ⟨b, o, e, c, hl⟩
 · exact .inl h
 · refine .inr ⟨b, o, e, fun i d hd => ?_, hl⟩
   obtain ⟨h0, h1, h2⟩ := c i d hd
   exact ⟨(hb.cell (p := ⟨b, o + i * 3, none⟩) hl).trans h0, (hb.cell (p := ⟨b, o + i * 3 + 1, none⟩) hl).trans h1, (hb.cell (p := ⟨b, o + i * 3 + 2, none⟩) hl).trans h2⟩
theorem RowA.limE {α : Type} {P : World → Value → α → Prop} {w : World} {u : Value} {L : List α} {ad : Option Addr} {cap : Nat} (h : RowA P w u L ad cap) : ∃ es, LimE w ad es w.heap.size ∧ AllE (P w) es L := by
 rcases h.els with e | ⟨b, o, es, e, c, k⟩
 · subst e
   exact ⟨[], .inl rfl, AllE.nil _⟩
 · by_cases hn : es = []
   · exact ⟨es, .inl hn, k⟩
   · have hL : L ≠ [] := fun h => hn (List.eq_nil_of_length_eq_zero (by rw [k.1, h]; rfl))
     exact ⟨es, .inr ⟨b, o, e, c, h.low hL e⟩, k⟩
def ShE (es : List E3) : Prop := ∀ k, k < es.length → ∃ m a1 n1 c1 a2 n2 c2, es[k]?.getD dfE = ⟨.bool m, .slice a1 n1 c1, .slice a2 n2 c2⟩
theorem shE_of {α : Type} {P : Value → α → Prop} {es : List E3} {L : List α} (h : AllE P es L) (hP : ∀ v x, P v x → ∃ m a1 n1 c1 a2 n2 c2, v = .agg #[.bool m, .slice a1 n1 c1, .slice a2 n2 c2]) : ShE es := fun k hk => by
 obtain ⟨e, x, h1, h2, h3⟩ := h.at (i := k) (by rw [← h.1]; exact hk)
 obtain ⟨m, a1, n1, c1, a2, n2, c2, he⟩ := hP _ _ h3
 rw [h1]
 obtain ⟨p, q, r⟩ := e
 simp only [E3.agg, Value.agg.injEq, Array.mk.injEq, List.cons.injEq, and_true] at he
 obtain ⟨rfl, rfl, rfl⟩ := he
 exact ⟨m, a1, n1, c1, a2, n2, c2, rfl⟩
theorem RawQ.form {w : World} {v : Value} {q : Q3} (h : RawQ w v q) : ∃ m a1 n1 c1 a2 n2 c2, v = .agg #[.bool m, .slice a1 n1 c1, .slice a2 n2 c2] := by
 obtain ⟨_, _, _, _, rfl, _⟩ := h
 exact ⟨_, _, _, _, _, _, _, rfl⟩
theorem LimE.cells {w : World} {ad : Option Addr} {es : List E3} {n₀ : Nat} (h : LimE w ad es n₀) {k : Nat} (hk : k < es.length) : ∃ b o, ad = some ⟨b, o, none⟩ ∧ w.cell? ⟨b, o + k * 3, none⟩ = some (es[k]?.getD dfE).a ∧ w.cell? ⟨b, o + k * 3 + 1, none⟩ = some (es[k]?.getD dfE).b ∧ w.cell? ⟨b, o + k * 3 + 2, none⟩ = some (es[k]?.getD dfE).c := by
 rcases h with h | ⟨b, o, e, c, _⟩
 · subst h; simp at hk
 · have hx : es[k]? = some es[k] := List.getElem?_eq_getElem hk
   obtain ⟨h0, h1, h2⟩ := c k _ hx
   exact ⟨b, o, e, by rw [hx]; exact h0, by rw [hx]; exact h1, by rw [hx]; exact h2⟩
theorem allQ_in (n l Bs n₀ : Nat) (ad : Option Addr) (es : List E3) (cap : Nat) (hm : es.length ≤ 1000000000000) (hcap : es.length ≤ cap) (J Jx : List (Fin es.length) → World → Prop)
 (hJ : ∀ pre A B, J pre A → Below A.heap.size A B → J pre B)
 (hY : ∀ pre x W, J pre W → pre.length < es.length → YieldAt Fence.wide (n - 1) Tryz.prog l (ratAt es x) W fun e W' =>
  (e = .returned (.bool true) ∧ J (pre ++ [x]) W' ∧ Below n₀ W W') ∨ (e = .returned (.bool false) ∧ Jx (pre ++ [x]) W'))
 (W : World) (hn₀ : n₀ ≤ W.heap.size) (hBs : W.cell? ⟨Bs, 0, none⟩ = some (.slice ad es.length cap)) (hl : LimE W ad es n₀) (hsh : ShE es) (h0 : J [] W) :
 CallsIn Fence.wide n Tryz.prog 107 #[.func (.yield l) #[] #[], .pointer (some ⟨Bs, 0, none⟩)] W fun e W' => (∃ v, e = .returned v) ∧
  ((∃ ys, Upto ys es.length ∧ J ys W') ∨ (∃ pre, (∃ k, k ≤ es.length ∧ Upto pre k) ∧ Jx pre W')) := by
 refine callsIn_of_wp Tryz.func107 rfl trivial ?_ rfl
 simp only [Tryz.ntmps107, List.size_toArray, List.length_cons, List.length_nil, Nat.reduceAdd, Nat.reduceSub, Array.replicate_succ, Array.replicate_zero, List.push_toArray, List.append_toArray, List.nil_append, List.cons_append]
 gi_wp2_with fail
 gi_loopw [4, 7] (fun _ i wr => ∃ (k : Nat) (pre : List (Fin es.length)), k ≤ es.length ∧ i = .int .i64 k ∧ Upto pre k ∧ J pre wr ∧ Below n₀ W wr)
  (fun _ i _ => es.length - (intOf i).toNat)
 case atStart => exact ⟨0, [], Nat.zero_le _, rfl, rfl, h0, Below.refl _ _⟩
 case round =>
  obtain ⟨k, pre, hk, rfl, hup, hJs, hnx⟩ := hrel
  by_cases hlt : k < es.length
  · obtain ⟨b, o, rfl, c0, c1, c2⟩ := (hl.below hnx).cells hlt
    have hsz := hnx.size
    obtain ⟨W2, hW2⟩ : ∃ W2, wr.alloc (.cells #[(es[k]?.getD dfE).a, (es[k]?.getD dfE).b, (es[k]?.getD dfE).c] 54) = W2 := ⟨_, rfl⟩
    have hb2 : Below wr.heap.size wr W2 := by rw [← hW2]; exact (Below.refl _ _).alloc (Nat.le_refl _) _
    have R2 : Row W2 wr.heap.size 54 #[(es[k]?.getD dfE).a, (es[k]?.getD dfE).b, (es[k]?.getD dfE).c] := by rw [← hW2]; exact Row.new _ _ _
    obtain ⟨d0, d1, d2, _, _, _⟩ := R2.three
    obtain ⟨fn, tmps, assign, body, hy, hR⟩ := hY pre ⟨k, hlt⟩ W2 (hJ _ _ _ hJs hb2) (by rw [hup.length]; exact hlt)
    simp only [ratAt] at hy
    have hnx2 : Below n₀ W W2 := hnx.trans (hb2.mono (by omega))
    obtain ⟨z1, z2, z3, z4, z5, z6, z7, he⟩ := hsh k hlt
    rw [he] at hy c0 c1 c2 hW2 d0 d1 d2
    clear he R2
    have HJ := Lib.hid hJ
    have HY := Lib.hid hY
    clear hJ hY hl
    gi_wp2
    refine ⟨(fun h => by cases h), hR.mono ?_⟩
    rintro e W3 (⟨rfl, hJ3, hk3⟩ | ⟨rfl, hJx3⟩)
    · gi_wp2
      go_roundw
      case rel => exact ⟨k + 1, _, by omega, by go_num, hup.snoc hlt, hJ3, hnx2.trans hk3⟩
      case measure => simp [intOf]; omega
    · gi_wp2
      refine bodyPost_ret (results_none rfl _ _ _) rfl ?_
      exact ⟨⟨_, rfl⟩, .inr ⟨_, ⟨k + 1, by omega, hup.snoc hlt⟩, hJx3⟩⟩
  · obtain rfl : k = es.length := by omega
    gi_wp2
    go_end0
    exact ⟨⟨_, rfl⟩, .inl ⟨_, hup, hJs⟩⟩
end
section
open Go.RowKit Go.Shelf
attribute [local go_sem] Oper.semAt_some
theorem allU_in (n l Bs n₀ : Nat) (ad : Option Addr) (xs : List Int) (cap : Nat) (hm : xs.length ≤ 35184372088832) (hcap : xs.length ≤ cap) (hb : xs ≠ [] → ∀ a, ad = some a → a.block < n₀) (J Jx : List (Fin xs.length) → World → Prop)
 (hY : ∀ pre x W, J pre W → pre.length < xs.length → YieldAt Fence.wide (n - 1) Tryz.prog l (limbV xs x) W fun e W' =>
  (e = .returned (.bool true) ∧ J (pre ++ [x]) W' ∧ Below n₀ W W') ∨ (e = .returned (.bool false) ∧ Jx (pre ++ [x]) W'))
 (W : World) (hBs : W.cell? ⟨Bs, 0, none⟩ = some (.slice ad xs.length cap)) (hl : Lim W ad xs) (h0 : J [] W) :
 CallsIn Fence.wide n Tryz.prog 196 #[.func (.yield l) #[] #[], .pointer (some ⟨Bs, 0, none⟩)] W fun e W' => (∃ v, e = .returned v) ∧
  ((∃ ys, Upto ys xs.length ∧ J ys W') ∨ (∃ pre, (∃ k, k ≤ xs.length ∧ Upto pre k) ∧ Jx pre W')) := by
 refine callsIn_of_wp Tryz.func196 rfl trivial ?_ rfl
 simp only [Tryz.ntmps196, List.size_toArray, List.length_cons, List.length_nil, Nat.reduceAdd, Nat.reduceSub, Array.replicate_succ, Array.replicate_zero, List.push_toArray, List.append_toArray, List.nil_append, List.cons_append]
 gi_wp2_with fail
 gi_loopw [4, 7] (fun _ i wr => ∃ (k : Nat) (pre : List (Fin xs.length)), k ≤ xs.length ∧ i = .int .i64 k ∧ Upto pre k ∧ J pre wr ∧ Below n₀ W wr)
  (fun _ i _ => xs.length - (intOf i).toNat)
 case atStart => exact ⟨0, [], Nat.zero_le _, rfl, rfl, h0, Below.refl _ _⟩
 case round =>
  obtain ⟨k, pre, hk, rfl, hup, hJs, hnx⟩ := hrel
  by_cases hlt : k < xs.length
  · rcases hl with rfl | ⟨b, off, rfl, hc⟩
    · simp at hlt
    · obtain ⟨fn, tmps, assign, body, hy, hR⟩ := hY pre ⟨k, hlt⟩ wr hJs (by rw [hup.length]; exact hlt)
      simp only [limbV] at hy
      have hcx := (hnx.cell (p := ⟨b, off + k, none⟩) (hb (by rintro rfl; simp at hlt) ⟨b, off, none⟩ rfl)).trans (hc k (by omega))
      have ej : xs[k]?.getD 0 = xs[k] := by simp [hlt]
      rw [ej] at hy
      clear hc ej
      gi_wp2
      refine ⟨(fun h => by cases h), hR.mono ?_⟩
      rintro e W3 (⟨rfl, hJ3, hk3⟩ | ⟨rfl, hJx3⟩)
      · gi_wp2
        go_roundw
        case rel => exact ⟨k + 1, _, by omega, by go_num, hup.snoc hlt, hJ3, hnx.trans hk3⟩
        case measure => simp [intOf]; omega
      · gi_wp2
        refine bodyPost_ret (results_none rfl _ _ _) rfl ?_
        exact ⟨⟨_, rfl⟩, .inr ⟨_, ⟨k + 1, by omega, hup.snoc hlt⟩, hJx3⟩⟩
  · obtain rfl : k = xs.length := by omega
    gi_wp2
    go_end0
    exact ⟨⟨_, rfl⟩, .inl ⟨_, hup, hJs⟩⟩
theorem allU_stops (n Bs n₀ : Nat) (ad : Option Addr) (xs : List Int) (cap : Nat) (hm : xs.length ≤ 35184372088832) (hcap : xs.length ≤ cap) (hb : xs ≠ [] → ∀ a, ad = some a → a.block < n₀) (w : World) (hBs : Bs < w.heap.size)
 (hc : w.cell? ⟨Bs, 0, none⟩ = some (.slice ad xs.length cap)) (hl : Lim w ad xs) :
 SeqStopsK Fence.wide n Tryz.prog 196 #[.pointer (some ⟨Bs, 0, none⟩)] (limbV xs (n := xs.length)) (Below n₀) (fun ys => Upto ys xs.length) (fun pre => ∃ k, k ≤ xs.length ∧ Upto pre k) xs.length w := fun l J Jx W hW _ _ hY h0 =>
 allU_in n l Bs n₀ ad xs cap hm hcap hb J Jx hY W ((hW.cell (p := ⟨Bs, 0, none⟩) hBs).trans hc) (hl.later hW) h0
theorem allU_any (ad : Option Addr) (n cap : Nat) (w : World) :
 Calls Tryz.prog 190 #[.slice ad n cap] w fun e w' => e = .returned (.func (.func 196) #[] #[.pointer (some ⟨w.heap.size, 0, none⟩)]) ∧ w' = w.alloc (.cells #[.slice ad n cap] 194) := by
 go_enter Tryz.func190, Tryz.ntmps190
 go_wp2
 go_ret
 exact ⟨rfl, rfl⟩
theorem allI_in (n l Bs n₀ : Nat) (ad : Option Addr) (xs : List Int) (cap : Nat) (hm : xs.length ≤ 17592186044416) (hcap : xs.length ≤ cap) (hb : xs ≠ [] → ∀ a, ad = some a → a.block < n₀) (J Jx : List (Fin xs.length) → World → Prop)
 (hY : ∀ pre x W, J pre W → pre.length < xs.length → YieldAt Fence.wide (n - 1) Tryz.prog l (numV xs x) W fun e W' =>
  (e = .returned (.bool true) ∧ J (pre ++ [x]) W' ∧ Below n₀ W W') ∨ (e = .returned (.bool false) ∧ Jx (pre ++ [x]) W'))
 (W : World) (hBs : W.cell? ⟨Bs, 0, none⟩ = some (.slice ad xs.length cap)) (hl : LimS W ad xs) (h0 : J [] W) :
 CallsIn Fence.wide n Tryz.prog 195 #[.func (.yield l) #[] #[], .pointer (some ⟨Bs, 0, none⟩)] W fun e W' => (∃ v, e = .returned v) ∧
  ((∃ ys, Upto ys xs.length ∧ J ys W') ∨ (∃ pre, (∃ k, k ≤ xs.length ∧ Upto pre k) ∧ Jx pre W')) := by
 refine callsIn_of_wp Tryz.func195 rfl trivial ?_ rfl
 simp only [Tryz.ntmps195, List.size_toArray, List.length_cons, List.length_nil, Nat.reduceAdd, Nat.reduceSub, Array.replicate_succ, Array.replicate_zero, List.push_toArray, List.append_toArray, List.nil_append, List.cons_append]
 gi_wp2_with fail
 gi_loopw [4, 7] (fun _ i wr => ∃ (k : Nat) (pre : List (Fin xs.length)), k ≤ xs.length ∧ i = .int .i64 k ∧ Upto pre k ∧ J pre wr ∧ Below n₀ W wr)
  (fun _ i _ => xs.length - (intOf i).toNat)
 case atStart => exact ⟨0, [], Nat.zero_le _, rfl, rfl, h0, Below.refl _ _⟩
 case round =>
  obtain ⟨k, pre, hk, rfl, hup, hJs, hnx⟩ := hrel
  by_cases hlt : k < xs.length
  · rcases hl with rfl | ⟨b, off, rfl, hc⟩
    · simp at hlt
    · obtain ⟨fn, tmps, assign, body, hy, hR⟩ := hY pre ⟨k, hlt⟩ wr hJs (by rw [hup.length]; exact hlt)
      simp only [numV] at hy
      have hcx := (hnx.cell (p := ⟨b, off + k, none⟩) (hb (by rintro rfl; simp at hlt) ⟨b, off, none⟩ rfl)).trans (hc k (by omega))
      have ej : xs[k]?.getD 0 = xs[k] := by simp [hlt]
      rw [ej] at hy
      clear hc ej
      gi_wp2
      refine ⟨(fun h => by cases h), hR.mono ?_⟩
      rintro e W3 (⟨rfl, hJ3, hk3⟩ | ⟨rfl, hJx3⟩)
      · gi_wp2
        go_roundw
        case rel => exact ⟨k + 1, _, by omega, by go_num, hup.snoc hlt, hJ3, hnx.trans hk3⟩
        case measure => simp [intOf]; omega
      · gi_wp2
        refine bodyPost_ret (results_none rfl _ _ _) rfl ?_
        exact ⟨⟨_, rfl⟩, .inr ⟨_, ⟨k + 1, by omega, hup.snoc hlt⟩, hJx3⟩⟩
  · obtain rfl : k = xs.length := by omega
    gi_wp2
    go_end0
    exact ⟨⟨_, rfl⟩, .inl ⟨_, hup, hJs⟩⟩
theorem allI_stops (n Bs n₀ : Nat) (ad : Option Addr) (xs : List Int) (cap : Nat) (hm : xs.length ≤ 17592186044416) (hcap : xs.length ≤ cap) (hb : xs ≠ [] → ∀ a, ad = some a → a.block < n₀) (w : World) (hBs : Bs < w.heap.size)
 (hc : w.cell? ⟨Bs, 0, none⟩ = some (.slice ad xs.length cap)) (hl : LimS w ad xs) :
 SeqStopsK Fence.wide n Tryz.prog 195 #[.pointer (some ⟨Bs, 0, none⟩)] (numV xs (n := xs.length)) (Below n₀) (fun ys => Upto ys xs.length) (fun pre => ∃ k, k ≤ xs.length ∧ Upto pre k) xs.length w := fun l J Jx W hW _ _ hY h0 =>
 allI_in n l Bs n₀ ad xs cap hm hcap hb J Jx hY W ((hW.cell (p := ⟨Bs, 0, none⟩) hBs).trans hc) (hl.later hW) h0
theorem allI_any (ad : Option Addr) (n cap : Nat) (w : World) :
 Calls Tryz.prog 189 #[.slice ad n cap] w fun e w' => e = .returned (.func (.func 195) #[] #[.pointer (some ⟨w.heap.size, 0, none⟩)]) ∧ w' = w.alloc (.cells #[.slice ad n cap] 192) := by
 go_enter Tryz.func189, Tryz.ntmps189
 go_wp2
 go_ret
 exact ⟨rfl, rfl⟩
theorem allQ_any (ad : Option Addr) (n cap : Nat) (w : World) :
 Calls Tryz.prog 68 #[.slice ad n cap] w fun e w' => e = .returned (.func (.func 107) #[] #[.pointer (some ⟨w.heap.size, 0, none⟩)]) ∧ w' = w.alloc (.cells #[.slice ad n cap] 96) := by
 go_enter Tryz.func68, Tryz.ntmps68
 go_wp2
 go_ret
 exact ⟨rfl, rfl⟩
theorem allQ_stops (n Bs n₀ : Nat) (ad : Option Addr) (es : List E3) (cap : Nat) (hm : es.length ≤ 1000000000000) (hcap : es.length ≤ cap) (w : World) (hn₀ : n₀ ≤ w.heap.size) (hBs : Bs < w.heap.size)
 (hc : w.cell? ⟨Bs, 0, none⟩ = some (.slice ad es.length cap)) (hl : LimE w ad es n₀) (hsh : ShE es) :
 SeqStopsK Fence.wide n Tryz.prog 107 #[.pointer (some ⟨Bs, 0, none⟩)] (ratAt es (n := es.length)) (Below n₀) (fun ys => Upto ys es.length) (fun pre => ∃ k, k ≤ es.length ∧ Upto pre k) es.length w := fun l J Jx W hW hJ _ hY h0 =>
 allQ_in n l Bs n₀ ad es cap hm hcap J Jx (fun pre A B hj hb => hJ pre A B none hj ⟨hb.os, hb.tape, hb.output, hb.size, fun k hk _ => hb.block k hk⟩ (fun _ h => by cases h)) hY W (Nat.le_trans hn₀ hW.size) ((hW.cell (p := ⟨Bs, 0, none⟩) hBs).trans hc) (hl.below (hW.mono hn₀)) hsh h0
end
end Go.Proofs.YtengpgodmbfmkaaGreat
