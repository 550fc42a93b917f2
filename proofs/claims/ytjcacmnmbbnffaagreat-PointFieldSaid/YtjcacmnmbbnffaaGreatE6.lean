/-
  Layer 7's law TensorOwn: tensors that may be written to, and a list of them.
-/
import Derived.Test.YtjcacmnmbbnffaaGreatE5
namespace Go.Proofs.YtjcacmnmbbnffaaGreat
set_option maxRecDepth 100000
section
open Go.RowKit
variable {F : Fence} {n : Nat} {P : Program} {ops : Array Oper} {Q : Exit → Act → World → Prop} {md : Region.Mode} {S : World → Prop} {zs : List Nat}
set_option linter.unusedVariables false
set_option linter.unusedSimpArgs false
/-- 'YieldsIf', and it is about to make no call -/
def YieldsIfF (P : Program) (ops : Array Oper) (S : World → Prop) (o : Oper) (v : Value) (a : Act) : Prop := YieldsIf P ops S o v a ∧ ∀ w, o.about P w a.eval = none
theorem YieldsIfF.wpOpIn {i : Nat} {o : Oper} {v : Value} {a : Act} (hro : F.round = none) (hi : ops[i]? = some o) (hy : YieldsIfF P ops S o v a)
    {K : Act → World → Prop} {w : World} (hS : S w) (h : K (a.put o.dst v) w) : wpOpIn F n P ops Q i K a w := by
  unfold Go.wpOpIn
  simp only [hi]
  have hab : ∀ f, o.about P w a.eval = some f → F.fn f := fun f hf => by rw [hy.2 w] at hf; cases hf
  rcases hy.1 with ⟨hw, hv⟩ | ⟨hw, rfl⟩
  · simp only [hw, if_true, Oper.wpIn, hro, Oper.semAt_none, hv w hS, Oper.uponIn]; exact ⟨hab, h⟩
  · simp only [hw, Bool.false_eq_true, if_false]; exact ⟨hab, h⟩
theorem YieldsIfF.of_same {o : Oper} {v : Value} {a a' : Act} (hy : YieldsIfF P ops S o v a) (he : execOp a'.eval o = execOp a.eval o)
    (hw : Region.wanted o (yielded ops a'.tmps) = Region.wanted o (yielded ops a.tmps)) (hb : ∀ w, o.about P w a'.eval = o.about P w a.eval) : YieldsIfF P ops S o v a' :=
  ⟨hy.1.of_same he hw, fun w => by rw [hb w]; exact hy.2 w⟩
theorem wpOpIn_putIf {j : Nat} {oi oj : Oper} {v : Value} (hro : F.round = none) (hj : ops[j]? = some oj) (hap : oi.apart ops oj = true)
    (hsi : ∀ cs b, oi.op ≠ .select cs b) (hsj : ∀ cs b, oj.op ≠ .select cs b)
    (hQ : ∀ c a w, Q (.panic c) (a.put oi.dst v) w → Q (.panic c) a w) {K : Act → World → Prop} {a : Act} {w : World}
    (hy : YieldsIfF P ops S oi v a) (h : wpOpIn F n P ops Q j K (a.put oi.dst v) w) :
    wpOpIn F n P ops Q j (fun a' w' => YieldsIfF P ops S oi v a' ∧ K (a'.put oi.dst v) w') a w := by
  obtain ⟨h1, h2, h3⟩ := Oper.apart_spec hap
  have keep : ∀ (a : Act), YieldsIfF P ops S oi v a → ∀ u, YieldsIfF P ops S oi v (a.put oj.dst u) := fun a hy u =>
    hy.of_same (execOp_put oi hsi a oj.dst u h3) (wanted_put oi a oj.dst u h3) (fun w => about_put oi w a oj.dst u h3)
  have keepD : ∀ d, YieldsIfF P ops S oi v { a with defers := d :: a.defers } := fun d => hy.of_same rfl rfl (fun _ => rfl)
  unfold wpOpIn at *
  simp only [hj] at *
  rw [wanted_put oj a oi.dst v h1, about_put oj w a oi.dst v h1] at h
  split
  · rename_i hw
    simp only [hw, if_true] at h
    unfold Oper.wpIn at *
    rw [about_put oj w a oi.dst v h1] at h
    refine ⟨h.1, ?_⟩
    have h := h.2
    rw [hro, Oper.semAt_none, execOp_put oj hsj a oi.dst v h1] at h
    rw [hro, Oper.semAt_none]
    generalize (execOp a.eval oj).run P w = r at *
    cases r with
    | ok x w' =>
      cases x <;> simp only [Oper.uponIn] at h ⊢
      case value u => exact ⟨keep a hy u, by rw [← Act.put_comm a v u h2]; exact h⟩
      case skip => exact ⟨keep a hy _, by rw [← Act.put_comm a v undef h2]; exact h⟩
      case defer d =>
        refine ⟨keep _ (keepD d) _, ?_⟩
        rw [← Act.put_comm _ v undef h2, ← Act.put_defers]
        exact h
      case enter f args =>
        refine ⟨h.1, CallsIn.mono h.2 fun e w'' he => ?_⟩
        cases e with
        | returned u => exact ⟨keep a hy u, by rw [← Act.put_comm a v u h2]; exact he⟩
        | panicked c => exact hQ _ _ _ he
        | outgrown => exact he
      case row row args => exact ⟨h.1, RowsIn.mono h.2 fun u w'' he => ⟨keep a hy u, by rw [← Act.put_comm a v u h2]; exact he⟩⟩
      case round l f tmps assign body =>
        refine ⟨h.1, RoundIn.mono h.2 fun e w'' he => ?_⟩
        cases e with
        | returned u => exact ⟨keep a hy u, by rw [← Act.put_comm a v u h2]; exact he⟩
        | panicked c => exact hQ _ _ _ he
        | outgrown => exact he
    | halt x w' =>
      cases x <;> simp only [Oper.uponIn] at h ⊢
      case panic u => exact hQ _ _ _ h
  · rename_i hw
    simp only [hw] at h
    exact ⟨h.1, keep a hy _, by rw [← Act.put_comm a v undef h2]; exact h.2⟩
def wpAnyInL (F : Fence) (n : Nat) (P : Program) (md : Region.Mode) (ops : Array Oper) (Q : Exit → Act → World → Prop) (S : World → Prop) (zs : List Nat) : Nat → Array Bool → Act → World → Prop
  | 0, listed, a, w => Region.ready md ops listed = [] ∧ Q .normal a w
  | fuel + 1, listed, a, w =>
    (Region.ready md ops listed = [] → Q .normal a w) ∧
    ∀ i ∈ Region.ready md ops listed, wpOpIn F n P ops Q i (fun a' w' => (i ∉ zs → S w') ∧ wpAnyInL F n P md ops Q S zs fuel (listed.setIfInBounds i true) a' w') a w
theorem wpAnyIn_of_L : ∀ (fuel : Nat) (listed : Array Bool) (a : Act) (w : World), wpAnyInL F n P md ops Q S zs fuel listed a w → wpAnyIn F n P md ops Q fuel listed a w
  | 0, _, _, _, h => h
  | fuel + 1, _, _, _, h => ⟨h.1, fun i hi => wpOpIn_mono (fun a' w' h' => wpAnyIn_of_L fuel _ a' w' h'.2) (h.2 i hi)⟩
/-- each of ch waits for i, or for one of ch -/
def chainB (md : Region.Mode) (ops : Array Oper) (i : Nat) (ch : List Nat) : Bool := ch.all fun c => (i :: ch).any fun p => waitsB md ops c p
theorem chain_spec {i : Nat} {ch : List Nat} (h : chainB md ops i ch = true) : ∀ c ∈ ch, ∃ p, (p = i ∨ p ∈ ch) ∧ ∀ o, ops[c]? = some o → ∃ e ∈ o.after, Region.binds md e = true ∧ e.on = p := fun c hc => by
  have h1 := List.all_eq_true.1 h c hc
  obtain ⟨p, hp, h2⟩ := List.any_eq_true.1 h1
  exact ⟨p, List.mem_cons.1 hp, waits_spec h2⟩
theorem wpAnyInL_first {i : Nat} {oi : Oper} {v : Value} {ch : List Nat} (hro : F.round = none) (hi : ops[i]? = some oi) (hsel : ∀ (j : Nat) (o : Oper) cs b, ops[j]? = some o → o.op ≠ .select cs b)
    (hQ : ∀ c a w, Q (.panic c) (a.put oi.dst v) w → Q (.panic c) a w) (hch : ∀ c ∈ ch, ∃ p, (p = i ∨ p ∈ ch) ∧ ∀ o, ops[c]? = some o → ∃ e ∈ o.after, Region.binds md e = true ∧ e.on = p) (hzs : ∀ z ∈ zs, z ∈ ch) :
    ∀ (fuel : Nat) (listed : Array Bool) (a : Act) (w : World),
      (∀ j oj, ops[j]? = some oj → j ≠ i → listed.getD j true = false → (∀ e ∈ oj.after, Region.binds md e = true → e.on ≠ i) → oi.apart ops oj = true) →
      (∀ c ∈ ch, listed.getD c true = false) →
      i ∈ Region.ready md ops listed → YieldsIfF P ops S oi v a → S w →
      wpAnyInL F n P md ops Q S zs fuel (listed.setIfInBounds i true) (a.put oi.dst v) w → wpAnyInL F n P md ops Q S zs (fuel + 1) listed a w := by
  intro fuel
  induction fuel with
  | zero =>
    intro listed a w _ _ hr hy hS H
    refine ⟨fun h => (by rw [h] at hr; cases hr), fun j hj => ?_⟩
    by_cases hji : j = i
    · subst hji; exact hy.wpOpIn hro hi hS ⟨fun _ => hS, H⟩
    · have := ready_mono hj hji
      rw [H.1] at this
      cases this
  | succ fuel ih =>
    intro listed a w hfree hun0 hr hy hS H
    refine ⟨fun h => (by rw [h] at hr; cases hr), fun j hj => ?_⟩
    by_cases hji : j = i
    · subst hji; exact hy.wpOpIn hro hi hS ⟨fun _ => hS, H⟩
    · have h1 := H.2 j (ready_mono hj hji)
      obtain ⟨hjun, oj, hoj, hall⟩ := mem_ready.1 hj
      have hwait : ∀ p, listed.getD p true = false → ∀ e ∈ oj.after, Region.binds md e = true → e.on ≠ p := fun p h0 e he hb heq => by
        have h1 := hall e he hb
        rw [heq] at h1
        rcases Nat.lt_or_ge p listed.size with h' | h'
        · simp [h'] at h0 h1; rw [h0] at h1; cases h1
        · simp [Array.getElem?_eq_none h'] at h1
      have hnot : ∀ e ∈ oj.after, Region.binds md e = true → e.on ≠ i := hwait i (mem_ready.1 hr).1
      have hjc : j ∉ ch := fun hc => by
        obtain ⟨p, hp, hw⟩ := hch j hc
        obtain ⟨e, he, hb, hon⟩ := hw oj hoj
        rcases hp with rfl | hp
        · exact hnot e he hb hon
        · exact hwait p (hun0 p hp) e he hb hon
      have hjz : j ∉ zs := fun h => hjc (hzs j h)
      have h2 := wpOpIn_putIf hro hoj (hfree j oj hoj hji hjun hnot) (fun cs b => hsel i oi cs b hi) (fun cs b => hsel j oj cs b hoj) hQ hy h1
      have hfree' : ∀ k ok, ops[k]? = some ok → k ≠ i → (listed.setIfInBounds j true).getD k true = false →
          (∀ e ∈ ok.after, Region.binds md e = true → e.on ≠ i) → oi.apart ops ok = true := fun k ok hk hki hun hno => by
        refine hfree k ok hk hki ?_ hno
        by_cases hjk : j = k
        · subst hjk; exact hjun
        · rw [getD_set_ne true hjk] at hun; exact hun
      have hun' : ∀ c ∈ ch, (listed.setIfInBounds j true).getD c true = false := fun c hc => by
        rw [getD_set_ne true (fun e => hjc (by subst e; exact hc))]
        exact hun0 c hc
      refine wpOpIn_mono (fun a' w' h3 => ⟨fun _ => h3.2.1 hjz, ih (listed.setIfInBounds j true) a' w' hfree' hun' (ready_mono hr (Ne.symm hji)) h3.1 (h3.2.1 hjz) ?_⟩) h2
      rw [Array.setIfInBounds_comm _ _ hji]
      exact h3.2.2
theorem wpAnyInL_take {i : Nat} {oi : Oper} {v : Value} {fuel : Nat} {listed : Array Bool} {a : Act} {w : World} (ch : List Nat) (hro : F.round = none) (hi : ops[i]? = some oi)
    (hs : Region.noSelect ops = true) (hf : Region.free md ops listed i = true) (hr : (Region.ready md ops listed).contains i = true) (hc : chainB md ops i ch = true) (hu : (ch.all fun c => !(listed.getD c true)) = true) (hzs : (zs.all fun z => ch.contains z) = true)
    (hQ : ∀ c a w, Q (.panic c) (a.put oi.dst v) w → Q (.panic c) a w) (hy : YieldsIf P ops S oi v a) (hab : ∀ w, oi.about P w a.eval = none) (hS : S w)
    (h : wpAnyInL F n P md ops Q S zs fuel (listed.setIfInBounds i true) (a.put oi.dst v) w) : wpAnyInL F n P md ops Q S zs (fuel + 1) listed a w :=
  wpAnyInL_first hro hi (Region.noSelect_spec hs) hQ (chain_spec hc) (fun z hz => by simpa using List.all_eq_true.1 hzs z hz) fuel listed a w (Region.free_spec hi hf) (fun c hcc => by simpa using List.all_eq_true.1 hu c hcc) (by simpa using hr) ⟨hy, hab⟩ hS h
/-- one operation alone is ready -/
theorem wpAnyInL_one {i : Nat} {o : Oper} {fuel : Nat} {listed : Array Bool} {a : Act} {w : World} (hr : Region.ready md ops listed = [i]) (ho : ops[i]? = some o)
    (h : ∀ K' : Act → World → Prop, Shut (∀ a w, (i ∉ zs → S w) → ((i ∉ zs → S w) → wpAnyInL F n P md ops Q S zs fuel (listed.setIfInBounds i true) a w) → K' a w) → if Region.wanted o (yielded ops a.tmps) = true then Oper.wpIn F n P o a w K' Q else (∀ f, o.about P w a.eval = some f → F.fn f) ∧ K' (a.put o.dst undef) w) :
    wpAnyInL F n P md ops Q S zs (fuel + 1) listed a w := by
  refine ⟨fun h0 => (by rw [hr] at h0; cases h0), fun j hj => ?_⟩
  rw [hr, List.mem_singleton] at hj
  subst hj
  exact wpOpIn_step ho (fun K' hK => h K' (fun a w hS hW => hK a w ⟨hS, hW hS⟩))
theorem wpAnyInL_done {listed : Array Bool} {a : Act} {w : World} (hr : Region.ready md ops listed = []) (h : Q .normal a w) :
    ∀ fuel, wpAnyInL F n P md ops Q S zs fuel listed a w
  | 0 => ⟨hr, h⟩
  | _ + 1 => ⟨fun _ => h, by rw [hr]; simp⟩
theorem wpIn_region_L {id : Nat} {a : Act} {w : World} (S : World → Prop) (zs : List Nat) (hm : P.follows .mixedOrders = true) (hS : S w.drew)
    (h : S w.drew → wpAnyInL F n P .any ops Q S zs ops.size (Array.replicate ops.size false) a w.drew) : (Code.region id ops true).wpIn F n P Q a w :=
  wpIn_region_any hm (wpAnyIn_of_L _ _ _ _ (h hS))
end
section
open Go.RowKit Go.Shelf
attribute [local go_sem] Oper.semAt_some
set_option linter.unusedVariables false
set_option linter.unusedSimpArgs false
set_option maxRecDepth 100000 in
set_option maxHeartbeats 4000000 in
theorem besideQ_in (n l Bs n₀ : Nat) (a1 a2 : Option Addr) (es fs : List E3) (cap1 cap2 : Nat) (hm : es.length ≤ 1000000000000) (hlen : fs.length = es.length) (J Jx : List (Fin es.length) → World → Prop)
    (hJ : ∀ pre A B, J pre A → Below A.heap.size A B → J pre B)
    (hY : ∀ pre x W, J pre W → pre.length < es.length → YieldAt Fence.wide (n - 1) Tryz.prog l (ratsAt es fs x) W fun e W' =>
      (e = .returned (.bool true) ∧ J (pre ++ [x]) W' ∧ KpS n₀ (Bs + 1) W W') ∨ (e = .returned (.bool false) ∧ Jx (pre ++ [x]) W'))
    (W : World) (hn₀ : Bs + 1 < W.heap.size) (hW₀ : n₀ ≤ W.heap.size) (hB1 : W.cell? ⟨Bs, 0, none⟩ = some (.slice a1 es.length cap1)) (hB2 : W.cell? ⟨Bs + 1, 0, none⟩ = some (.slice a2 fs.length cap2)) (hl1 : LimE W a1 es n₀) (hl2 : LimE W a2 fs n₀) (hsh1 : ShE es) (hsh2 : ShE fs) (h0 : J [] W) :
    CallsIn Fence.wide n Tryz.prog 120 #[.func (.yield l) #[] #[], .pointer (some ⟨Bs, 0, none⟩), .pointer (some ⟨Bs + 1, 0, none⟩)] W fun e W' => (∃ v, e = .returned v) ∧
      ((∃ ys, Upto ys es.length ∧ J ys W') ∨ (∃ pre, (∃ k, k ≤ es.length ∧ Upto pre k) ∧ Jx pre W')) := by
  refine callsIn_of_wp Tryz.func120 rfl trivial ?_ rfl
  simp only [Tryz.ntmps120, List.size_toArray, List.length_cons, List.length_nil, Nat.reduceAdd, Nat.reduceSub, Array.replicate_succ, Array.replicate_zero, List.push_toArray, List.append_toArray, List.nil_append, List.cons_append]
  gi_wp2_with fail
  gi_loopw [4, 5, 8] (fun _ _ i wr => ∃ (k : Nat) (pre : List (Fin es.length)), k ≤ es.length ∧ i = .int .i64 k ∧ Upto pre k ∧ J pre wr ∧ KpS n₀ (Bs + 1) W wr)
    (fun _ _ i _ => es.length - (intOf i).toNat)
  case atStart => exact ⟨0, [], Nat.zero_le _, rfl, rfl, h0, KpS.refl _ _ _⟩
  case round =>
    obtain ⟨k, pre, hk, rfl, hup, hJs, hnx⟩ := hrel
    by_cases hlt : k < es.length
    · obtain ⟨b, o, rfl, c0, c1, c2⟩ := (hl1.below hnx.below).cells hlt
      obtain ⟨b', o', rfl, e0, e1, e2⟩ := (hl2.below hnx.below).cells (k := k) (by omega)
      have hB2' := (World.cell?_of_block (a := ⟨Bs + 1, 0, none⟩) hnx.box).trans hB2
      have hsz := hnx.below.size
      obtain ⟨z1, z2, z3, z4, z5, z6, z7, he⟩ := hsh1 k hlt
      obtain ⟨y1, y2, y3, y4, y5, y6, y7, hf⟩ := hsh2 k (by omega)
      obtain ⟨W2, hW2⟩ : ∃ W2, wr.alloc (.cells #[(es[k]?.getD dfE).a, (es[k]?.getD dfE).b, (es[k]?.getD dfE).c] 51) = W2 := ⟨_, rfl⟩
      have hb2 : Below wr.heap.size wr W2 := by rw [← hW2]; exact (Below.refl _ _).alloc (Nat.le_refl _) _
      have R2 : Row W2 wr.heap.size 51 #[(es[k]?.getD dfE).a, (es[k]?.getD dfE).b, (es[k]?.getD dfE).c] := by rw [← hW2]; exact Row.new _ _ _
      obtain ⟨d0, d1, d2, _, _, _⟩ := R2.three
      have hY2 := hY pre ⟨k, hlt⟩ W2.drew (hJ _ _ _ hJs hb2.drew) (by rw [hup.length]; exact hlt)
      obtain ⟨fn, tmps, assign, body, hy, hR⟩ := hY2
      have hnx2 : KpS n₀ (Bs + 1) W W2.drew := hnx.trans ⟨(hb2.mono (by omega)).drew, hb2.block (Bs + 1) (by omega)⟩
      simp only [ratsAt] at hy
      have f0 := (hb2.cell (p := ⟨b', o' + k * 3, none⟩) (World.block_lt_of_cell? wr _ e0)).trans e0
      have f1 := (hb2.cell (p := ⟨b', o' + k * 3 + 1, none⟩) (World.block_lt_of_cell? wr _ e1)).trans e1
      have f2 := (hb2.cell (p := ⟨b', o' + k * 3 + 2, none⟩) (World.block_lt_of_cell? wr _ e2)).trans e2
      have g2 := (hb2.cell (p := ⟨Bs + 1, 0, none⟩) (World.block_lt_of_cell? wr _ hB2')).trans hB2'
      rw [he] at hy c0 c1 c2 hW2 d0 d1 d2
      rw [hf] at hy e0 e1 e2 f0 f1 f2
      simp only at hy
      have hfl : fs.length = es.length := hlen
      rw [hfl] at g2
      have HJ := Lib.hid hJ
      have HY := Lib.hid hY
      have hkI : (k : Int) < (es.length : Int) := by omega
      clear hJ hY hl1 hl2 he hf R2 hsh1 hsh2 hlen
      gi_wp2_with fail
      refine wpIn_region_L (fun X => X.cell? ⟨wr.heap.size, 0, none⟩ = some (.bool z1) ∧ X.cell? ⟨wr.heap.size, 1, none⟩ = some (.slice z2 z3 z4) ∧ X.cell? ⟨wr.heap.size, 2, none⟩ = some (.slice z5 z6 z7) ∧
        X.cell? ⟨Bs + 1, 0, none⟩ = some (.slice (some ⟨b', o', none⟩) es.length cap2) ∧ X.cell? ⟨b', o' + k * 3, none⟩ = some (.bool y1) ∧ X.cell? ⟨b', o' + k * 3 + 1, none⟩ = some (.slice y2 y3 y4) ∧ X.cell? ⟨b', o' + k * 3 + 2, none⟩ = some (.slice y5 y6 y7)) [6, 7] (by kernel_rfl)
        ⟨d0, d1, d2, g2, f0, f1, f2⟩ (fun hHeld => ?_)
      refine wpAnyInL_take (i := 0) (v := ?va0) [6, 7] rfl rfl (by kernel_rfl) (by kernel_rfl) (by kernel_rfl) (by kernel_rfl) (by kernel_rfl) (by kernel_rfl) (fun _ _ _ h => h) (Or.inl ⟨by rfl, ?ha0⟩) (fun _ => rfl) (by assumption) ?ra0
      case ha0 =>
        intro w hSw
        try dsimp only at hSw
        go_simp
        try with_reducible rfl
      try simp only [Act.put, List.setIfInBounds_toArray, List.set_cons_zero, List.set_cons_succ]
      refine wpAnyInL_take (i := 1) (v := ?va1) [6, 7] rfl rfl (by kernel_rfl) (by kernel_rfl) (by kernel_rfl) (by kernel_rfl) (by kernel_rfl) (by kernel_rfl) (fun _ _ _ h => h) (Or.inl ⟨by rfl, ?ha1⟩) (fun _ => rfl) (by assumption) ?ra1
      case ha1 =>
        intro w hSw
        try dsimp only at hSw
        go_simp
        try with_reducible rfl
      try simp only [Act.put, List.setIfInBounds_toArray, List.set_cons_zero, List.set_cons_succ]
      refine wpAnyInL_take (i := 2) (v := ?va2) [4, 5, 6, 7] rfl rfl (by kernel_rfl) (by kernel_rfl) (by kernel_rfl) (by kernel_rfl) (by kernel_rfl) (by kernel_rfl) (fun _ _ _ h => h) (Or.inl ⟨by rfl, ?ha2⟩) (fun _ => rfl) (by assumption) ?ra2
      case ha2 =>
        intro w hSw
        try dsimp only at hSw
        go_simp
        try with_reducible rfl
      try simp only [Act.put, List.setIfInBounds_toArray, List.set_cons_zero, List.set_cons_succ]
      refine wpAnyInL_take (i := 3) (v := ?va3) [4, 5, 6, 7] rfl rfl (by kernel_rfl) (by kernel_rfl) (by kernel_rfl) (by kernel_rfl) (by kernel_rfl) (by kernel_rfl) (fun _ _ _ h => h) (Or.inl ⟨by rfl, ?ha3⟩) (fun _ => rfl) (by assumption) ?ra3
      case ha3 =>
        intro w hSw
        try dsimp only at hSw
        go_simp
        try with_reducible rfl
      try simp only [Act.put, List.setIfInBounds_toArray, List.set_cons_zero, List.set_cons_succ]
      refine wpAnyInL_take (i := 4) (v := ?va4) [5, 6, 7] rfl rfl (by kernel_rfl) (by kernel_rfl) (by kernel_rfl) (by kernel_rfl) (by kernel_rfl) (by kernel_rfl) (fun _ _ _ h => h) (Or.inl ⟨by rfl, ?ha4⟩) (fun _ => rfl) (by assumption) ?ra4
      case ha4 =>
        intro w hSw
        try dsimp only at hSw
        go_simp
        try with_reducible rfl
      try simp only [Act.put, List.setIfInBounds_toArray, List.set_cons_zero, List.set_cons_succ]
      refine wpAnyInL_take (i := 5) (v := ?va5) [6, 7] rfl rfl (by kernel_rfl) (by kernel_rfl) (by kernel_rfl) (by kernel_rfl) (by kernel_rfl) (by kernel_rfl) (fun _ _ _ h => h) (Or.inl ⟨by rfl, ?ha5⟩) (fun _ => rfl) (by assumption) ?ra5
      case ha5 =>
        intro w hSw
        try dsimp only at hSw
        go_simp
        try with_reducible rfl
      try simp only [Act.put, List.setIfInBounds_toArray, List.set_cons_zero, List.set_cons_succ]
      refine wpAnyInL_one (i := 6) (by kernel_rfl) rfl (fun K hK => ?sb6)
      go_simp
      refine ⟨(fun h => by cases h), hR.mono ?_⟩
      rintro e W3 (⟨rfl, hJ3, hk3⟩ | ⟨rfl, hJx3⟩)
      · refine hK.out _ _ (fun h => absurd (by decide) h) (fun _ => ?mb6)
        clear hK K
        try simp only [Act.put, List.setIfInBounds_toArray, List.set_cons_zero, List.set_cons_succ]
        refine wpAnyInL_one (i := 7) (by kernel_rfl) rfl (fun K hK => ?sb7)
        go_simp
        refine hK.out _ _ (fun h => absurd (by decide) h) (fun _ => ?mb7)
        clear hK K
        try simp only [Act.put, List.setIfInBounds_toArray, List.set_cons_zero, List.set_cons_succ]
        refine wpAnyInL_done (by kernel_rfl) ?_ _
        gi_wp2
        go_roundw
        case rel => exact ⟨k + 1, _, by omega, by go_num, hup.snoc hlt, hJ3, hnx2.trans hk3⟩
        case measure => simp [intOf]; omega
      · refine hK.out _ _ (fun h => absurd (by decide) h) (fun _ => ?mc6)
        clear hK K
        try simp only [Act.put, List.setIfInBounds_toArray, List.set_cons_zero, List.set_cons_succ]
        refine wpAnyInL_one (i := 7) (by kernel_rfl) rfl (fun K hK => ?sc7)
        go_simp
        refine hK.out _ _ (fun h => absurd (by decide) h) (fun _ => ?mc7)
        clear hK K
        try simp only [Act.put, List.setIfInBounds_toArray, List.set_cons_zero, List.set_cons_succ]
        refine wpAnyInL_done (by kernel_rfl) ?_ _
        gi_wp2
        refine bodyPost_ret (results_none rfl _ _ _) rfl ?_
        exact ⟨⟨_, rfl⟩, .inr ⟨_, ⟨k + 1, by omega, hup.snoc hlt⟩, hJx3⟩⟩
    · obtain rfl : k = es.length := by omega
      gi_wp2
      go_end0
      exact ⟨⟨_, rfl⟩, .inl ⟨_, hup, hJs⟩⟩
theorem besideQ_stops (n Bs n₀ : Nat) (a1 a2 : Option Addr) (es fs : List E3) (cap1 cap2 : Nat) (hm : es.length ≤ 1000000000000) (hlen : fs.length = es.length) (w : World) (hn₀ : Bs + 1 < w.heap.size) (hw : n₀ ≤ w.heap.size)
    (hB1 : w.cell? ⟨Bs, 0, none⟩ = some (.slice a1 es.length cap1)) (hB2 : w.cell? ⟨Bs + 1, 0, none⟩ = some (.slice a2 fs.length cap2)) (hl1 : LimE w a1 es n₀) (hl2 : LimE w a2 fs n₀) (hsh1 : ShE es) (hsh2 : ShE fs) :
    SeqStopsK Fence.wide n Tryz.prog 120 #[.pointer (some ⟨Bs, 0, none⟩), .pointer (some ⟨Bs + 1, 0, none⟩)] (ratsAt es fs (n := es.length)) (KpS n₀ (Bs + 1)) (fun ys => Upto ys es.length) (fun pre => ∃ k, k ≤ es.length ∧ Upto pre k) es.length w := fun l J Jx W hW hJ _ hY h0 =>
  besideQ_in n l Bs n₀ a1 a2 es fs cap1 cap2 hm hlen J Jx (fun pre A B hj hb => hJ pre A B none hj ⟨hb.os, hb.tape, hb.output, hb.size, fun k hk _ => hb.block k hk⟩ (fun _ h => by cases h)) hY W (Nat.lt_of_lt_of_le hn₀ hW.size) (Nat.le_trans hw hW.size) ((hW.cell (p := ⟨Bs, 0, none⟩) (by show Bs < w.heap.size; omega)).trans hB1) ((hW.cell (p := ⟨Bs + 1, 0, none⟩) (by show Bs + 1 < w.heap.size; omega)).trans hB2) (hl1.below (hW.mono hw)) (hl2.below (hW.mono hw)) hsh1 hsh2 h0
end
section
open Go.RowKit Go.Shelf
attribute [local go_sem] Oper.semAt_some
set_option linter.unusedVariables false
set_option linter.unusedSimpArgs false
set_option maxHeartbeats 2000000 in
theorem room_any {u : Value} {s : List Int} {a : Option Addr} {ca : Nat} {w : World} (A : ArgS w u s a ca) (n : Nat) :
    Calls Tryz.prog 83 #[u, .int .i64 (n : Int)] w fun e w' => e = .returned (.int .i64 (makeC s n)) ∧ w = w' := by
  have h1 := mayS_eq A
  have h2 := countS_eq A
  have e : makeC s n = if mayC s ≠ 0 then mayC s else if (n : Int) ≠ countS s then 13 else 0 := rfl
  obtain rfl := A.is
  rw [e]
  generalize mayC s = m at *
  generalize countS s = c at *
  clear e A
  by_cases h : m = 0
  · subst h
    by_cases hc : (n : Int) = c
    · have hn : ((n : Int) != c) = false := by simp [hc]
      have hd : (if (0 : Int) ≠ 0 then (0 : Int) else if (n : Int) ≠ c then 13 else 0) = 0 := by simp [hc]
      rw [hd]
      go_enter Tryz.func83, Tryz.ntmps83
      go_wp2_with (first | (go_at_call 123; refine h1.mono ?_; rintro e w1 ⟨rfl, rfl⟩) | (go_at_call 124; refine h2.mono ?_; rintro e w1 ⟨rfl, rfl⟩))
      go_ret
      exact ⟨rfl, rfl⟩
    · have hn : ((n : Int) != c) = true := by simp [hc]
      have hd : (if (0 : Int) ≠ 0 then (0 : Int) else if (n : Int) ≠ c then 13 else 0) = 13 := by simp [hc]
      rw [hd]
      go_enter Tryz.func83, Tryz.ntmps83
      go_wp2_with (first | (go_at_call 123; refine h1.mono ?_; rintro e w1 ⟨rfl, rfl⟩) | (go_at_call 124; refine h2.mono ?_; rintro e w1 ⟨rfl, rfl⟩))
      go_ret
      exact ⟨rfl, rfl⟩
  · have hn : (m != 0) = true := by simp [h]
    rw [if_pos h]
    go_enter Tryz.func83, Tryz.ntmps83
    go_wp2_with (first | (go_at_call 123; refine h1.mono ?_; rintro e w1 ⟨rfl, rfl⟩) | (go_at_call 124; refine h2.mono ?_; rintro e w1 ⟨rfl, rfl⟩))
    go_ret
    exact ⟨rfl, rfl⟩
theorem elements_any (a b : Option Addr) (n m ca cb : Nat) (w : World) :
    Calls Tryz.prog 79 #[.agg #[.slice a n ca, .slice b m cb]] w fun e w' => e = .returned (.slice b m cb) ∧ Below w.heap.size w w' := by
  go_enter Tryz.func79, Tryz.ntmps79
  go_wp2
  go_ret
  exact ⟨rfl, (Below.refl _ _).alloc (Nat.le_refl _) _⟩
theorem rowO_slice {α : Type} {base : Nat} {T : TypeId} {P : World → Value → α → Prop} {w : World} {v : Value} {L : List α} (h : RowO base T P w v L) : ∃ a c, v = .slice a L.length c := by
  obtain ⟨es, h1, h2⟩ := h
  rw [← h2.1]
  exact ownT_slice h1
end
section
open Go.RowKit Go.Shelf
attribute [local go_sem] Oper.semAt_some
set_option linter.unusedVariables false
set_option linter.unusedSimpArgs false
theorem RawQ.box {w : World} {v : Value} {q : Q3} (h : RawQ w v q) : ∃ (ad bd : Option Addr) (ca cb : Nat), v = .agg #[.bool q.neg, .slice ad q.num.length ca, .slice bd q.den.length cb] := by
  obtain ⟨ad, bd, ca, cb, rfl, _⟩ := h
  exact ⟨_, _, _, _, rfl⟩
end
section
open Go.RowKit Go.Shelf
attribute [local go_sem] Oper.semAt_some
set_option linter.unusedVariables false
set_option linter.unusedSimpArgs false
theorem mayT_make {s : List Int} {qs : List Q3} (h : makeC s qs.length ≠ 0) : mayT s qs = makeC s qs.length := by
  unfold makeC at h ⊢
  unfold mayT
  split
  · rfl
  · rename_i h1
    rw [if_neg h1] at h
    split
    · rfl
    · rename_i h2
      rw [if_neg h2] at h
      exact absurd rfl h
theorem mayT_all {s : List Int} {qs : List Q3} (h : makeC s qs.length = 0) : mayT s qs = if qs.all okQ = true then 0 else 6 := by
  unfold makeC at h
  unfold mayT
  split at h
  · rename_i h1; exact absurd h h1
  · rename_i h1
    rw [if_neg h1]
    split at h
    · cases h
    · rename_i h2
      rw [if_neg h2]
theorem mayRaw_any {n : Nat} {w : World} {v : Value} {q : Q3} (h : RawQ w v q) (h1 : q.num.length ≤ n) (h2 : q.den.length ≤ n) (hn : n ≤ 16777000) :
    Calls Tryz.prog 85 #[v] w fun e w' => e = .returned (.int .i64 (mayCode (okQ q))) ∧ Below w.heap.size w w' := by
  obtain ⟨ad, bd, ca, cb, rfl, A, D, _, _⟩ := h
  exact mayQ_any A D h1 h2 hn
set_option maxRecDepth 100000 in
set_option maxHeartbeats 8000000 in
theorem mayT7_big {n : Nat} {w : World} {v : Value} {s : List Int} {qs : List Q3} {a b : Option Addr} {ca cb : Nat} (T : TensQ w v s qs a ca b cb) (hq : qs.length ≤ 1048576) (hl : lensQ qs n) (hn : n ≤ 4000000) :
    Calls Tryz.prog 39 #[v] w fun e w' => e = .returned (.int .i64 (mayT s qs)) ∧ Below w.heap.size w w' := by
  obtain rfl := T.is
  obtain ⟨B, hB⟩ : ∃ B, w.heap.size = B := ⟨_, rfl⟩
  obtain ⟨W1, hW1⟩ : ∃ W1, w.alloc (.cells #[.slice a s.length ca, .slice b qs.length cb] 26) = W1 := ⟨_, rfl⟩
  obtain ⟨W2, hW2⟩ : ∃ W2, W1.alloc (.cells #[.int .i64 0] 29) = W2 := ⟨_, rfl⟩
  have s1 : W1.heap.size = B + 1 := by rw [← hW1, ← hB]; simp
  have s2 : W2.heap.size = B + 1 + 1 := by rw [← hW2, World.size_alloc, s1]
  have R0 : Row W2 B 26 #[.slice a s.length ca, .slice b qs.length cb] := by rw [← hW2, ← hW1, ← hB]; exact (Row.new _ _ _).alloc _
  have R1 : Row W2 (B + 1) 29 #[.int .i64 0] := by rw [← hW2, ← s1]; exact Row.new _ _ _
  have hb2 : Below B w W2 := by rw [← hW2, ← hW1]; exact ((Below.refl _ w).alloc (by omega) _).alloc (by simp; omega) _
  have T2 := T.later (by rw [hB]; exact hb2)
  obtain ⟨c0, c1, _, _⟩ := R0.two
  have hr := room_any T2.sh qs.length
  obtain ⟨c, hc⟩ : ∃ c, makeC s qs.length = c := ⟨_, rfl⟩
  rw [hc] at hr
  have HL := Lib.hid hl
  have HT := Lib.hid T
  have d1 := R1.cell 0
  have f1 := R1.free 0
  obtain ⟨n', hn'⟩ : ∃ n' : Nat, Hid (3 ≤ n') := ⟨3, Nat.le_refl 3⟩
  clear T T2 hl
  by_cases h0 : c = 0
  · subst h0
    have hmt := mayT_all hc
    rw [hmt]
    obtain ⟨dd, hdd⟩ : ∃ d : Int, (if qs.all okQ = true then 0 else 6) = d := ⟨_, rfl⟩
    rw [hdd]
    have HD := Lib.hid hdd
    clear hdd
    obtain ⟨es, hlim, hall⟩ := HT.out.el.limE
    have hsh : ShE es := shE_of hall (fun v x h => h.form)
    have hcap := HT.out.el.le
    have hel : es.length = qs.length := hall.1
    have HEL := Lib.hid hel
    have HA := Lib.hid hall
    have HC := Lib.hid hc
    rw [← hel] at hr hcap c1 R0 hq hW1 ⊢
    rw [hB] at hlim
    clear hall hmt hel hc
    refine (callsIn_wide (n := n')).1 ?_
    refine callsIn_of_wp_marks Tryz.func39 rfl trivial ?_ rfl
    simp only [Tryz.ntmps39, List.size_toArray, List.length_cons, List.length_nil, Nat.reduceAdd, Nat.reduceSub, Array.replicate_succ, Array.replicate_zero, List.push_toArray, List.append_toArray, List.nil_append, List.cons_append]
    gi_wp2_with fail
    refine wideCall (hr.mono ?_)
    rintro e w' ⟨rfl, rfl⟩
    gi_wp2_with fail
    refine wideCall ((elements_any _ _ _ _ _ _ _).mono ?_)
    rintro e w3 ⟨rfl, b3⟩
    gi_wp2_with fail
    refine wideCall ((allQ_any _ _ _ _).mono ?_)
    rintro e w' ⟨rfl, rfl⟩
    gi_wp2_with fail
    have s3 := b3.size
    obtain ⟨I, hI⟩ : ∃ I, w3.heap.size = I := ⟨_, rfl⟩
    obtain ⟨V, hV⟩ : ∃ V, w3.alloc (.cells #[.slice b es.length cb] 95) = V := ⟨_, rfl⟩
    have sV : V.heap.size = I + 1 := by rw [← hV, World.size_alloc, hI]
    have b4 : Below w3.heap.size w3 V := by rw [← hV]; exact (Below.refl _ _).alloc (Nat.le_refl _) _
    have d4 : Boxed V I 95 (.slice b es.length cb) := by rw [← hV, ← hI]; exact Boxed.new _ _ _
    have b2V : Below W2.heap.size W2 V := b3.trans (b4.mono s3)
    have e1 := R1.later b2V
    have e0 := R0.later b2V
    have hbV : Below B w V := hb2.trans (b2V.mono (by omega))
    have hlimV : LimE V b es B := hlim.below hbV
    simp only [hI, hV]
    have h3 : 3 ≤ n' := hn'
    clear hV
    refine wpIn_rangeFunc_ownH (F := Fence.wide) (n := n') rfl (by omega) (gf := 125) (lb := #[.pointer (some ⟨I, 0, none⟩)]) rfl trivial (enters_of Tryz.func125 (by kernel_rfl) rfl)
      (allQ_stops (n' - 1) I B b es cb (by omega) hcap V (by omega) (by omega) d4.cell hlimV hsh) belowK_t (belowK_b (by omega)) (Below.refl _ _) (fun _ => rfl)
      (fun (pre : List (Fin es.length)) X => Row X (B + 1) 29 #[.int .i64 0] ∧ (∀ x ∈ pre, okQ (qs[x.val]?.getD ⟨false, [], []⟩) = true) ∧ Below B w X ∧ I + 1 ≤ X.heap.size)
      (fun c pre X => c = .ret ∧ Row X (B + 1) 29 #[.int .i64 6] ∧ (∃ x ∈ pre, okQ (qs[x.val]?.getD ⟨false, [], []⟩) = false) ∧ Below B w X)
      (fun pre X Y row ⟨h1, h2, h3, h4⟩ hg hr => ⟨h1.keepC (KeepC.grown hg (fun r e => (hr r e).2)), h2, h3.grown hg (by have := h3.size; omega) (fun k e => by have := (hr k e).1; omega), Nat.le_trans h4 hg.size⟩)
      (fun c pre X Y row ⟨h0, h1, h2, h3⟩ hg hr => ⟨h0, h1.keepC (KeepC.grown hg (fun r e => (hr r e).2)), h2, h3.grown hg (by have := h3.size; omega) (fun k e => by have := (hr k e).1; omega)⟩)
      ⟨e1, (fun x h => by cases h), hbV, by omega⟩
      (fun (x : Fin es.length) a' X => ∃ p, I + 1 ≤ p ∧ Row X p 51 #[(es[x.val]?.getD dfE).a, (es[x.val]?.getD dfE).b, (es[x.val]?.getD dfE).c] ∧
        a' = { tmps := #[.agg #[.slice a s.length ca, .slice b es.length cb], .pointer (some ⟨B, 0, none⟩), .pointer (some ⟨B + 1, 0, none⟩), .int .i64 0, .pointer (some ⟨p, 0, none⟩), undef, .pointer (some ⟨B, 0, none⟩), .slice a s.length ca, .pointer (some ⟨B, 1, none⟩), .slice b es.length cb, .int .i64 es.length, .int .i64 0, .int .i64 0, .bool false, undef,
          .agg #[.slice a s.length ca, .slice b es.length cb], .slice b es.length cb, .func (.func 125) #[] #[.pointer (some ⟨I, 0, none⟩)], .agg #[(es[x.val]?.getD dfE).a, (es[x.val]?.getD dfE).b, (es[x.val]?.getD dfE).c], undef, undef, undef, undef, undef], defers := [] })
      (fun x a' _ X Y row ⟨p, h1, h2, h3⟩ hg hr => ⟨p, h1, h2.keepC (KeepC.grown hg (fun r e => (hr r e).2)), h3⟩)
      ?assign ?body ?done ?stop
    case assign =>
      rintro l pre ⟨k, hk⟩ X K ⟨h1, h2, h3, h4⟩ hK
      obtain ⟨z1, z2, z3, z4, z5, z6, z7, he⟩ := hsh k hk
      have hs3 := h3.size
      have hbX : Below X.heap.size X (X.alloc (.cells #[.bool z1, .slice z2 z3 z4, .slice z5 z6 z7] 51)) := (Below.refl _ _).alloc (Nat.le_refl _) _
      have kk := KeepC.below hbX
      have HK := Lib.hid hK
      simp only [ratAt]
      rw [he]
      simp only
      clear hK
      gi_wp2
      refine HK.out _ _ ⟨by simp, fun q o _ ho _ => (Below.heap_alloc _ _ _ (lt_of_block ho)).trans ho⟩ (hbX.mono (by omega)) ⟨h1.keepC kk, h2, h3.trans (hbX.mono (by omega)), by simp; omega⟩ ⟨X.heap.size, h4, ?_, ?_⟩
      · simp only [he]; exact Row.new _ _ _
      · simp only [he]
    case body =>
      rintro l pre ⟨k, hk⟩ a' X hl hrec ⟨h1, h2, h3, h4⟩ ⟨p, hp, hR, rfl⟩ hlt
      obtain ⟨z1, z2, z3, z4, z5, z6, z7, he⟩ := hsh k hk
      simp only at hR ⊢
      rw [he] at hR ⊢
      simp only at hR ⊢
      have hkq : k < qs.length := by rw [← HEL.out]; exact hk
      have hqk : qs[k]? = some qs[k] := List.getElem?_eq_getElem hkq
      obtain ⟨q, hq2⟩ : ∃ q, qs[k] = q := ⟨_, rfl⟩
      rw [hq2] at hqk
      have hek : es[k]? = some es[k] := List.getElem?_eq_getElem hk
      have hraw := HA.out.2 k _ _ hek hqk
      have e2 : es[k] = ⟨.bool z1, .slice z2 z3 z4, .slice z5 z6 z7⟩ := by rw [hek] at he; exact he
      rw [e2] at hraw
      have hmem := List.mem_of_getElem? hqk
      have hlq := HL.out q hmem
      have hgd : qs[k]?.getD ⟨false, [], []⟩ = q := by rw [hqk]; rfl
      obtain ⟨g0, g1, g2, _, _, _⟩ := hR.three
      have hs3 := h3.size
      have hrX := hraw.later (hB.symm ▸ h3 : Below w.heap.size w X)
      gi_wp2_with fail
      refine roundCall ((mayRaw_any hrX hlq.1 hlq.2 (by omega)).mono ?_)
      rintro e w5 ⟨rfl, b5⟩
      have s5 := b5.size
      have R5 := h1.later b5
      have f5 := R5.free 0
      have d5 := R5.cell 0
      by_cases hok : okQ q = true
      · rw [hok]
        have hm : mayCode true = 0 := rfl
        rw [hm]
        gi_wp2
        refine ⟨keepsFrom_below b5, b5.mono (by omega), R5, fun x hx => ?_, h3.trans (b5.mono (by omega)), by omega⟩
        rcases List.mem_append.1 hx with hx | hx
        · exact h2 x hx
        · simp at hx
          subst hx
          rw [hgd]
          exact hok
      · have hok2 : okQ q = false := by simpa using hok
        rw [hok2]
        have hm : mayCode false = 6 := rfl
        rw [hm]
        have R6 : Row (w5.setCell ⟨B + 1, 0, none⟩ (.int .i64 6)) (B + 1) 29 #[.int .i64 6] := R5.set 0 _
        gi_wp2
        refine ⟨keepsFrom_set (keepsFrom_below b5) _ _, rfl, R6, ⟨_, List.mem_append_right _ (List.mem_singleton.2 rfl), ?_⟩, (h3.trans (b5.mono (by omega))).setCell (by show B ≤ B + 1; omega) _⟩
        show okQ (qs[k]?.getD ⟨false, [], []⟩) = false
        rw [hgd]
        exact hok2
    case done =>
      rintro D ys X hD hup ⟨h1, h2, h3, h4⟩ hK
      have hall : qs.all okQ = true := by
        rw [List.all_eq_true]
        intro q hq
        obtain ⟨k, hk, rfl⟩ := List.mem_iff_getElem.1 hq
        have hk2 : k < es.length := by rw [HEL.out]; exact hk
        have hm : (⟨k, hk2⟩ : Fin es.length) ∈ ys := by
          have h5 : k ∈ ys.map Fin.val := by rw [show ys.map Fin.val = List.range es.length from hup]; exact List.mem_range.2 hk2
          obtain ⟨x, hx, hv⟩ := List.mem_map.1 h5
          have : x = ⟨k, hk2⟩ := Fin.ext hv
          rw [← this]
          exact hx
        have h5 := h2 _ hm
        simp only at h5
        rw [List.getElem?_eq_getElem hk] at h5
        exact h5
      have c5 := h1.cell 0
      have f5 := h1.free 0
      gi_wp2
      have hK' := (KeepsOthers.setCell X ⟨B + 1, 0, none⟩ (.int .i64 0)).same D _ hK rfl
      refine ⟨by simp, .inl ⟨_, _, rfl, run_takeDeferred hK', ?_⟩⟩
      have hc5 := cell_kept ((h1.set 0 (.int .i64 0)).cell 0) (grownBy_putObj' _ D (.deferred none)) (fun r e => by cases e; exact ⟨_, hK', rfl⟩)
      simp at hc5
      refine ⟨.int .i64 0, by simp [results, Tryz.f39, go_sem, hc5], by rw [← HD.out, if_pos hall], ?_⟩
      rw [hB]
      exact (h3.setCell (p := ⟨B + 1, 0, none⟩) (by show B ≤ B + 1; omega) _).trans (belowK_b (n₀ := B) (w := w) (by omega) _ D _ _ (by omega) hK' rfl rfl)
    case stop =>
      rintro D c pre X hD ⟨k, hk, hup⟩ ⟨rfl, h1, ⟨x, hx, hbad⟩, h3⟩ hK
      have hall : ¬ qs.all okQ = true := by
        intro h
        rw [List.all_eq_true] at h
        have hk2 : x.val < qs.length := by rw [← HEL.out]; exact x.isLt
        rw [List.getElem?_eq_getElem hk2] at hbad
        have := h _ (List.getElem_mem hk2)
        simp only [Option.getD_some] at hbad
        rw [hbad] at this
        cases this
      gi_wp2
      refine ⟨by simp, .inl ⟨_, _, rfl, run_takeDeferred hK, ?_⟩⟩
      have hc5 := cell_kept (h1.cell 0) (grownBy_putObj' _ D (.deferred none)) (fun r e => by cases e; exact ⟨_, hK, rfl⟩)
      simp at hc5
      refine ⟨.int .i64 6, by simp [results, Tryz.f39, go_sem, hc5], by rw [← HD.out, if_neg hall], ?_⟩
      rw [hB]
      exact h3.trans (belowK_b (n₀ := B) (w := w) (by omega) _ D _ _ (by omega) hK rfl rfl)
  · have hn : (c != 0) = true := by simp [h0]
    rw [mayT_make (by rw [hc]; exact h0), hc]
    have R3 : Row (W2.setCell ⟨B + 1, 0, none⟩ (.int .i64 c)) (B + 1) 29 #[.int .i64 c] := R1.set 0 _
    have y0 := R3.cell 0
    go_enter Tryz.func39, Tryz.ntmps39
    go_wp2_with (go_at_call 83; refine hr.mono ?_; rintro e w1 ⟨rfl, rfl⟩)
    simp at y0
    refine bodyPost_ret (v := .int .i64 c) (by simp [results, Tryz.results39, go_sem, y0]) rfl ⟨rfl, ?_⟩
    rw [hB]
    exact hb2.setCell (p := ⟨B + 1, 0, none⟩) (by show B ≤ B + 1; omega) _
end
section
open Go.RowKit Go.Shelf
attribute [local go_sem] Oper.semAt_some
set_option linter.unusedVariables false
set_option linter.unusedSimpArgs false
theorem sgR_same (x y : Rat) : (sgR (x - y) == 0) = decide (x = y) := by
  by_cases h : x = y
  · subst h
    rw [decide_eq_true rfl, show x - x = 0 by grind]
    rfl
  · rw [decide_eq_false h]
    have : sgR (x - y) ≠ 0 := fun e => h (by have := (sgR_zero _).1 e; grind)
    simpa using this
theorem sameX_any {n : Nat} {w : World} {u v : Value} {p q : Q3} (hu : RawQ w u p) (hv : RawQ w v q) (h1 : p.num.length ≤ n ∧ p.den.length ≤ n) (h2 : q.num.length ≤ n ∧ q.den.length ≤ n) (hn : n ≤ 16777000) :
    Calls Tryz.prog 81 #[u, v] w fun e w' => e = .returned (.bool (decide (p.rat = q.rat))) ∧ Below w.heap.size w w' := by
  have h := sameQ_any (hu.arg h1.1 h1.2) (hv.arg h2.1 h2.2) hn
  rw [sgR_same] at h
  exact h
set_option maxRecDepth 100000 in
set_option maxHeartbeats 8000000 in
theorem sameT7_any {n : Nat} {w : World} {u v : Value} {s1 s2 : List Int} {q1 q2 : List Q3} {a1 b1 a2 b2 : Option Addr} {ca1 cb1 ca2 cb2 : Nat} (T1 : TensQ w u s1 q1 a1 ca1 b1 cb1) (T2 : TensQ w v s2 q2 a2 ca2 b2 cb2) (hs1 : s1.length ≤ 1048576) (hs2 : s2.length ≤ 1048576) (hq1 : q1.length ≤ 1048576) (hq2 : q2.length ≤ 1048576) (hl1 : lensQ q1 n) (hl2 : lensQ q2 n) (hn : n ≤ 4000000) :
    Calls Tryz.prog 37 #[u, v] w fun e w' => e = .returned (.bool (allBC (fun (p q : Q3) => decide (p.rat = q.rat)) s1 s2 q1 q2)) ∧ Below w.heap.size w w' := by
  obtain rfl := T1.is
  obtain rfl := T2.is
  obtain ⟨B, hB⟩ : ∃ B, w.heap.size = B := ⟨_, rfl⟩
  obtain ⟨W1, hW1⟩ : ∃ W1, w.alloc (.cells #[.slice a1 s1.length ca1, .slice b1 q1.length cb1] 26) = W1 := ⟨_, rfl⟩
  obtain ⟨W2, hW2⟩ : ∃ W2, W1.alloc (.cells #[.slice a2 s2.length ca2, .slice b2 q2.length cb2] 26) = W2 := ⟨_, rfl⟩
  obtain ⟨W3, hW3⟩ : ∃ W3, W2.alloc (.cells #[.bool false] 4) = W3 := ⟨_, rfl⟩
  have s1' : W1.heap.size = B + 1 := by rw [← hW1, ← hB]; simp
  have s2' : W2.heap.size = B + 1 + 1 := by rw [← hW2, World.size_alloc, s1']
  have s3' : W3.heap.size = B + 1 + 1 + 1 := by rw [← hW3, World.size_alloc, s2']
  have R0 : Row W3 B 26 #[.slice a1 s1.length ca1, .slice b1 q1.length cb1] := by rw [← hW3, ← hW2, ← hW1, ← hB]; exact ((Row.new _ _ _).alloc _).alloc _
  have R1 : Row W3 (B + 1) 26 #[.slice a2 s2.length ca2, .slice b2 q2.length cb2] := by rw [← hW3, ← hW2, ← s1']; exact (Row.new _ _ _).alloc _
  have R2 : Row W3 (B + 1 + 1) 4 #[.bool false] := by rw [← hW3, ← s2']; exact Row.new _ _ _
  have hb2 : Below B w W3 := by rw [← hW3, ← hW2, ← hW1]; exact (((Below.refl _ w).alloc (by omega) _).alloc (by simp; omega) _).alloc (by simp; omega) _
  have U1 := T1.later (by rw [hB]; exact hb2)
  have U2 := T2.later (by rw [hB]; exact hb2)
  have hsame := sameS_any U1.sh U2.sh T1.nila T2.nila (by omega) (by omega)
  obtain ⟨t, ht⟩ : ∃ t, decide (s1 = s2) = t := ⟨_, rfl⟩
  rw [ht] at hsame
  obtain ⟨dd, hdd⟩ : ∃ d, allBC (fun (p q : Q3) => decide (p.rat = q.rat)) s1 s2 q1 q2 = d := ⟨_, rfl⟩
  rw [hdd]
  have HD := Lib.hid hdd
  have HT1 := Lib.hid T1
  have HT2 := Lib.hid T2
  have HL1 := Lib.hid hl1
  have HL2 := Lib.hid hl2
  obtain ⟨c0, c1, _, _⟩ := R0.two
  obtain ⟨c2, c3, _, _⟩ := R1.two
  clear T1 T2 U1 U2 hl1 hl2 hdd
  by_cases hgo : s1 = s2 ∧ q1.length = q2.length
  · obtain ⟨hs, hlen⟩ := hgo
    have htt : t = true := by rw [← ht]; exact decide_eq_true hs
    subst htt
    obtain ⟨es, hlim1, hall1⟩ := HT1.out.el.limE
    obtain ⟨fs, hlim2, hall2⟩ := HT2.out.el.limE
    have hsh1 : ShE es := shE_of hall1 (fun v x h => h.form)
    have hsh2 : ShE fs := shE_of hall2 (fun v x h => h.form)
    have hel1 : es.length = q1.length := hall1.1
    have hel2 : fs.length = es.length := by rw [hall2.1, ← hlen, hall1.1]
    have HA1 := Lib.hid hall1
    have HA2 := Lib.hid hall2
    have HS := Lib.hid hs
    have HLEN := Lib.hid hlen
    have HEL1 := Lib.hid hel1
    have HEL2 := Lib.hid hel2
    rw [hB] at hlim1 hlim2
    rw [← hlen, ← hel1] at R1 c3 hW2
    rw [← hel1] at R0 c1 hW1 hq1
    have hW2' := Lib.hid hW2
    rw [← hlen, ← hel1]
    clear hall1 hall2 hs hlen hel1 hel2 ht
    obtain ⟨n', hn'⟩ : ∃ n' : Nat, Hid (3 ≤ n') := ⟨3, Nat.le_refl 3⟩
    refine (callsIn_wide (n := n')).1 ?_
    refine callsIn_of_wp_marks Tryz.func37 rfl trivial ?_ rfl
    simp only [Tryz.ntmps37, List.size_toArray, List.length_cons, List.length_nil, Nat.reduceAdd, Nat.reduceSub, Array.replicate_succ, Array.replicate_zero, List.push_toArray, List.append_toArray, List.nil_append, List.cons_append]
    gi_wp2_with fail
    refine wideCall (hsame.mono ?_)
    rintro e w4 ⟨rfl, b4⟩
    have b0 : Below W3.heap.size W3 w4.drew := b4.drew
    have s4 := b4.size
    obtain ⟨k0, k1, _, _⟩ := (R0.later b4).two
    obtain ⟨k2, k3, _, _⟩ := (R1.later b4).two
    gi_wp2_with fail
    have mkS : ∀ Y, Below W3.heap.size W3 Y → Y.cell? ⟨B, 0, none⟩ = some (.slice a1 s1.length ca1) ∧ Y.cell? ⟨B, 1, none⟩ = some (.slice b1 es.length cb1) ∧ Y.cell? ⟨B + 1, 0, none⟩ = some (.slice a2 s2.length ca2) ∧ Y.cell? ⟨B + 1, 1, none⟩ = some (.slice b2 es.length cb2) := fun Y hb => by
      obtain ⟨x0, x1, _⟩ := (R0.later hb).two
      obtain ⟨x2, x3, _⟩ := (R1.later hb).two
      exact ⟨x0, x1, x2, x3⟩
    refine region_wide (fun Y => Y.cell? ⟨B, 0, none⟩ = some (.slice a1 s1.length ca1) ∧ Y.cell? ⟨B, 1, none⟩ = some (.slice b1 es.length cb1) ∧ Y.cell? ⟨B + 1, 0, none⟩ = some (.slice a2 s2.length ca2) ∧ Y.cell? ⟨B + 1, 1, none⟩ = some (.slice b2 es.length cb2)) (by kernel_rfl) (by kernel_rfl) (mkS _ b0) (fun hHeld => ?_)
    refine todo [0, 2] ?_
    iterate 2
     refine todoH (v := ?_) rfl (by kernel_rfl) (fun _ _ _ h => h) (by assumption) (Or.inl ⟨by rfl, ?_⟩) ?_
     rotate_left
     · intro w hSw; (try dsimp only at hSw); go_simp; (try with_reducible rfl)
     try simp only [Act.put, List.getElem_toArray, List.getElem_cons_succ, List.getElem_cons_zero, List.setIfInBounds_toArray, List.set_cons_zero, List.set_cons_succ]
    refine todone ?_
    refine wpAnyH_ready (rs := [1]) (by kernel_rfl) (by simp) ?_
    refine AllReadyH.cons rfl (fun K hK => ?sc1) AllReadyH.nil
    go_simp
    refine (elements_any _ _ _ _ _ _ _).mono ?_
    rintro e w5 ⟨rfl, b5⟩
    go_simp
    have b05 : Below W3.heap.size W3 w5 := b0.trans (b5.mono (by show W3.heap.size ≤ w4.heap.size; omega))
    have s5 := b05.size
    refine hK.out _ _ ?kc1 (fun hHeld => ?mc1)
    case kc1 =>
      try dsimp only
      exact mkS _ b05
    clear hK K
    try simp only [Act.put, List.setIfInBounds_toArray, List.set_cons_zero, List.set_cons_succ]
    refine wpAnyH_ready (rs := [3]) (by kernel_rfl) (by simp) ?_
    refine AllReadyH.cons rfl (fun K hK => ?sc3) AllReadyH.nil
    go_simp
    refine (elements_any _ _ _ _ _ _ _).mono ?_
    rintro e w6 ⟨rfl, b6⟩
    go_simp
    have b06 : Below W3.heap.size W3 w6 := b05.trans (b6.mono (by omega))
    have s6 := b06.size
    refine hK.out _ _ ?kc3 (fun hHeld => ?mc3)
    case kc3 =>
      try dsimp only
      exact mkS _ b06
    clear hK K
    try simp only [Act.put, List.setIfInBounds_toArray, List.set_cons_zero, List.set_cons_succ]
    refine wpAnyH_ready (rs := [4]) (by kernel_rfl) (by simp) ?_
    refine AllReadyH.cons rfl (fun K hK => ?sc4) AllReadyH.nil
    go_simp
    refine (besideQ_any _ _ _ _ _ _ _).mono ?_
    rintro e w7 ⟨rfl, rfl⟩
    go_simp
    have b07 : Below W3.heap.size W3 ((w6.alloc (.cells #[.slice b1 es.length cb1] 95)).alloc (.cells #[.slice b2 es.length cb2] 95)) := (b06.alloc (by omega) _).alloc (by simp; omega) _
    refine hK.out _ _ ?kc4 (fun hHeld => ?mc4)
    case kc4 =>
      try dsimp only
      exact mkS _ b07
    clear hK K
    try simp only [Act.put, List.setIfInBounds_toArray, List.set_cons_zero, List.set_cons_succ]
    refine wpAnyH_done (by kernel_rfl) ?_ _
    dsimp only [Straight]
    gi_wp2_with fail
    obtain ⟨I, hI⟩ : ∃ I, w6.heap.size = I := ⟨_, rfl⟩
    obtain ⟨V1, hV1⟩ : ∃ V1, w6.alloc (.cells #[.slice b1 es.length cb1] 95) = V1 := ⟨_, rfl⟩
    obtain ⟨V, hV⟩ : ∃ V, V1.alloc (.cells #[.slice b2 es.length cb2] 95) = V := ⟨_, rfl⟩
    rw [hV1, hV] at b07
    have sV1 : V1.heap.size = I + 1 := by rw [← hV1, World.size_alloc, hI]
    have sV : V.heap.size = I + 1 + 1 := by rw [← hV, World.size_alloc, sV1]
    have d5 : Boxed V I 95 (.slice b1 es.length cb1) := by rw [← hV, ← hV1, ← hI]; exact (Boxed.new _ _ _).alloc _
    have d6 : Boxed V (I + 1) 95 (.slice b2 fs.length cb2) := by
      have h := Boxed.new V1 95 (.slice b2 es.length cb2)
      rw [sV1, hV] at h
      rw [HEL2.out]; exact h
    have e2 := R2.later b07
    have hbV : Below B w V := hb2.trans (b07.mono (by omega))
    simp only [hI, hV1, hV]
    have h3 : 3 ≤ n' := hn'
    have hI3 : B + 1 + 1 + 1 ≤ I := by have : W3.heap.size ≤ w6.heap.size := b06.size; omega
    clear hV hV1
    refine wpIn_rangeFunc_ownH (F := Fence.wide) (n := n') rfl (by omega) (gf := 120) (lb := #[.pointer (some ⟨I, 0, none⟩), .pointer (some ⟨I + 1, 0, none⟩)]) rfl trivial (enters_of Tryz.func120 (by kernel_rfl) rfl)
      (besideQ_stops (n' - 1) I B b1 b2 es fs cb1 cb2 (by omega) HEL2.out V (by omega) (by omega) d5.cell d6.cell (hlim1.below hbV) (hlim2.below hbV) hsh1 hsh2) KpS.trans (KpS.b (by omega) (by omega)) (Below.refl _ _) (fun _ => rfl)
      (fun (pre : List (Fin es.length)) X => Row X (B + 1 + 1) 4 #[.bool false] ∧ (∀ x ∈ pre, (q1[x.val]?.getD ⟨false, [], []⟩).rat = (q2[x.val]?.getD ⟨false, [], []⟩).rat) ∧ Below B w X ∧ I + 1 + 1 ≤ X.heap.size)
      (fun c pre X => c = .ret ∧ Row X (B + 1 + 1) 4 #[.bool false] ∧ (∃ x ∈ pre, (q1[x.val]?.getD ⟨false, [], []⟩).rat ≠ (q2[x.val]?.getD ⟨false, [], []⟩).rat) ∧ Below B w X)
      (fun pre X Y row ⟨h1, h2, h3, h4⟩ hg hr => ⟨h1.keepC (KeepC.grown hg (fun r e => (hr r e).2)), h2, h3.grown hg (by have := h3.size; omega) (fun k e => by have := (hr k e).1; omega), Nat.le_trans h4 hg.size⟩)
      (fun c pre X Y row ⟨h0, h1, h2, h3⟩ hg hr => ⟨h0, h1.keepC (KeepC.grown hg (fun r e => (hr r e).2)), h2, h3.grown hg (by have := h3.size; omega) (fun k e => by have := (hr k e).1; omega)⟩)
      ⟨e2, (fun x h => by cases h), hbV, by omega⟩
      (fun (x : Fin es.length) a' X => ∃ p1 p2, I + 1 + 1 ≤ p1 ∧ I + 1 + 1 ≤ p2 ∧ Row X p1 51 #[(es[x.val]?.getD dfE).a, (es[x.val]?.getD dfE).b, (es[x.val]?.getD dfE).c] ∧ Row X p2 51 #[(fs[x.val]?.getD dfE).a, (fs[x.val]?.getD dfE).b, (fs[x.val]?.getD dfE).c] ∧
        a' = { tmps := #[.agg #[.slice a1 s1.length ca1, .slice b1 es.length cb1], .agg #[.slice a2 s2.length ca2, .slice b2 es.length cb2], .pointer (some ⟨B, 0, none⟩), .pointer (some ⟨B + 1, 0, none⟩), .pointer (some ⟨B + 1 + 1, 0, none⟩), .pointer (some ⟨p1, 0, none⟩), .pointer (some ⟨p2, 0, none⟩),
          .pointer (some ⟨B, 0, none⟩), .slice a1 s1.length ca1, .pointer (some ⟨B + 1, 0, none⟩), .slice a2 s2.length ca2, .bool true, .bool false, .bool false, .pointer (some ⟨B, 1, none⟩), .slice b1 es.length cb1, .int .i64 es.length, .pointer (some ⟨B + 1, 1, none⟩), .slice b2 es.length cb2, .int .i64 es.length, .bool false, .bool false,
          .agg #[.slice a1 s1.length ca1, .slice b1 es.length cb1], .slice b1 es.length cb1, .agg #[.slice a2 s2.length ca2, .slice b2 es.length cb2], .slice b2 es.length cb2,
          .func (.func 120) #[] #[.pointer (some ⟨I, 0, none⟩), .pointer (some ⟨I + 1, 0, none⟩)], .agg #[(es[x.val]?.getD dfE).a, (es[x.val]?.getD dfE).b, (es[x.val]?.getD dfE).c], .agg #[(fs[x.val]?.getD dfE).a, (fs[x.val]?.getD dfE).b, (fs[x.val]?.getD dfE).c], undef, undef, undef, undef], defers := [] })
      (fun x a' _ X Y row ⟨p1, p2, g1, g2, h1, h2, h3⟩ hg hr => ⟨p1, p2, g1, g2, h1.keepC (KeepC.grown hg (fun r e => (hr r e).2)), h2.keepC (KeepC.grown hg (fun r e => (hr r e).2)), h3⟩)
      ?assign ?body ?done ?stop
    case assign =>
      rintro l pre ⟨k, hk⟩ X K ⟨h1, h2, h3, h4⟩ hK
      obtain ⟨z1, z2, z3, z4, z5, z6, z7, he⟩ := hsh1 k hk
      obtain ⟨y1, y2, y3, y4, y5, y6, y7, hf⟩ := hsh2 k (by rw [HEL2.out]; exact hk)
      have hs3 := h3.size
      have hbX1 : Below X.heap.size X (X.alloc (.cells #[.bool z1, .slice z2 z3 z4, .slice z5 z6 z7] 51)) := (Below.refl _ _).alloc (Nat.le_refl _) _
      have hbX : Below X.heap.size X ((X.alloc (.cells #[.bool z1, .slice z2 z3 z4, .slice z5 z6 z7] 51)).alloc (.cells #[.bool y1, .slice y2 y3 y4, .slice y5 y6 y7] 51)) := hbX1.alloc (by simp) _
      have kk := KeepC.below hbX
      have HK := Lib.hid hK
      simp only [ratsAt]
      rw [he, hf]
      simp only
      clear hK
      gi_wp2
      refine HK.out _ _ (keepsFrom_below hbX) ⟨hbX.mono (by omega), hbX.block (I + 1) (by omega)⟩ ⟨h1.keepC kk, h2, h3.trans (hbX.mono (by omega)), by simp; omega⟩ ⟨X.heap.size, X.heap.size + 1, h4, by omega, ?_, ?_, ?_⟩
      · simp only [he]; exact (Row.new _ _ _).alloc _
      · simp only [hf]
        have h := Row.new (X.alloc (.cells #[.bool z1, .slice z2 z3 z4, .slice z5 z6 z7] 51)) 51 #[.bool y1, .slice y2 y3 y4, .slice y5 y6 y7]
        simp only [World.size_alloc] at h
        exact h
      · simp only [he, hf]
    case body =>
      rintro l pre ⟨k, hk⟩ a' X hl hrec ⟨h1, h2, h3, h4⟩ ⟨p1, p2, hp1, hp2, hR, hR', rfl⟩ hlt
      have hkf : k < fs.length := by rw [HEL2.out]; exact hk
      obtain ⟨z1, z2, z3, z4, z5, z6, z7, he⟩ := hsh1 k hk
      obtain ⟨y1, y2, y3, y4, y5, y6, y7, hf⟩ := hsh2 k hkf
      simp only at hR hR' ⊢
      rw [he] at hR ⊢
      rw [hf] at hR' ⊢
      simp only at hR hR' ⊢
      have hkq : k < q1.length := by rw [← HEL1.out]; exact hk
      have hkq2 : k < q2.length := by rw [← HLEN.out]; exact hkq
      have hqk : q1[k]? = some q1[k] := List.getElem?_eq_getElem hkq
      have hqk2 : q2[k]? = some q2[k] := List.getElem?_eq_getElem hkq2
      obtain ⟨p, hpe⟩ : ∃ q, q1[k] = q := ⟨_, rfl⟩
      obtain ⟨q, hqe⟩ : ∃ q, q2[k] = q := ⟨_, rfl⟩
      rw [hpe] at hqk
      rw [hqe] at hqk2
      have hek : es[k]? = some es[k] := List.getElem?_eq_getElem hk
      have hfk : fs[k]? = some fs[k] := List.getElem?_eq_getElem hkf
      have hraw := HA1.out.2 k _ _ hek hqk
      have hraw2 := HA2.out.2 k _ _ hfk hqk2
      have e2 : es[k] = ⟨.bool z1, .slice z2 z3 z4, .slice z5 z6 z7⟩ := by rw [hek] at he; exact he
      have f2 : fs[k] = ⟨.bool y1, .slice y2 y3 y4, .slice y5 y6 y7⟩ := by rw [hfk] at hf; exact hf
      rw [e2] at hraw
      rw [f2] at hraw2
      have hlq := HL1.out p (List.mem_of_getElem? hqk)
      have hlq2 := HL2.out q (List.mem_of_getElem? hqk2)
      have hgd : q1[k]?.getD ⟨false, [], []⟩ = p := by rw [hqk]; rfl
      have hgd2 : q2[k]?.getD ⟨false, [], []⟩ = q := by rw [hqk2]; rfl
      obtain ⟨g0, g1, g2, _, _, _⟩ := hR.three
      obtain ⟨j0, j1, j2, _, _, _⟩ := hR'.three
      have hs3 := h3.size
      have hrX := hraw.later (hB.symm ▸ h3 : Below w.heap.size w X)
      have hrX2 := hraw2.later (hB.symm ▸ h3 : Below w.heap.size w X)
      gi_wp2_with fail
      refine roundCall ((sameX_any hrX hrX2 hlq hlq2 (by omega)).mono ?_)
      rintro e w8 ⟨rfl, b8⟩
      have s8 := b8.size
      have R8 := h1.later b8
      have f8 := R8.free 0
      have d8 := R8.cell 0
      by_cases hok : p.rat = q.rat
      · rw [decide_eq_true hok]
        gi_wp2
        refine ⟨keepsFrom_below b8, ⟨b8.mono (by omega), b8.block (I + 1) (by omega)⟩, R8, fun x hx => ?_, h3.trans (b8.mono (by omega)), by omega⟩
        rcases List.mem_append.1 hx with hx | hx
        · exact h2 x hx
        · simp at hx
          subst hx
          simp only
          rw [hgd, hgd2]
          exact hok
      · rw [decide_eq_false hok]
        have R9 : Row (w8.setCell ⟨B + 1 + 1, 0, none⟩ (.bool false)) (B + 1 + 1) 4 #[.bool false] := R8.set 0 _
        gi_wp2
        refine ⟨keepsFrom_set (keepsFrom_below b8) _ _, rfl, R9, ⟨_, List.mem_append_right _ (List.mem_singleton.2 rfl), ?_⟩, (h3.trans (b8.mono (by omega))).setCell (by show B ≤ B + 1 + 1; omega) _⟩
        show (q1[k]?.getD ⟨false, [], []⟩).rat ≠ (q2[k]?.getD ⟨false, [], []⟩).rat
        rw [hgd, hgd2]
        exact hok
    case done =>
      rintro D ys X hD hup ⟨h1, h2, h3, h4⟩ hK
      have hd : dd = true := by
        rw [← HD.out]
        refine allBC_yes HS.out HLEN.out fun k x y hx hy => ?_
        have hk1 : k < q1.length := by
          rcases Nat.lt_or_ge k q1.length with g | g
          · exact g
          · rw [List.getElem?_eq_none g] at hx; cases hx
        have hk2 : k < es.length := by rw [HEL1.out]; exact hk1
        have hm : (⟨k, hk2⟩ : Fin es.length) ∈ ys := by
          have h5 : k ∈ ys.map Fin.val := by rw [show ys.map Fin.val = List.range es.length from hup]; exact List.mem_range.2 hk2
          obtain ⟨z, hz, hv⟩ := List.mem_map.1 h5
          have : z = ⟨k, hk2⟩ := Fin.ext hv
          rw [← this]
          exact hz
        have h5 := h2 _ hm
        simp only at h5
        rw [hx, hy] at h5
        exact decide_eq_true h5
      subst hd
      have c5 := h1.cell 0
      have f5 := h1.free 0
      gi_wp2
      have hK' := (KeepsOthers.setCell X ⟨B + 1 + 1, 0, none⟩ (.bool true)).same D _ hK rfl
      refine ⟨by simp, .inl ⟨_, _, rfl, run_takeDeferred hK', ?_⟩⟩
      have hc5 := cell_kept ((h1.set 0 (.bool true)).cell 0) (grownBy_putObj' _ D (.deferred none)) (fun r e => by cases e; exact ⟨_, hK', rfl⟩)
      simp at hc5
      refine ⟨.bool true, by simp [results, Tryz.f37, go_sem, hc5], rfl, ?_⟩
      rw [hB]
      exact (h3.setCell (p := ⟨B + 1 + 1, 0, none⟩) (by show B ≤ B + 1 + 1; omega) _).trans (belowK_b (n₀ := B) (w := w) (by omega) _ D _ _ (by omega) hK' rfl rfl)
    case stop =>
      rintro D c pre X hD ⟨k, hk, hup⟩ ⟨rfl, h1, ⟨x, hx, hbad⟩, h3⟩ hK
      have hd : dd = false := by
        rw [← HD.out]
        refine allBC_no fun ⟨_, _, h⟩ => hbad ?_
        have hk1 : x.val < q1.length := by rw [← HEL1.out]; exact x.isLt
        have hk2 : x.val < q2.length := by rw [← HLEN.out]; exact hk1
        rw [List.getElem?_eq_getElem hk1, List.getElem?_eq_getElem hk2]
        exact of_decide_eq_true (h x.val _ _ (List.getElem?_eq_getElem hk1) (List.getElem?_eq_getElem hk2))
      subst hd
      gi_wp2
      refine ⟨by simp, .inl ⟨_, _, rfl, run_takeDeferred hK, ?_⟩⟩
      have hc5 := cell_kept (h1.cell 0) (grownBy_putObj' _ D (.deferred none)) (fun r e => by cases e; exact ⟨_, hK, rfl⟩)
      simp at hc5
      refine ⟨.bool false, by simp [results, Tryz.f37, go_sem, hc5], rfl, ?_⟩
      rw [hB]
      exact h3.trans (belowK_b (n₀ := B) (w := w) (by omega) _ D _ _ (by omega) hK rfl rfl)
  · have hd : dd = false := by
      rw [← HD.out]
      exact allBC_no fun ⟨h1, h2, _⟩ => hgo ⟨h1, h2⟩
    subst hd
    by_cases hs : s1 = s2
    · have htt : t = true := by rw [← ht]; exact decide_eq_true hs
      have hne : q1.length ≠ q2.length := fun e => hgo ⟨hs, e⟩
      have hn1 : ((q1.length : Int) != (q2.length : Int)) = true := by simp; omega
      subst htt
      clear hs ht hgo
      go_enter Tryz.func37, Tryz.ntmps37
      go_wp2_with fail
      refine hsame.mono ?_
      rintro e w4 ⟨rfl, b4⟩
      obtain ⟨k0, k1, _, _⟩ := (R0.later b4).two
      obtain ⟨k2, k3, _, _⟩ := (R1.later b4).two
      have R4 := R2.later b4
      have f4 := R4.free 0
      have x4 := R4.cell 0
      have R5 : Row (w4.setCell ⟨B + 1 + 1, 0, none⟩ (.bool false)) (B + 1 + 1) 4 #[.bool false] := R4.set 0 _
      have y4 := R5.cell 0
      simp at y4
      clear R5
      go_wp2_with fail
      refine bodyPost_ret (v := .bool false) (by simp [results, Tryz.results37, go_sem, y4]) rfl ⟨rfl, ?_⟩
      rw [hB]
      exact (hb2.trans (b4.mono (by omega))).setCell (p := ⟨B + 1 + 1, 0, none⟩) (by show B ≤ B + 1 + 1; omega) _
    · have htt : t = false := by rw [← ht]; exact decide_eq_false hs
      subst htt
      go_enter Tryz.func37, Tryz.ntmps37
      go_wp2_with fail
      refine hsame.mono ?_
      rintro e w4 ⟨rfl, b4⟩
      have R4 := R2.later b4
      have f4 := R4.free 0
      have x4 := R4.cell 0
      have R5 : Row (w4.setCell ⟨B + 1 + 1, 0, none⟩ (.bool false)) (B + 1 + 1) 4 #[.bool false] := R4.set 0 _
      have y4 := R5.cell 0
      simp at y4
      clear R5
      go_wp2_with fail
      refine bodyPost_ret (v := .bool false) (by simp [results, Tryz.results37, go_sem, y4]) rfl ⟨rfl, ?_⟩
      rw [hB]
      exact (hb2.trans (b4.mono (by omega))).setCell (p := ⟨B + 1 + 1, 0, none⟩) (by show B ≤ B + 1 + 1; omega) _
end
section
open Go.RowKit Go.ChangeShapes Go.WideShapes Go.ChangeAt Go.Joins Go.Deep
set_option linter.unusedVariables false
set_option linter.unusedSimpArgs false
set_option maxRecDepth 100000
theorem afterSet2 {K : World → Prop} {V : World} {g : Nat} {t : TypeId} {a b x y : Value} (R : Row V g t #[a, b]) (h : ∀ X, Only g V X → Row X g t #[x, y] → K X) :
    K ((V.setCell ⟨g, 0, none⟩ x).setCell ⟨g, 1, none⟩ y) :=
  h _ ((Only.set V g 0 x).trans (Only.set _ g 1 y)) (R.set2 x y)
/-- what Dot answers -/
def DotQ (base : Nat) (w : World) (r : Value) (x : Rat) (n : Nat) (c : Int) : Prop := (c = 0 → ResQ base w r x n) ∧ (c ≠ 0 → r = noRat)
theorem DotQ.later {base n : Nat} {w w' : World} {r : Value} {x : Rat} {c : Int} (h : DotQ base w r x n c) (hb : Below w.heap.size w w') : DotQ base w' r x n c := ⟨fun k => (h.1 k).later hb, h.2⟩
theorem DotQ.only {base n g : Nat} {w w' : World} {r : Value} {x : Rat} {c : Int} {cs : Array Value} (h : DotQ base w r x n c) (R : Row w g 51 cs) (k : Only g w w') : DotQ base w' r x n c := ⟨fun e => (h.1 e).only R k, h.2⟩
theorem DotQ.shape {base n : Nat} {w : World} {r : Value} {x : Rat} {c : Int} (h : DotQ base w r x n c) : ∃ m f1 l1 j1 f2 l2 j2, r = .agg #[.bool m, .slice f1 l1 j1, .slice f2 l2 j2] ∧ (c ≠ 0 → l1 = 0 ∧ l2 = 0) := by
  by_cases hc : c = 0
  · obtain ⟨m, a, b, d, e, f, g, rfl⟩ := (h.1 hc).shape
    exact ⟨m, a, b, d, e, f, g, rfl, fun k => absurd hc k⟩
  · exact ⟨_, _, _, _, _, _, _, h.2 hc, fun _ => ⟨rfl, rfl⟩⟩
/-- what Full and Make answer -/
def TenC (base : Nat) (w : World) (r : Value) (s : List Int) (L : List Rat) (n : Nat) (c : Int) : Prop := (c = 0 → ResT base w r s L n) ∧ (c ≠ 0 → r = noTensor)
theorem TenC.later {base n : Nat} {w w' : World} {r : Value} {s : List Int} {L : List Rat} {c : Int} (h : TenC base w r s L n c) (hb : Below w.heap.size w w') : TenC base w' r s L n c := ⟨fun k => (h.1 k).later hb, h.2⟩
theorem TenC.only {base n g : Nat} {w w' : World} {r : Value} {s : List Int} {L : List Rat} {c : Int} {cs : Array Value} (h : TenC base w r s L n c) (R : Row w g 26 cs) (k : Only g w w') : TenC base w' r s L n c := ⟨fun e => (h.1 e).far R (by decide) (by decide) (by decide) k.block, h.2⟩
theorem TenC.shape {base n : Nat} {w : World} {r : Value} {s : List Int} {L : List Rat} {c : Int} (h : TenC base w r s L n c) : ∃ f1 l1 j1 f2 l2 j2, r = .agg #[.slice f1 l1 j1, .slice f2 l2 j2] ∧ (c ≠ 0 → l1 = 0 ∧ l2 = 0) := by
  by_cases hc : c = 0
  · obtain ⟨a, b, d, e, rfl, _, _⟩ := h.1 hc
    exact ⟨_, _, _, _, _, _, rfl, fun k => absurd hc k⟩
  · exact ⟨_, _, _, _, _, _, h.2 hc, fun _ => ⟨rfl, rfl⟩⟩
/-- a rational number, as it came in: it is no longer than its bulk -/
theorem open_ratQ {H : Type} {enc : TypeId × Value → H} {W : World} {v : Value} {d : DataW H} {p : List MemPlace} {base : Nat}
    (hval : Value.okWide Tryz.prog W .any base 51 v) (h : DataW.Trod enc Tryz.prog W 0 (fun _ => true) true 51 v d p) : ∃ q : Q3, RawQ W v q ∧ sizeQ q ≤ Rows.uptoBulk d := by
  obtain ⟨v0, v1, v2, y0, y1, y2, n, rfl, rfl, rfl, h0, h1, h2⟩ := open_agg3 Tryz.underlying51 (by kernel_rfl) cellsRat hval h
  obtain ⟨b, hb, _⟩ := DataW.trod_bool Tryz.underlying4 h0
  simp at hb
  subst hb
  obtain ⟨ad, xs, ca, rfl, A, lx, nx⟩ := open_natB h1
  obtain ⟨bd, ys, cb, rfl, B, ly, ny⟩ := open_natB h2
  refine ⟨⟨b, xs, ys⟩, ⟨ad, bd, ca, cb, rfl, A, B, nx, ny⟩, ?_⟩
  simp only [Rows.uptoBulk, Rows.uptoBulkAll, sizeQ]
  omega
end
section
open Go.RowKit
set_option linter.unusedVariables false
set_option linter.unusedSimpArgs false
/-- what the reference's Of answers, as it is handed in again -/
theorem ofT_tens {base n : Nat} {w : World} {a b : Option Addr} {ca cb m : Nat} {s : List Int} {L : List Rat} (hm : m = L.length) (S : ResS base w (.slice a s.length ca) s) (E : RowO base 56 (fun W v x => ResR base W v x n) w (.slice b m cb) L) :
    TensR w (.agg #[.slice a s.length ca, .slice b m cb]) s L n a ca b cb := by
  subst hm
  exact ⟨rfl, S.at_.2.1, S.at_.2.2, E.at_.2.1.imp (fun v x _ h => h.arg), E.at_.2.2⟩
end
section
open Go.RowKit
set_option linter.unusedVariables false
set_option linter.unusedSimpArgs false
/-- what a row of this type holds -/
def kindT (t : TypeId) : IntKind := if t = 64 then .u32 else .i64
/-- only rows of limbs and of numbers from block G on were written to, and what was made since is new -/
def Loose (G : Nat) (X Y : World) : Prop := Below G X Y ∧ ∀ b, b < X.heap.size → Y.heap[b]? = X.heap[b]? ∨
  ∃ (c c' : Array Value) (t : TypeId), (t = 64 ∨ t = 3) ∧ X.heap[b]? = some (.cells c t (0, 0)) ∧ Y.heap[b]? = some (.cells c' t (0, 0)) ∧ ∀ (j : Nat) (z : Int), c[j]? = some (Value.int (kindT t) z) → ∃ z', c'[j]? = some (Value.int (kindT t) z')
theorem Loose.refl (G : Nat) (X : World) : Loose G X X := ⟨Below.refl _ _, fun _ _ => .inl rfl⟩
theorem Loose.of {G : Nat} {X Y : World} (h : Below X.heap.size X Y) (hG : G ≤ X.heap.size) : Loose G X Y := ⟨h.mono hG, fun b hb => .inl (h.block b hb)⟩
theorem Loose.trans {G : Nat} {X Y Z : World} (h : Loose G X Y) (k : Loose G Y Z) : Loose G X Z := by
  refine ⟨h.1.trans k.1, fun b hb => ?_⟩
  have hb2 : b < Y.heap.size := Nat.lt_of_lt_of_le hb h.1.size
  rcases h.2 b hb with e | ⟨c, c', t, ht, e1, e2, e3⟩
  · rcases k.2 b hb2 with f | ⟨d, d', s, hs, f1, f2, f3⟩
    · exact .inl (f.trans e)
    · exact .inr ⟨d, d', s, hs, e ▸ f1, f2, f3⟩
  · rcases k.2 b hb2 with f | ⟨d, d', s, hs, f1, f2, f3⟩
    · exact .inr ⟨c, c', t, ht, e1, f.trans e2, e3⟩
    · rw [e2] at f1
      cases f1
      refine .inr ⟨c, d', t, ht, e1, f2, fun j z hz => ?_⟩
      obtain ⟨z', hz'⟩ := e3 j z hz
      exact f3 j z' hz'
theorem Loose.set {G b k : Nat} {X : World} {t : TypeId} {cur : Array Value} {z : Int} (hb : G ≤ b) (h : X.heap[b]? = some (.cells cur t (0, 0))) (ht : t = 64 ∨ t = 3) : Loose G X (X.setCell ⟨b, k, none⟩ (.int (kindT t) z)) := by
  refine ⟨(Below.refl _ _).setCell (p := ⟨b, k, none⟩) hb _, fun i hi => ?_⟩
  by_cases e : i = b
  · subst e
    refine .inr ⟨cur, _, t, ht, h, heap_setCell_same X i k cur t (.int (kindT t) z) h, fun j y hj => ?_⟩
    rw [Array.getElem?_setIfInBounds]
    by_cases ek : k = j
    · subst ek
      rw [if_pos rfl, if_pos (Array.getElem?_eq_some_iff.1 hj).1]
      exact ⟨z, rfl⟩
    · rw [if_neg ek]
      exact ⟨y, hj⟩
  · exact .inl (Below.heap_setCell _ _ _ _ e)
theorem Loose.drew {G : Nat} {X Y : World} (h : Loose G X Y) : Loose G X Y.drew := ⟨h.1.drew, h.2⟩
theorem Loose.row {G g : Nat} {X Y : World} {t : TypeId} {cs : Array Value} (L : Loose G X Y) (R : Row X g t cs) (h1 : t ≠ 64) (h2 : t ≠ 3) : Row Y g t cs := by
  rcases L.2 g R.lt with e | ⟨c, c', s, hs, e1, _, _⟩
  · exact e.trans R
  · have := R.symm.trans e1
    cases this
    rcases hs with h | h
    · exact absurd h h1
    · exact absurd h h2
theorem Cellz.lowT {lo lo' g : Nat} {w : World} {v : Value} (h : Cellz lo g w v) (hl : lo' ≤ lo) : Cellz lo' g w v := by
  obtain ⟨ad, n, cap, rfl, hm, h⟩ := h
  refine ⟨ad, n, cap, rfl, hm, ?_⟩
  rcases h with h | ⟨b, cur, rfl, h1, h2, h3, h4⟩
  · exact .inl h
  · exact .inr ⟨b, cur, rfl, by omega, h2, h3, h4⟩
/-- the limbs of a number may be written to -/
def LootQ (G g : Nat) (w : World) (v : Value) : Prop := ∃ (p : Bool) (x y : Value), v = .agg #[.bool p, x, y] ∧ Cellz G g w x ∧ Cellz G g w y
theorem LootQ.mono {lo lo' g g' : Nat} {w : World} {v : Value} (h : LootQ lo g w v) (hl : lo' ≤ lo) (hg : g ≤ g') : LootQ lo' g' w v := by
  obtain ⟨p, x, y, rfl, h1, h2⟩ := h
  exact ⟨p, x, y, rfl, (h1.mono hg).lowT hl, (h2.mono hg).lowT hl⟩
end
section
open Go.RowKit
set_option linter.unusedVariables false
set_option linter.unusedSimpArgs false
/-- elements that may be written to -/
def LootE (G gl : Nat) (w : World) (v : Value) : Prop := ∃ (b : Option Addr) (m cap : Nat), v = .slice b m cap ∧ m ≤ maxLen ∧ (m = 0 ∨ ∃ (bb : Nat) (cs : Array Value), b = some ⟨bb, 0, none⟩ ∧ Row w bb 51 cs ∧
  ∀ k, k < m → ∃ x y, cs[k * 3 + 1]? = some x ∧ cs[k * 3 + 2]? = some y ∧ Cellz G gl w x ∧ Cellz G gl w y)
theorem LootE.mono {lo lo' g g' : Nat} {w : World} {v : Value} (h : LootE lo g w v) (hl : lo' ≤ lo) (hg : g ≤ g') : LootE lo' g' w v := by
  obtain ⟨b, m, cap, rfl, hm, h⟩ := h
  refine ⟨b, m, cap, rfl, hm, ?_⟩
  rcases h with h | ⟨bb, cs, rfl, R, hk⟩
  · exact .inl h
  · refine .inr ⟨bb, cs, rfl, R, fun k hlt => ?_⟩
    obtain ⟨x, y, h1, h2, h3, h4⟩ := hk k hlt
    exact ⟨x, y, h1, h2, (h3.mono hg).lowT hl, (h4.mono hg).lowT hl⟩
theorem CellzS.lowT {lo lo' g : Nat} {w : World} {v : Value} (h : CellzS lo g w v) (hl : lo' ≤ lo) : CellzS lo' g w v := by
  obtain ⟨ad, n, cap, rfl, hm, h⟩ := h
  refine ⟨ad, n, cap, rfl, hm, ?_⟩
  rcases h with h | ⟨b, cur, rfl, h1, h2, h3, h4⟩
  · exact .inl h
  · exact .inr ⟨b, cur, rfl, by omega, h2, h3, h4⟩
/-- a tensor that may be written to -/
def LootT (G gl : Nat) (w : World) (va vb : Value) : Prop := CellzS G gl w va ∧ LootE G gl w vb
theorem LootT.mono {lo lo' g g' : Nat} {w : World} {va vb : Value} (h : LootT lo g w va vb) (hl : lo' ≤ lo) (hg : g ≤ g') : LootT lo' g' w va vb := ⟨(h.1.mono hg).lowT hl, h.2.mono hl hg⟩
theorem LootT.kept {G gl gb : Nat} {w w' : World} {va vb : Value} {cs : Array Value} (h : LootT G gl w va vb) (K : Kept gb w w') (R : Row w gb 26 cs) : LootT G gl w' va vb := by
  have hne : ∀ {b : Nat} {t : TypeId} {c : Array Value}, w.heap[b]? = some (.cells c t (0, 0)) → t ≠ 26 → w'.heap[b]? = some (.cells c t (0, 0)) := fun {b t c} hb ht => by
    refine (K.block b (lt_of_block hb) fun e => ?_).trans hb
    subst e
    have := hb.symm.trans R
    simp only [Option.some.injEq, Obj.cells.injEq] at this
    exact ht this.2.1
  have hcz : ∀ {v : Value}, Cellz G gl w v → Cellz G gl w' v := fun {v} hv => by
    obtain ⟨ad, n, cap, rfl, hm, hv⟩ := hv
    refine ⟨ad, n, cap, rfl, hm, ?_⟩
    rcases hv with hv | ⟨b, cur, rfl, h1, h2, h3, h4⟩
    · exact .inl hv
    · exact .inr ⟨b, cur, rfl, h1, h2, hne h3 (by decide), h4⟩
  obtain ⟨hs, he⟩ := h
  constructor
  · obtain ⟨ad, n, cap, rfl, hm, hv⟩ := hs
    refine ⟨ad, n, cap, rfl, hm, ?_⟩
    rcases hv with hv | ⟨b, cur, rfl, h1, h2, h3, h4⟩
    · exact .inl hv
    · exact .inr ⟨b, cur, rfl, h1, h2, hne h3 (by decide), h4⟩
  · obtain ⟨b, m, cap, rfl, hm, he⟩ := he
    refine ⟨b, m, cap, rfl, hm, ?_⟩
    rcases he with he | ⟨bb, c, rfl, R2, hk⟩
    · exact .inl he
    · refine .inr ⟨bb, c, rfl, hne R2 (by decide), fun k hlt => ?_⟩
      obtain ⟨x, y, h1, h2, h3, h4⟩ := hk k hlt
      exact ⟨x, y, h1, h2, hcz h3, hcz h4⟩
/-- a list of tensors that may be written to -/
def Loots (G gl gb n : Nat) (w : World) (cs : Array Value) : Prop := Row w gb 26 cs ∧ ∀ i, i < n → ∃ va vb, cs[i * 2]? = some va ∧ cs[i * 2 + 1]? = some vb ∧ LootT G gl w va vb
theorem Loots.two {G gl : Nat} {w : World} {gb : Nat} {v0 v1 v2 v3 : Value} (R : Row w gb 26 #[v0, v1, v2, v3]) (h0 : LootT G gl w v0 v1) (h1 : LootT G gl w v2 v3) : Loots G gl gb 2 w #[v0, v1, v2, v3] :=
  ⟨R, fun i hi => by
    have hc : i = 0 ∨ i = 1 := by omega
    rcases hc with rfl | rfl
    · exact ⟨v0, v1, rfl, rfl, h0⟩
    · exact ⟨v2, v3, rfl, rfl, h1⟩⟩
theorem Loots.three {G gl B : Nat} {w : World} {v : Value} {v0 v1 v2 v3 v4 v5 : Value} (h : w.ownsRow B 26 2 v 3 [v0, v1, v2, v3, v4, v5]) (h0 : LootT G gl w v0 v1) (h1 : LootT G gl w v2 v3) (h2 : LootT G gl w v4 v5) :
    ∃ gb cap cs, v = .slice (some ⟨gb, 0, none⟩) 3 cap ∧ Loots G gl gb 3 w cs := by
  obtain ⟨_, hv⟩ := h
  rcases hv with ⟨_, hn⟩ | ⟨g, cap, cur, rfl, hb, hg, hc, hm, hs, ht⟩
  · cases hn
  · have hat : ∀ j, j < 6 → cur[j]? = [v0, v1, v2, v3, v4, v5][j]? := fun j hj => by
      have e1 : (cur.toList.take (3 * 2))[j]? = [v0, v1, v2, v3, v4, v5][j]? := by rw [ht]
      rw [List.getElem?_take, if_pos (by omega), Array.getElem?_toList] at e1
      exact e1
    refine ⟨g, cap, cur, rfl, hg, fun i hi => ?_⟩
    have hc : i = 0 ∨ i = 1 ∨ i = 2 := by omega
    rcases hc with rfl | rfl | rfl
    · exact ⟨v0, v1, hat 0 (by omega), hat 1 (by omega), h0⟩
    · exact ⟨v2, v3, hat 2 (by omega), hat 3 (by omega), h1⟩
    · exact ⟨v4, v5, hat 4 (by omega), hat 5 (by omega), h2⟩
end
end Go.Proofs.YtjcacmnmbbnffaaGreat
