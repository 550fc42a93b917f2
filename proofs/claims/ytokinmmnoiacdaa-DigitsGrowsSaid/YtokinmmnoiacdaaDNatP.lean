/-
  Package digits: Nat, Count.
-/
import Derived.Test.YtokinmmnoiacdaaDByte
import Derived.RangeFuncBox
import Derived.Laws.BytesArg
namespace Go.Proofs.Ytokinmmnoiacdaa
open Go.RowKit Go.Shelf
attribute [local go_sem] Oper.semAt_some
set_option linter.unusedVariables false
set_option linter.unusedSimpArgs false

theorem infoByteD : (Try.prog.info? 5).map (fun i => (i.zero, i.size, i.bytes)) = some (some (.int .u8 0), 1, 1) := by kernel_rfl

theorem backward_any (ad : Option Addr) (n cap : Nat) (w : World) :
    Calls Try.prog 38 #[.slice ad n cap] w fun e w' => e = .returned (.func (.func 63) #[] #[.pointer (some ⟨w.heap.size, 0, none⟩)]) ∧ w' = w.alloc (.cells #[.slice ad n cap] 23) := by
  go_enter Try.func38, Try.ntmps38
  go_wp2
  go_ret
  exact ⟨rfl, rfl⟩

theorem digits_stops (n Bs m0 : Nat) (F : World → Nat → Prop) (hF : Still F) (ad : Option Addr) (xs : List Int) (cap : Nat) (hm : xs.length ≤ 35184372088832) (hv : val xs = (m0 : Int)) (w : World) (hBs : Bs < w.heap.size)
    (hc : w.cell? ⟨Bs, 0, none⟩ = some (.slice ad xs.length cap)) (hA : Arg w (.slice ad xs.length cap) xs ad cap) (hO : Off F w ad xs) (hG : Good F w) :
    SeqStopsK Fence.wide n Try.prog 63 #[.pointer (some ⟨Bs, 0, none⟩)] (digAt m0 (N := (dec m0).length)) (Apart F) (fun ys => Upto ys (dec m0).length) (fun pre => ∃ k, k ≤ (dec m0).length ∧ Upto pre k) (dec m0).length w := fun l J Jx W hW hJ _ hY h0 =>
  digits1_in n l Bs m0 F hF ad xs cap hm hv J Jx (fun pre A B hj hb => hJ pre A B none hj ⟨hb.os, hb.tape, hb.output, hb.size, fun k hk _ => hb.block k hk⟩ (fun _ h => by cases h)) hY W ((hW.cell (p := ⟨Bs, 0, none⟩) hBs).trans hc) (hA.later hW) (hF.off hW hG hO) (hF.good hW hG) h0

theorem dec_len {m L : Nat} (h : m < 4294967296 ^ L) : (dec m).length ≤ 10 * L + 1 := by
  by_cases h0 : m = 0
  · subst h0; rw [dec_zero]; simp
  · have h1 := dec_ge m h0
    have h2 : 4294967296 ^ L ≤ 10 ^ (10 * L) := by rw [Nat.pow_mul]; exact Nat.pow_le_pow_left (by decide) L
    apply Nat.le_of_not_lt
    intro h3
    have h4 : 10 ^ (10 * L) ≤ 10 ^ ((dec m).length - 1) := Nat.pow_le_pow_right (by omega) (by omega)
    omega
theorem dec_len_val {xs : List Int} (h : Wf xs) {m : Nat} (hv : val xs = (m : Int)) : (dec m).length ≤ 10 * xs.length + 1 := by
  refine dec_len ?_
  have h1 := val_lt h
  rw [hv] at h1
  have e : ((4294967296 ^ xs.length : Nat) : Int) = 4294967296 ^ xs.length := by rw [Int.natCast_pow]; rfl
  rw [← e] at h1
  exact Int.ofNat_lt.1 h1

/-- a counter's box -/
def Box1 (B : Nat) : World → Nat → Prop := fun _ k => k = B
theorem Box1.still (B : Nat) : Still (Box1 B) := fun _ _ _ _ _ h => h
theorem Box1.apart {B : Nat} {W : World} (v : Value) : Apart (Box1 B) W (W.setCell ⟨B, 0, none⟩ v) :=
  ⟨by simp, fun k o hk _ hF => (Below.heap_setCell W ⟨B, 0, none⟩ v k hF).trans hk, fun _ _ h => h, fun hg k hk => by have := hg k hk; simpa using this⟩

set_option maxRecDepth 100000 in
set_option maxHeartbeats 2000000 in
theorem count4_any {u : Value} {xs : List Int} {a : Option Addr} {capa : Nat} {w : World} (h1 : Arg w u xs a capa) (hx : xs.length ≤ 1048576) :
    Calls Try.prog 16 #[u] w fun e w' => e = .returned (.int .i64 ((dec (val xs).toNat).length : Nat)) ∧ Below w.heap.size w w' := by
  obtain ⟨m0, hm0⟩ : ∃ m0 : Nat, val xs = (m0 : Int) := ⟨(val xs).toNat, by have := val_nonneg h1.wf; omega⟩
  have hlen := dec_len_val h1.wf hm0
  have e0 : (val xs).toNat = m0 := by omega
  rw [e0]
  obtain rfl := h1.is
  obtain ⟨n, hn⟩ : ∃ n : Nat, Hid (3 ≤ n) := ⟨3, Nat.le_refl 3⟩
  refine (callsIn_wide (n := n)).1 ?_
  refine callsIn_of_wp_marks Try.func16 rfl trivial ?_ rfl
  simp only [Try.ntmps16, List.size_toArray, List.length_cons, List.length_nil, Nat.reduceAdd, Nat.reduceSub, Array.replicate_succ, Array.replicate_zero, List.push_toArray, List.append_toArray, List.nil_append, List.cons_append]
  gi_wp2_with fail
  refine wideCall ((backward_any _ _ _ _).mono ?_)
  rintro e w' ⟨rfl, rfl⟩
  gi_wp2_with fail
  have h3 : 3 ≤ n := hn
  have bO := Boxed.new w 3 (Value.int .i64 0)
  have bN := Boxed.new (w.alloc (Obj.cells #[Value.int IntKind.i64 0] 3)) 23 (Value.slice a xs.length capa)
  simp only [World.size_alloc] at bN
  have hB0 : Below w.heap.size w ((w.alloc (Obj.cells #[Value.int IntKind.i64 0] 3)).alloc (Obj.cells #[Value.slice a xs.length capa] 23)) :=
    ((Below.refl _ w).alloc (Nat.le_refl _) _).alloc (by simp) _
  have hA0 := h1.later hB0
  refine wpIn_rangeFunc_ownG rfl (by omega) (gf := 63) (lb := #[.pointer (some ⟨w.heap.size + 1, 0, none⟩)]) rfl trivial (enters_of Try.func63 (by kernel_rfl) rfl)
    (digits_stops (n - 1) (w.heap.size + 1) m0 (Box1 w.heap.size) (Box1.still _) a xs capa (by omega) hm0 _ (by simp) bN.cell hA0 (fun hne ad hd hk => by
      have := h1.lim.lt hne ad hd
      have hk' : ad.block = w.heap.size := hk
      omega) (fun k hk => by have hk' : k = w.heap.size := hk; simp; omega))
    (fun h k => h.trans k) (fun W l o o' hl ho hc _ => ⟨by simp, fun k o2 hk hc2 _ => (World.putObj_heap_other (fun e => by subst e; rw [hk] at ho; cases ho; rw [hc2] at hc; cases hc)).trans hk, fun _ _ h => h, fun hg k hk => by have := hg k hk; simpa using this⟩)
    (Below.refl _ _) (fun _ => rfl)
    (fun (pre : List (Fin (dec m0).length)) W => Boxed W w.heap.size 3 (.int .i64 (pre.length : Int)) ∧ Below w.heap.size w W)
    (fun _ _ _ => False)
    (OwnFrom.and (Own.from (boxed_own _ _ (fun pre : List (Fin (dec m0).length) => Value.int .i64 (pre.length : Int))) _) (ownFrom_below (Nat.le_refl _) (by simp; omega)))
    (fun _ _ _ _ _ hs _ _ => hs)
    ⟨bO.alloc _, hB0⟩
    (fun (x : Fin (dec m0).length) => { tmps := #[.slice a xs.length capa, undef, .int .i64 0, .pointer (some ⟨w.heap.size, 0, none⟩), .slice a xs.length capa, .func (.func 63) #[] #[.pointer (some ⟨w.heap.size + 1, 0, none⟩)],
      .int .u8 ((48 + m0 / 10 ^ x.val % 10 : Nat) : Int), undef, undef, undef], defers := [] }) ?assign ?body ?done ?stop
  case assign =>
    intro l x W K hK
    simp only [digAt]
    gi_wp2
    simpa using hK
  case body =>
    rintro l pre x W ⟨hb, hB⟩ hlt
    have hc := hb.cell
    have hf := hb.frozen
    have hsz : ((pre ++ [x]).length : Int) = (pre.length : Int) + 1 := by simp
    have hbound : (pre.length : Int) + 1 ≤ 9223372036854775807 := by omega
    have hps := hb.set (.int .i64 ((pre.length : Int) + 1))
    gi_wp2_with fail
    exact ⟨(KeepsOthers.setCell _ _ _).from _, Box1.apart _, by rw [hsz]; exact hps, hB.setCell (p := ⟨w.heap.size, 0, none⟩) (Nat.le_refl _) _⟩
  case done =>
    rintro D ys W hD hup ⟨hb, hB⟩ hK
    have hc := hb.cell
    rw [hup.length] at hc
    gi_wp2
    refine ⟨by simp, .inl ⟨_, _, rfl, run_takeDeferred hK, ?_⟩⟩
    exact ⟨_, results_tmp rfl _ _ _, rfl, hB.trans (belowK_b (w := w) (Nat.le_refl _) W D _ _ (by simp at hD; omega) hK rfl rfl)⟩
  case stop =>
    rintro D c pre W _ _ h _
    exact h.elim

theorem appended_in {F : Fence} {n : Nat} {P : Program} (w : World) {ops : Array Oper} {rest : List Oper} {o : Oper} {a : Act} {Q : Exit → Act → World → Prop}
    (hg : o.guard = none) (s x : Operand) (t : TypeId) (hop : o.op = Op.call { callee := Callee.builtin Builtin.append, args := #[s, x], argTypes := #[t, t] })
    (base : Nat) (e : TypeId) (i : TypeInfo) (z : Value) (size bytes : Nat) (h1 : P.underlying t = some (.slice e)) (h2 : P.info? e = some i) (h3 : i.zero = some z) (h4 : i.size = size) (h5 : i.bytes = bytes) (h6 : z.cells.size = size) (h7 : 0 < size)
    (v : Value) (k : Nat) (xs : List Value) (hs : a.eval s = v) (hown : w.ownsRow base e size v k xs) (ad : Addr) (m c : Nat) (news : List Value) (hx : a.eval x = .slice (some ad) m c) (hn : news.length = m * size)
    (hc : ∀ j u, news[j]? = some u → w.cell? (ad.add j) = some u) (h1c : ∀ u ∈ news, u.oneCell' = true) (b1 : k + m ≤ maxLen) (b2 : (k + m) * bytes ≤ 140737488355328) (b3 : base ≤ w.heap.size)
    (hK : ∀ v' w', w'.ownsRow base e size v' (k + m) (xs ++ news) → w.grownBy w' v.ownBlock → (v'.ownBlock = v.ownBlock ∨ v'.ownBlock = some w.heap.size) → wpListIn F n P ops Q rest (a.put o.dst v') w') :
    wpListIn F n P ops Q (o :: rest) a w := by
  refine wpListIn_plain hg fun K hK' => ?_
  obtain ⟨v', w', hrun, r1, r2, _, r3⟩ := run_append_own_at (P := P) w base t o.type e i z size bytes h1 h2 h3 h4 h5 h6 h7 v k xs hown ad m c news hn hc h1c b1 b2 b3
  unfold Oper.wpIn
  refine ⟨?_, ?_⟩
  · simp [Oper.about, hop, resolve, Target.leads, Sem.run_pure]
  · rw [Oper.semAt_plain F _ _ (by rw [hop]; intro c hc'; cases hc')]
    simp [execOp, hop, resolve, invoke, builtin, hs, hx, hrun, Result.andThen]
    exact hK' _ _ (hK v' w' r1 r2 r3)

/-- a slice's box, and its row -/
def BoxR (B : Nat) (t : TypeId) : World → Nat → Prop := fun W k => k = B ∨ ∃ v, Boxed W B t v ∧ v.ownBlock = some k
theorem BoxR.still (B : Nat) (t : TypeId) : Still (BoxR B t) := by
  rintro A C hb hg k (rfl | ⟨v, hv, hk⟩)
  · exact .inl rfl
  · have hB := hg B (.inl rfl)
    exact .inr ⟨v, (hb.block B hB).symm.trans hv, hk⟩
theorem BoxR.putObj {B : Nat} {t : TypeId} {W : World} {l : Nat} {o o' : Obj} (hl : B ≠ l) (ho : W.heap[l]? = some o) (hc : o.isCells = false) : Apart (BoxR B t) W (W.putObj l o') := by
  have hsame : (W.putObj l o').heap[B]? = W.heap[B]? := World.putObj_heap_other hl
  have hF : ∀ k, BoxR B t (W.putObj l o') k → BoxR B t W k := by
    rintro k (rfl | ⟨v, hv, hk⟩)
    · exact .inl rfl
    · exact .inr ⟨v, hsame.symm.trans hv, hk⟩
  exact ⟨by simp, fun k o2 hk hc2 _ => (World.putObj_heap_other (fun e => by subst e; rw [hk] at ho; cases ho; rw [hc2] at hc; cases hc)).trans hk, fun k _ h => hF k h, fun hg k hk => by have := hg k (hF k hk); simpa using this⟩
theorem BoxR.apart {B n₀ size k m : Nat} {t e : TypeId} {W w1 : World} {v v' : Value} {xs ys : List Value} {tmp : Obj} (hv : Boxed W B t v) (hrow : W.ownsRow n₀ e size v k xs)
    (hgrow : (W.alloc tmp).grownBy w1 v.ownBlock) (hat : v'.ownBlock = v.ownBlock ∨ v'.ownBlock = some (W.alloc tmp).heap.size)
    (hv2 : Boxed (w1.setCell ⟨B, 0, none⟩ v') B t v') (hr2 : (w1.setCell ⟨B, 0, none⟩ v').ownsRow n₀ e size v' m ys) : Apart (BoxR B t) W (w1.setCell ⟨B, 0, none⟩ v') := by
  have hsz : W.heap.size ≤ w1.heap.size := by have := hgrow.size; simp at this; omega
  have huniq : ∀ u, Boxed (w1.setCell ⟨B, 0, none⟩ v') B t u → u = v' := by
    intro u hu
    have e1 := hu.symm.trans hv2
    simpa using e1
  refine ⟨by simpa using hsz, fun j o hj hc hF => ?_, fun j hj hF => ?_, fun hg j hF => ?_⟩
  · have hjB : j ≠ B := fun e => hF (.inl e)
    have hjv : some j ≠ v.ownBlock := fun e => hF (.inr ⟨v, hv, e.symm⟩)
    have hlt := lt_of_block hj
    rw [Below.heap_setCell w1 ⟨B, 0, none⟩ v' j hjB, hgrow.block j (by simp; omega) hjv, Below.heap_alloc W tmp j hlt]
    exact hj
  · rcases hF with rfl | ⟨u, hu, hk⟩
    · exact .inl rfl
    · obtain rfl := huniq u hu
      rcases hat with h | h
      · exact .inr ⟨v, hv, by rw [← h]; exact hk⟩
      · rw [h] at hk
        simp at hk
        omega
  · rcases hF with rfl | ⟨u, hu, hk⟩
    · exact hv2.lt
    · obtain rfl := huniq u hu
      exact (hr2.lt j hk).2

/-- the bytes of the digits -/
theorem upto_bytes {m N : Nat} {ys : List (Fin N)} (hN : (dec m).length = N) (h : Upto ys N) : (ys.map fun x => ((48 + m / 10 ^ x.val % 10 : Nat) : Int)) = (dec m).reverse.map (fun c => (c.toNat : Int)) := by
  have h1 : ys.map (fun x => ((48 + m / 10 ^ x.val % 10 : Nat) : Int)) = (ys.map Fin.val).map (fun k => ((48 + m / 10 ^ k % 10 : Nat) : Int)) := by rw [List.map_map]; rfl
  rw [h1, show ys.map Fin.val = List.range N from h, ← dec_rev m, hN, List.map_map]
  apply List.map_congr_left
  intro k _
  simp only [Function.comp]
  rw [dig_toNat (Nat.mod_lt _ (by omega))]

set_option maxRecDepth 100000 in
set_option maxHeartbeats 4000000 in
theorem nat4_big {u : Value} {xs : List Int} {a : Option Addr} {capa : Nat} {w : World} (h1 : Arg w u xs a capa) (hx : xs.length ≤ 1600000) :
    Calls Try.prog 15 #[u] w fun e w' => ∃ s : ByteArray, e = .returned (.string s) ∧ s.data.toList = dec (val xs).toNat ∧ s.size ≤ 10 * xs.length + 1 ∧ Below w.heap.size w w' := by
  obtain ⟨m0, hm0⟩ : ∃ m0 : Nat, val xs = (m0 : Int) := ⟨(val xs).toNat, by have := val_nonneg h1.wf; omega⟩
  have hlen := dec_len_val h1.wf hm0
  have e0 : (val xs).toNat = m0 := by omega
  rw [e0]
  obtain rfl := h1.is
  obtain ⟨i0, hi, hz0, hz1, hz2⟩ := info_parts infoByteD
  obtain ⟨n, hn⟩ : ∃ n : Nat, Hid (3 ≤ n) := ⟨3, Nat.le_refl 3⟩
  refine (callsIn_wide (n := n)).1 ?_
  refine callsIn_of_wp_marks Try.func15 rfl trivial ?_ rfl
  simp only [Try.ntmps15, List.size_toArray, List.length_cons, List.length_nil, Nat.reduceAdd, Nat.reduceSub, Array.replicate_succ, Array.replicate_zero, List.push_toArray, List.append_toArray, List.nil_append, List.cons_append]
  gi_wp2_with fail
  refine wideCall ((backward_any _ _ _ _).mono ?_)
  rintro e w' ⟨rfl, rfl⟩
  gi_wp2_with fail
  have h3 : 3 ≤ n := hn
  obtain ⟨N, hN⟩ : ∃ N, (dec m0).length = N := ⟨_, rfl⟩
  have bO := Boxed.new w 68 (Value.slice none 0 0)
  have bN := Boxed.new (w.alloc (Obj.cells #[Value.slice none 0 0] 68)) 23 (Value.slice a xs.length capa)
  simp only [World.size_alloc] at bN
  have hB0 : Below w.heap.size w ((w.alloc (Obj.cells #[Value.slice none 0 0] 68)).alloc (Obj.cells #[Value.slice a xs.length capa] 23)) :=
    ((Below.refl _ w).alloc (Nat.le_refl _) _).alloc (by simp) _
  have hA0 := h1.later hB0
  have bO2 := bO.alloc (Obj.cells #[Value.slice a xs.length capa] 23)
  have hon : ∀ k, ¬ ∃ v, Boxed ((w.alloc (Obj.cells #[Value.slice none 0 0] 68)).alloc (Obj.cells #[Value.slice a xs.length capa] 23)) w.heap.size 68 v ∧ v.ownBlock = some k := by
    rintro k ⟨v, hv, hk⟩
    have e1 := hv.symm.trans bO2
    have e2 : v = Value.slice none 0 0 := by simpa using e1
    rw [e2] at hk
    cases hk
  refine wpIn_rangeFunc_ownG rfl (by omega) (gf := 63) (lb := #[.pointer (some ⟨w.heap.size + 1, 0, none⟩)]) rfl trivial (enters_of Try.func63 (by kernel_rfl) rfl)
    (digits_stops (n - 1) (w.heap.size + 1) m0 (BoxR w.heap.size 68) (BoxR.still _ _) a xs capa (by omega) hm0 _ (by simp) bN.cell hA0 (fun hne ad hd hk => by
      have := h1.lim.lt hne ad hd
      rcases hk with hk' | hk'
      · omega
      · exact hon _ hk') (fun k hk => by
      rcases hk with hk' | hk'
      · simp; omega
      · exact absurd hk' (hon _)))
    (fun h k => h.trans k) (fun W l o o' hl ho hc _ => BoxR.putObj (by simp at hl; omega) ho hc)
    (Below.refl _ _) (fun _ => rfl)
    (fun (pre : List (Fin (dec m0).length)) W => (∃ v, Boxed W w.heap.size 68 v ∧ W.ownsRow w.heap.size 5 1 v pre.length (pre.map fun x => Value.int .u8 ((48 + m0 / 10 ^ x.val % 10 : Nat) : Int)) ∧ True) ∧ Below w.heap.size w W)
    (fun _ _ _ => False)
    (OwnFrom.and (Own.from (holdsRow_own w.heap.size w.heap.size 68 5 1 (fun pre : List (Fin (dec m0).length) => pre.length) (fun pre => pre.map fun x => Value.int .u8 ((48 + m0 / 10 ^ x.val % 10 : Nat) : Int)) (fun _ _ => True)) _) (ownFrom_below (Nat.le_refl _) (by simp; omega)))
    (fun _ _ _ _ _ hs _ _ => hs)
    ⟨⟨_, bO2, World.ownsRow_nil _ _ _ _, trivial⟩, hB0⟩
    (fun (x : Fin (dec m0).length) => { tmps := #[.slice a xs.length capa, undef, .string ⟨#[]⟩, .pointer (some ⟨w.heap.size, 0, none⟩), .int .u8 ((48 + m0 / 10 ^ x.val % 10 : Nat) : Int), .slice a xs.length capa, .func (.func 63) #[] #[.pointer (some ⟨w.heap.size + 1, 0, none⟩)],
      .int .u8 ((48 + m0 / 10 ^ x.val % 10 : Nat) : Int), undef, undef, undef, undef, undef, undef, undef, undef], defers := [] }) ?assign ?body ?done ?stop
  case assign =>
    intro l x W K hK
    simp only [digAt]
    gi_wp2
    simpa using hK
  case body =>
    rintro l pre x W ⟨⟨v, hv, hrow, _⟩, hB⟩ hlt
    have hc := hv.cell
    have hbs := hB.size
    obtain ⟨d, hd⟩ : ∃ d : Int, ((48 + m0 / 10 ^ x.val % 10 : Nat) : Int) = d := ⟨_, rfl⟩
    rw [hd]
    have HD := Lib.hid hd
    have hpl : pre.length + 1 ≤ 16777216 := by omega
    clear hd
    gi_wp2_with (gi_at_builtin; refine appended_in _ rfl _ _ 68 rfl w.heap.size 5 i0 (.int .u8 0) 1 1 Try.underlying68 hi hz0 hz1 hz2 rfl (by decide) _ _ _ rfl (hrow.alloc _) ⟨W.heap.size, 0, none⟩ 1 1 [.int .u8 d] rfl rfl (cell_one_new _ _ _) (by simp [Value.oneCell']) (by unfold maxLen; omega) (by omega) (by simp; omega) ?_; intro v' w1 hown' hgrow hat; obtain ⟨g', cap', rfl⟩ := ownsRow_succ hown'; obtain ⟨hv1, hv2, hr2, hk2, hb2⟩ := hv.appended (by decide) hrow hB.size (Nat.le_refl _) hown' hgrow; have hap := BoxR.apart hv hrow hgrow hat hv2 hr2; have hc1 := hv1.cell; have hf1 := hv1.frozen)
    exact ⟨hk2.from _, hap, ⟨_, hv2, by simpa [← HD.out] using hr2, trivial⟩, hB.trans hb2⟩
  case done =>
    rintro D ys W hD hup ⟨⟨v, hv, hrow, _⟩, hB⟩ hK
    obtain ⟨zs, hzs⟩ : ∃ zs : List Int, zs = ys.map (fun x => ((48 + m0 / 10 ^ x.val % 10 : Nat) : Int)) := ⟨_, rfl⟩
    have hz2' : ys.map (fun x => Value.int .u8 ((48 + m0 / 10 ^ x.val % 10 : Nat) : Int)) = zs.map (Value.int .u8) := by rw [hzs, List.map_map]; rfl
    have hzl : ys.length = zs.length := by rw [hzs, List.length_map]
    have hzr := upto_bytes rfl hup
    rw [← hzs] at hzr
    rw [hz2', hzl] at hrow
    have hzn : zs.length = (dec m0).length := by rw [hzr]; simp
    have hz0' : zs ≠ [] := by
      intro e
      have h2 := List.length_pos_iff.2 (dec_ne m0)
      rw [e] at hzn
      simp at hzn
      rw [← hzn] at h2
      simp at h2
    obtain ⟨g, cp, rfl, hg, hcp, hp⟩ := PartY.of hrow hz0'
    have hrev : zs.reverse = (dec m0).map (fun c => (c.toNat : Int)) := by rw [hzr, List.map_reverse, List.reverse_reverse]
    have hgB : w.heap.size ≠ g := by
      intro e
      obtain ⟨cur, hh, _⟩ := hp
      rw [← e] at hh
      have e1 := hv.symm.trans hh
      simp at e1
    have hc := hv.cell
    have HR := Lib.hid hrev
    have HZ := Lib.hid hzn
    have hzb : zs.length ≤ 16777216 := by omega
    clear hzr hzn hrev hzs hz2' hzl hrow
    gi_wp2_with fail
    refine wideCall ((rev_any g cp zs W hp (by omega)).mono ?_)
    rintro e w2 ⟨rfl, hp2, hk2⟩
    have hv2 : Boxed w2 w.heap.size 68 (Value.slice (some ⟨g, 0, none⟩) zs.length cp) := (hk2.block _ hv.lt hgB).trans hv
    have hc2 := hv2.cell
    have hconv := run_convert_bytes_arg (P := Try.prog) w2 68 5 Try.underlying68 Try.underlying5 g 0 zs.length cp zs.reverse (by simp) (fun i hi => by rw [Nat.zero_add]; exact hp2.cell i (by simpa using hi)) 9 Try.underlying9
    gi_wp2_with fail
    have hDg : D ≠ g := by
      intro e
      obtain ⟨cur, hh, _⟩ := hp
      rw [← e] at hh
      rw [hh] at hK
      cases hK
    have hKD : w2.heap[D]? = some (.deferred (some [])) := (hk2.block D (lt_of_block hK) hDg).trans hK
    have hB2 : Below w.heap.size w w2 := hk2.under hB (by have := hB.size; omega) hg
    refine ⟨by simp, .inl ⟨_, _, rfl, run_takeDeferred hKD, ?_⟩⟩
    refine ⟨_, results_tmp rfl _ _ _, _, rfl, ?_, ?_, hB2.trans (belowK_b (w := w) (Nat.le_refl _) w2 D _ _ (by simp at hD; omega) hKD rfl rfl)⟩
    · rw [strOfNums_data, HR.out, List.map_map]
      conv => rhs; rw [← List.map_id (dec m0)]
      apply List.map_congr_left
      intro c _
      simp [Function.comp]
    · have h9 := HZ.out
      rw [strOfNums_size, List.length_reverse]; omega
  case stop =>
    rintro D c pre W _ _ h _
    exact h.elim
theorem nat4_any {u : Value} {xs : List Int} {a : Option Addr} {capa : Nat} {w : World} (h1 : Arg w u xs a capa) (hx : xs.length ≤ 1048576) :
    Calls Try.prog 15 #[u] w fun e w' => ∃ s : ByteArray, e = .returned (.string s) ∧ s.data.toList = dec (val xs).toNat ∧ s.size ≤ 16777216 ∧ Below w.heap.size w w' :=
  (nat4_big h1 (by omega)).mono fun e w' ⟨s, h2, h3, h4, h5⟩ => ⟨s, h2, h3, by omega, h5⟩
end Go.Proofs.Ytokinmmnoiacdaa
