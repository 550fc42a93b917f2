/-
  Package point as it landed: joined.
-/
import Derived.Test.YtjcacmnmbbnffaaGreatPPairs
namespace Go.Proofs.YtjcacmnmbbnffaaGreat
open Go.RowKit Go.Shelf
attribute [local go_sem] Oper.semAt_some
set_option linter.unusedVariables false
set_option linter.unusedSimpArgs false

/-- what an operation on two numbers answers: a number, or that it is none -/
def Op2 (base : Nat) (w' : World) (e : Ending) (ok : Bool) (x : Rat) (N : Nat) : Prop :=
  (ok = true ∧ ∃ r, e = .returned (.tuple #[r, .int .i64 0]) ∧ ResQ base w' r x N) ∨ (ok = false ∧ e = .returned (.tuple #[.agg #[.bool false, .slice none 0 0, .slice none 0 0], .int .i64 17]))
/-- what becomes of two lists -/
def zipQ (f : Rat → Rat → Rat) (q1 q2 : List Q3) : List Rat := List.zipWith (fun p q => f p.rat q.rat) q1 q2
def zipOk (ok : Rat → Rat → Bool) (q1 q2 : List Q3) : Bool := (List.zipWith (fun p q => ok p.rat q.rat) q1 q2).all id

theorem zip_upto {α : Type} {q1 q2 : List Q3} (g : Q3 → Q3 → α) {N : Nat} (h1 : q1.length = N) (h2 : q2.length = N) {ys : List (Fin N)} (h : Upto ys N) : ys.map (fun x => g (q1[x.val]?.getD ⟨false, [], []⟩) (q2[x.val]?.getD ⟨false, [], []⟩)) = List.zipWith g q1 q2 := by
  have e : ys.map (fun x => g (q1[x.val]?.getD ⟨false, [], []⟩) (q2[x.val]?.getD ⟨false, [], []⟩)) = (ys.map Fin.val).map (fun k => g (q1[k]?.getD ⟨false, [], []⟩) (q2[k]?.getD ⟨false, [], []⟩)) := by rw [List.map_map]; rfl
  rw [e, show ys.map Fin.val = List.range N from h]
  apply List.ext_getElem
  · simp [h1, h2]
  · intro i a b
    have i1 : i < q1.length := by simp at a; omega
    have i2 : i < q2.length := by simp at a; omega
    simp [i1, i2]
theorem zipOk_bad {ok : Rat → Rat → Bool} {q1 q2 : List Q3} {k : Nat} (hk : k < q1.length) (hl : q2.length = q1.length) (h : ok (q1[k]?.getD ⟨false, [], []⟩).rat (q2[k]?.getD ⟨false, [], []⟩).rat = false) : zipOk ok q1 q2 = false := by
  have k2 : k < q2.length := by omega
  rw [List.getElem?_eq_getElem hk, List.getElem?_eq_getElem k2] at h
  cases e : zipOk ok q1 q2 with
  | false => rfl
  | true =>
    unfold zipOk at e
    rw [List.all_eq_true] at e
    have h3 := e (ok q1[k].rat q2[k].rat) (by
      rw [List.mem_iff_getElem]
      exact ⟨k, by simp; omega, by simp⟩)
    simp at h3
    simp [h3] at h

set_option maxRecDepth 100000 in
set_option maxHeartbeats 8000000 in
theorem joined_any {N F : Nat} {cap : Array Value} {ok : Rat → Rat → Bool} {f : Rat → Rat → Rat} {w : World} {u v : Value} {q1 q2 : List Q3} {b1 b2 : Option Addr} {cb1 cb2 : Nat} (E1 : RowA RawQ w u q1 b1 cb1) (E2 : RowA RawQ w v q2 b2 cb2) (hlen : q2.length = q1.length) (hq : q1.length ≤ 1000000)
    (heF : ∀ args w, (callFunc F args).run Tryz.prog w = .ok (.enter F args) w)
    (hdo : ∀ (W : World) (x y : Value) (p q : Q3), p ∈ q1 → q ∈ q2 → Below w.heap.size w W → RawQ W x p → RawQ W y q → Calls Tryz.prog F (#[x, y] ++ cap) W fun e w' => Op2 W.heap.size w' e (ok p.rat q.rat) (f p.rat q.rat) N ∧ Below W.heap.size W w') :
    Calls Tryz.prog 91 #[u, v, .func (.func F) #[] cap] w fun e w' =>
      ((zipOk ok q1 q2 = true ∧ ∃ r, e = .returned (.tuple #[r, .int .i64 0]) ∧ RowO w.heap.size 51 (fun W v x => ResQ w.heap.size W v x N) w' r (zipQ f q1 q2)) ∨ (zipOk ok q1 q2 = false ∧ e = .returned (.tuple #[.slice none 0 0, .int .i64 17]))) ∧ Below w.heap.size w w' := by
  obtain ⟨i0, hi, hz0, hz1, hz2⟩ := info_parts infoQ
  obtain rfl := E1.is
  obtain rfl := E2.is
  obtain ⟨es, hlim1, hall1⟩ := E1.limE
  obtain ⟨fs, hlim2, hall2⟩ := E2.limE
  have hsh1 : ShE es := shE_of hall1 (fun v x h => h.form)
  have hsh2 : ShE fs := shE_of hall2 (fun v x h => h.form)
  have hel1 : es.length = q1.length := hall1.1
  have hel2 : fs.length = es.length := by rw [hall2.1, hlen, hall1.1]
  have hcap1 := E1.le
  have HA1 := Lib.hid hall1
  have HA2 := Lib.hid hall2
  have HDO := Lib.hid hdo
  have HLEN := Lib.hid hlen
  have HEL1 := Lib.hid hel1
  have HEL2 := Lib.hid hel2
  rw [hlen, ← hel1]
  rw [← hel1] at hq hcap1
  clear E1 E2 hall1 hall2 hdo hlen hel1 hel2
  have hmk := make_rowP es.length (by omega)
  obtain ⟨n', hn'⟩ : ∃ n' : Nat, Hid (3 ≤ n') := ⟨3, Nat.le_refl 3⟩
  refine (callsIn_wide (n := n')).1 ?_
  refine callsIn_of_wp_marks Tryz.func91 rfl trivial ?_ rfl
  simp only [Tryz.ntmps91, List.size_toArray, List.length_cons, List.length_nil, Nat.reduceAdd, Nat.reduceSub, Array.replicate_succ, Array.replicate_zero, List.push_toArray, List.append_toArray, List.nil_append, List.cons_append]
  gi_wp2_with fail
  refine wideCall ((pairsQ_any _ _ _ _ _ _ _).mono ?_)
  rintro e w' ⟨rfl, rfl⟩
  gi_wp2_with fail
  obtain ⟨B, hB⟩ : ∃ B, w.heap.size = B := ⟨_, rfl⟩
  obtain ⟨V1, hV1⟩ : ∃ V1, w.alloc (.cells #[.func (.func F) #[] cap] 70) = V1 := ⟨_, rfl⟩
  obtain ⟨V2, hV2⟩ : ∃ V2, V1.alloc (.cells #[.slice none 0 0] 24) = V2 := ⟨_, rfl⟩
  obtain ⟨V3, hV3⟩ : ∃ V3, V2.alloc (.cells #[.int .i64 0] 29) = V3 := ⟨_, rfl⟩
  obtain ⟨V4, hV4⟩ : ∃ V4, V3.alloc (.cells (madeCells #[.bool false, .slice none 0 0, .slice none 0 0] (es.length * 3)) 51) = V4 := ⟨_, rfl⟩
  obtain ⟨V5, hV5⟩ : ∃ V5, V4.alloc (.cells #[.slice (some ⟨B + 1 + 1 + 1, 0, none⟩) 0 es.length] 24) = V5 := ⟨_, rfl⟩
  obtain ⟨V6, hV6⟩ : ∃ V6, V5.alloc (.cells #[.slice b1 es.length cb1] 24) = V6 := ⟨_, rfl⟩
  obtain ⟨V, hV⟩ : ∃ V, V6.alloc (.cells #[.slice b2 es.length cb2] 24) = V := ⟨_, rfl⟩
  have s1 : V1.heap.size = B + 1 := by rw [← hV1, ← hB]; simp
  have s2 : V2.heap.size = B + 1 + 1 := by rw [← hV2, World.size_alloc, s1]
  have s3 : V3.heap.size = B + 1 + 1 + 1 := by rw [← hV3, World.size_alloc, s2]
  have s4 : V4.heap.size = B + 1 + 1 + 1 + 1 := by rw [← hV4, World.size_alloc, s3]
  have s5 : V5.heap.size = B + 1 + 1 + 1 + 1 + 1 := by rw [← hV5, World.size_alloc, s4]
  have s6 : V6.heap.size = B + 1 + 1 + 1 + 1 + 1 + 1 := by rw [← hV6, World.size_alloc, s5]
  have sV : V.heap.size = B + 1 + 1 + 1 + 1 + 1 + 1 + 1 := by rw [← hV, World.size_alloc, s6]
  have d0 : Boxed V B 70 (.func (.func F) #[] cap) := by
    rw [← hV, ← hV6, ← hV5, ← hV4, ← hV3, ← hV2, ← hV1, ← hB]; exact ((((((Boxed.new _ _ _).alloc _).alloc _).alloc _).alloc _).alloc _).alloc _
  have d1 : Boxed V (B + 1) 24 (.slice none 0 0) := by
    rw [← hV, ← hV6, ← hV5, ← hV4, ← hV3, ← hV2, ← s1]; exact (((((Boxed.new _ _ _).alloc _).alloc _).alloc _).alloc _).alloc _
  have d2 : Boxed V (B + 1 + 1) 29 (.int .i64 0) := by
    rw [← hV, ← hV6, ← hV5, ← hV4, ← hV3, ← s2]; exact ((((Boxed.new _ _ _).alloc _).alloc _).alloc _).alloc _
  have d3 : OwnE B 51 V (.slice (some ⟨B + 1 + 1 + 1, 0, none⟩) 0 es.length) [] := by
    have h : OwnE B 51 V4 (.slice (some ⟨V3.heap.size, 0, none⟩) 0 es.length) [] := by
      rw [← hV4]
      exact World.ownsRow_made V3 _ es.length (by omega) (by unfold maxLen; omega) (madeP_len _ _)
    rw [s3] at h
    have hb : Below V4.heap.size V4 V := by rw [← hV, ← hV6, ← hV5]; exact (((Below.refl _ _).alloc (Nat.le_refl _) _).alloc (by simp) _).alloc (by simp <;> omega) _
    exact h.later hb
  have d4 : Boxed V (B + 1 + 1 + 1 + 1) 24 (.slice (some ⟨B + 1 + 1 + 1, 0, none⟩) 0 es.length) := by
    rw [← hV, ← hV6, ← hV5, ← s4]; exact ((Boxed.new _ _ _).alloc _).alloc _
  have d5 : Boxed V (B + 1 + 1 + 1 + 1 + 1) 24 (.slice b1 es.length cb1) := by
    rw [← hV, ← hV6, ← s5]; exact (Boxed.new _ _ _).alloc _
  have d6 : Boxed V (B + 1 + 1 + 1 + 1 + 1 + 1) 24 (.slice b2 fs.length cb2) := by
    rw [HEL2.out, ← hV, ← s6]; exact Boxed.new _ _ _
  have hbV : Below B w V := by
    rw [← hV, ← hV6, ← hV5, ← hV4, ← hV3, ← hV2, ← hV1]
    exact (((((((Below.refl _ w).alloc (by omega) _).alloc (by simp; omega) _).alloc (by simp; omega) _).alloc (by simp; omega) _).alloc (by simp; omega) _).alloc (by simp; omega) _).alloc (by simp; omega) _
  rw [hB] at hlim1 hlim2
  simp only [hB, hV1, hV2, hV3, hV4, hV5, hV6, hV]
  have h3 : 3 ≤ n' := hn'
  clear hV1 hV2 hV3 hV4 hV5 hV6 hV hmk s1 s2 s3 s4 s5 s6
  refine wpIn_rangeFunc_ownH (F := Fence.wide) (n := n') rfl (by omega) (gf := 152) (lb := #[.pointer (some ⟨B + 1 + 1 + 1 + 1 + 1, 0, none⟩), .pointer (some ⟨B + 1 + 1 + 1 + 1 + 1 + 1, 0, none⟩)]) rfl trivial (enters_of Tryz.func152 (by kernel_rfl) rfl)
    (pairsQ_stops (n' - 1) (B + 1 + 1 + 1 + 1 + 1) B b1 b2 es fs cb1 cb2 (by omega) HEL2.out V (by omega) (by omega) d5.cell d6.cell (hlim1.below hbV) (hlim2.below hbV) hsh1 hsh2) KpS.trans (KpS.b (by omega) (by omega)) (Below.refl _ _) (fun _ => rfl)
    (fun (pre : List (Fin es.length)) X => ∃ v gs, Boxed X B 70 (.func (.func F) #[] cap) ∧ Boxed X (B + 1) 24 (.slice none 0 0) ∧ Boxed X (B + 1 + 1) 29 (.int .i64 0) ∧ Boxed X (B + 1 + 1 + 1 + 1) 24 v ∧ OwnE B 51 X v gs ∧
      AllE ((fun W v x => ResQ B W v x N) X) gs (pre.map (fun x => f (q1[x.val]?.getD ⟨false, [], []⟩).rat (q2[x.val]?.getD ⟨false, [], []⟩).rat)) ∧ (∀ x ∈ pre, ok (q1[x.val]?.getD ⟨false, [], []⟩).rat (q2[x.val]?.getD ⟨false, [], []⟩).rat = true) ∧ Below B w X ∧ B + 1 + 1 + 1 + 1 + 1 + 1 + 1 ≤ X.heap.size ∧ Boxed X (B + 1 + 1 + 1 + 1 + 1 + 1) 24 (.slice b2 fs.length cb2))
    (fun c pre X => c = .ret ∧ Row X (B + 1) 24 #[.slice none 0 0] ∧ Row X (B + 1 + 1) 29 #[.int .i64 17] ∧ (∃ x ∈ pre, ok (q1[x.val]?.getD ⟨false, [], []⟩).rat (q2[x.val]?.getD ⟨false, [], []⟩).rat = false) ∧ Below B w X)
    (fun pre X Y row ⟨v, gs, h0, h1, h2, h3, h4, h5, h6, h7, h8, h9⟩ hg hr => by
      have kk := KeepC.grown hg (fun r e => (hr r e).2)
      exact ⟨v, gs, Boxed.keepC h0 kk, Boxed.keepC h1 kk, Boxed.keepC h2 kk, Boxed.keepC h3 kk, h4.keepC kk, h5.imp (fun _ _ _ h => h.keepC kk), h6, h7.grown hg (by have := h7.size; omega) (fun k e => by have := (hr k e).1; omega), Nat.le_trans h8 hg.size, Boxed.keepC h9 kk⟩)
    (fun c pre X Y row ⟨h0, h1, h2, h3, h4⟩ hg hr => ⟨h0, h1.keepC (KeepC.grown hg (fun r e => (hr r e).2)), h2.keepC (KeepC.grown hg (fun r e => (hr r e).2)), h3, h4.grown hg (by have := h4.size; omega) (fun k e => by have := (hr k e).1; omega)⟩)
    ⟨_, [], d0, d1, d2, d4, d3, AllE.nil _, (fun x h => by cases h), hbV, by omega, d6⟩
    (fun (x : Fin es.length) a' X => ∃ p1 p2, B + 1 + 1 + 1 + 1 + 1 + 1 + 1 ≤ p1 ∧ B + 1 + 1 + 1 + 1 + 1 + 1 + 1 ≤ p2 ∧ Row X p1 51 #[(es[x.val]?.getD dfE).a, (es[x.val]?.getD dfE).b, (es[x.val]?.getD dfE).c] ∧ Row X p2 51 #[(fs[x.val]?.getD dfE).a, (fs[x.val]?.getD dfE).b, (fs[x.val]?.getD dfE).c] ∧
      a' = { tmps := #[.slice b1 es.length cb1, .slice b2 es.length cb2, .func (.func F) #[] cap, undef, undef, .pointer (some ⟨B, 0, none⟩), .pointer (some ⟨B + 1, 0, none⟩), .pointer (some ⟨B + 1 + 1, 0, none⟩), .pointer (some ⟨B + 1 + 1 + 1 + 1, 0, none⟩), .pointer (some ⟨p1, 0, none⟩), .pointer (some ⟨p2, 0, none⟩), undef, undef,
        .slice b1 es.length cb1, .int .i64 es.length, .slice (some ⟨B + 1 + 1 + 1, 0, none⟩) 0 es.length, .slice b1 es.length cb1, .slice b2 es.length cb2, .func (.func 152) #[] #[.pointer (some ⟨B + 1 + 1 + 1 + 1 + 1, 0, none⟩), .pointer (some ⟨B + 1 + 1 + 1 + 1 + 1 + 1, 0, none⟩)],
        .agg #[(es[x.val]?.getD dfE).a, (es[x.val]?.getD dfE).b, (es[x.val]?.getD dfE).c], .agg #[(fs[x.val]?.getD dfE).a, (fs[x.val]?.getD dfE).b, (fs[x.val]?.getD dfE).c],
        undef, undef, undef, undef, undef, undef, undef, undef, undef, undef, undef, undef, undef, undef, undef], defers := [] })
    (fun x a' _ X Y row ⟨p1, p2, g1, g2, h1, h2, h3⟩ hg hr => ⟨p1, p2, g1, g2, h1.keepC (KeepC.grown hg (fun r e => (hr r e).2)), h2.keepC (KeepC.grown hg (fun r e => (hr r e).2)), h3⟩)
    ?assign ?body ?done ?stop
  case assign =>
    rintro l pre ⟨k, hk⟩ X K ⟨v, gs, h0, h1, h2, h3, h4, h5, h6, h7, h8, h9⟩ hK
    obtain ⟨z1, z2, z3, z4, z5, z6, z7, he⟩ := hsh1 k hk
    obtain ⟨y1, y2, y3, y4, y5, y6, y7, hf⟩ := hsh2 k (by rw [HEL2.out]; exact hk)
    have hs7 := h7.size
    have hbX1 : Below X.heap.size X (X.alloc (.cells #[.bool z1, .slice z2 z3 z4, .slice z5 z6 z7] 51)) := (Below.refl _ _).alloc (Nat.le_refl _) _
    have hbX : Below X.heap.size X ((X.alloc (.cells #[.bool z1, .slice z2 z3 z4, .slice z5 z6 z7] 51)).alloc (.cells #[.bool y1, .slice y2 y3 y4, .slice y5 y6 y7] 51)) := hbX1.alloc (by simp) _
    have kk := KeepC.below hbX
    have HK := Lib.hid hK
    simp only [ratsAt]
    rw [he, hf]
    simp only
    clear hK
    gi_wp2
    refine HK.out _ _ (keepsFrom_below hbX) ⟨hbX.mono (by omega), hbX.block _ (by omega)⟩ ⟨v, gs, Boxed.keepC h0 kk, Boxed.keepC h1 kk, Boxed.keepC h2 kk, Boxed.keepC h3 kk, h4.keepC kk, h5.imp (fun _ _ _ h => h.keepC kk), h6, h7.trans (hbX.mono (by omega)), by simp; omega, Boxed.keepC h9 kk⟩ ⟨X.heap.size, X.heap.size + 1, h8, by omega, ?_, ?_, ?_⟩
    · simp only [he]; exact (Row.new _ _ _).alloc _
    · simp only [hf]
      have h := Row.new (X.alloc (.cells #[.bool z1, .slice z2 z3 z4, .slice z5 z6 z7] 51)) 51 #[.bool y1, .slice y2 y3 y4, .slice y5 y6 y7]
      simp only [World.size_alloc] at h
      exact h
    · simp only [he, hf]
  case body =>
    rintro l pre ⟨k, hk⟩ a' X hl hrec ⟨v, gs, h0, h1, h2, h3, h4, h5, h6, h7, h8, h9⟩ ⟨p1, p2, hp1, hp2, hR, hR', rfl⟩ hlt
    have hkf : k < fs.length := by rw [HEL2.out]; exact hk
    obtain ⟨z1, z2, z3, z4, z5, z6, z7, he⟩ := hsh1 k hk
    obtain ⟨y1, y2, y3, y4, y5, y6, y7, hf⟩ := hsh2 k hkf
    simp only at hR hR' ⊢
    rw [he] at hR ⊢
    rw [hf] at hR' ⊢
    simp only at hR hR' ⊢
    have hkq : k < q1.length := by rw [← HEL1.out]; exact hk
    have hkq2 : k < q2.length := by rw [HLEN.out]; exact hkq
    have hqk : q1[k]? = some q1[k] := List.getElem?_eq_getElem hkq
    have hqk2 : q2[k]? = some q2[k] := List.getElem?_eq_getElem hkq2
    obtain ⟨p, hpe⟩ : ∃ q, q1[k] = q := ⟨_, rfl⟩
    obtain ⟨q, hqe⟩ : ∃ q, q2[k] = q := ⟨_, rfl⟩
    rw [hpe] at hqk
    rw [hqe] at hqk2
    have hek : es[k]? = some es[k] := List.getElem?_eq_getElem hk
    have hfk : fs[k]? = some fs[k] := List.getElem?_eq_getElem hkf
    have hraw := HA1.out.2 k _ _ hek hqk
    have hraw2 := HA2.out.2 k _ _ hfk hqk2
    have e2 : es[k] = ⟨.bool z1, .slice z2 z3 z4, .slice z5 z6 z7⟩ := by rw [hek] at he; exact he
    have f2 : fs[k] = ⟨.bool y1, .slice y2 y3 y4, .slice y5 y6 y7⟩ := by rw [hfk] at hf; exact hf
    rw [e2] at hraw
    rw [f2] at hraw2
    have hmem := List.mem_of_getElem? hqk
    have hmem2 := List.mem_of_getElem? hqk2
    have hgd : q1[k]?.getD ⟨false, [], []⟩ = p := by rw [hqk]; rfl
    have hgd2 : q2[k]?.getD ⟨false, [], []⟩ = q := by rw [hqk2]; rfl
    obtain ⟨g0, g1, g2, _, _, _⟩ := hR.three
    obtain ⟨j0, j1, j2, _, _, _⟩ := hR'.three
    have c0 := Boxed.cell h0
    have hs7 := h7.size
    have hrX := hraw.later (hB.symm ▸ h7 : Below w.heap.size w X)
    have hrX2 := hraw2.later (hB.symm ▸ h7 : Below w.heap.size w X)
    have hcall := HDO.out X _ _ p q hmem hmem2 (hB.symm ▸ h7 : Below w.heap.size w X) hrX hrX2
    gi_wp2_with fail
    refine roundCall (hcall.mono ?_)
    rintro e w5 ⟨hop, hb5⟩
    have s5 := hb5.size
    have kk5 : KeepC X w5 := KeepC.below hb5
    have hB5 : Below B w w5 := h7.trans (hb5.mono (by omega))
    rcases hop with ⟨hok, rv, rfl, qv⟩ | ⟨hok, rfl⟩
    · have Q5 := Lib.hid qv
      obtain ⟨m5, f1, l1, i1, f2, l2, i2, rfl⟩ := qv.shape
      clear qv
      obtain ⟨r, hrv, hrb, hrne, hrc, hro⟩ := ownV_hits h4 (by omega)
      have n3 := hrne _ _ _ h3 (by decide)
      have n0 := hrne _ _ _ h0 (by decide)
      have n1 := hrne _ _ _ h1 (by decide)
      have n2 := hrne _ _ _ h2 (by decide)
      have n6 := hrne _ _ _ h9 (by decide)
      obtain ⟨av0, cv0, rfl⟩ := ownT_slice h4
      have hle : gs.length ≤ es.length := by rw [h5.1, List.length_map]; exact Nat.le_of_lt hlt
      have HLE := Lib.hid hle
      obtain ⟨x0, x1, x2, _, _, _⟩ := (Row.new w5 51 #[.bool m5, .slice f1 l1 i1, .slice f2 l2 i2]).three
      have c3 := Boxed.cell ((Boxed.keepC h3 kk5).alloc (.cells #[.bool m5, .slice f1 l1 i1, .slice f2 l2 i2] 51))
      have hown5 : OwnE B 51 w5 (.slice av0 gs.length cv0) gs := h4.keepC kk5
      have hall5 := h5.imp (Q := fun u x => (fun W v x => ResQ B W v x N) w5 u x) fun u x _ h => h.keepC kk5
      have b6 : Below w5.heap.size w5 (w5.alloc (.cells #[.bool m5, .slice f1 l1 i1, .slice f2 l2 i2] 51)) := (Below.refl _ _).alloc (Nat.le_refl _) _
      have HA5 := Lib.hid hall5
      have HA4 := Lib.hid h5
      clear hall5 h5
      have hcn := cell_three_new (w5.alloc (.cells #[.bool m5, .slice f1 l1 i1, .slice f2 l2 i2] 51)) (.bool m5) (.slice f1 l1 i1) (.slice f2 l2 i2) 51
      simp only [World.size_alloc] at hcn
      have HCN := Lib.hid hcn
      clear hcn
      gi_wp2_with (gi_at_builtin; refine wpListIn_append_own _ rfl _ _ 24 rfl B 51 i0 _ 3 56 Tryz.underlying24 hi hz0 hz1 hz2 rfl (by decide) _ gs.length (flat3 gs) rfl ((hown5.later b6).later ((Below.refl _ _).alloc (Nat.le_refl _) _)) ⟨w5.heap.size + 1, 0, none⟩ 1 1 [.bool m5, .slice f1 l1 i1, .slice f2 l2 i2] rfl rfl HCN.out (by simp [Value.oneCell']) (by unfold maxLen; omega) (by omega) (by simp; omega) ?_)
      intro v' w7 hown' hgrow _
      obtain ⟨av, cv, rfl⟩ := ownT_slice hown'
      have hk5 : Kept r X w5 := (Kept.refl r X).below hb5
      have hk7 : Kept r X w7 := ((hk5.alloc _).alloc _).grown hgrow hrv
      have R37 : Row w7 (B + 1 + 1 + 1 + 1) 24 #[.slice av0 gs.length cv0] := Row.kept h3 hk7 n3
      have f37 := R37.free 0
      have d37 := R37.cell 0
      have hx5 : ResQ B w5 (E3.agg ⟨.bool m5, .slice f1 l1 i1, .slice f2 l2 i2⟩) (f p.rat q.rat) N := Q5.out.mono (by omega)
      gi_wp2
      obtain ⟨hrow6, hb6⟩ := pushE (P := fun W v x => ResQ B W v x N) (e := ⟨.bool m5, .slice f1 l1 i1, .slice f2 l2 i2⟩) (base := B) (w := w) (hB5.alloc (by omega) (.cells #[.bool m5, .slice f1 l1 i1, .slice f2 l2 i2] 51)) (by simp; omega) (hown5.later b6) (HA5.out.imp fun u x _ h => h.later b6) (hx5.later b6) (fun u y h => h.apart (hown5.later b6) hgrow (by decide)) hown' hgrow
      obtain ⟨fs', ho', ha'⟩ := RowO.far (w' := w7.setCell ⟨B + 1 + 1 + 1 + 1, 0, none⟩ (.slice av (gs.length + 1) cv)) hrow6 R37 (by decide) (kept1 _) (fun u y h => h.far R37 (by decide) (kept1 _))
      have hk7s := hk7.size
      have hbk : Below B X w7 := ⟨hk7.os, hk7.tape, hk7.output, hk7.size, fun k hk => hk7.block k (by omega) (by omega)⟩
      have hsz := (Only.set w7 (B + 1 + 1 + 1 + 1) 0 (.slice av (gs.length + 1) cv)).size
      have hblk : (w7.setCell ⟨B + 1 + 1 + 1 + 1, 0, none⟩ (.slice av (gs.length + 1) cv)).heap[B + 1 + 1 + 1 + 1 + 1 + 1]? = X.heap[B + 1 + 1 + 1 + 1 + 1 + 1]? := (Below.heap_setCell w7 _ _ _ (by show B + 1 + 1 + 1 + 1 + 1 + 1 ≠ B + 1 + 1 + 1 + 1; omega)).trans (hk7.block _ (by omega) n6)
      refine ⟨keepsFrom_set (keepsFrom_kept hk7 hrc) _ _, ⟨hbk.setCell (by show B ≤ B + 1 + 1 + 1 + 1; omega) _, hblk⟩, _, fs', Row.far (p := ⟨B + 1 + 1 + 1 + 1, 0, none⟩) (Row.kept h0 hk7 n0) (by show B ≠ B + 1 + 1 + 1 + 1; omega) _, Row.far (p := ⟨B + 1 + 1 + 1 + 1, 0, none⟩) (Row.kept h1 hk7 n1) (by show B + 1 ≠ B + 1 + 1 + 1 + 1; omega) _, Row.far (p := ⟨B + 1 + 1 + 1 + 1, 0, none⟩) (Row.kept h2 hk7 n2) (by show B + 1 + 1 ≠ B + 1 + 1 + 1 + 1; omega) _,
        Boxed.set _ R37, ho', ?_, fun x hx => ?_, hb6.setCell (by show B ≤ B + 1 + 1 + 1 + 1; omega) _, by omega, Row.far (p := ⟨B + 1 + 1 + 1 + 1, 0, none⟩) (Row.kept h9 hk7 n6) (by show B + 1 + 1 + 1 + 1 + 1 + 1 ≠ B + 1 + 1 + 1 + 1; omega) _⟩
      · rw [List.map_append, List.map_cons, List.map_nil]
        simp only [hgd, hgd2]
        exact ha'
      · rcases List.mem_append.1 hx with hx | hx
        · exact h6 x hx
        · simp at hx
          subst hx
          simp only
          rw [hgd, hgd2]
          exact hok
    · have k1 := (Boxed.keepC h1 kk5).alloc (.cells #[.bool false, .slice none 0 0, .slice none 0 0] 51)
      have k2 := (Boxed.keepC h2 kk5).alloc (.cells #[.bool false, .slice none 0 0, .slice none 0 0] 51)
      have f1 := Row.free k1 0
      have d1 := Row.cell k1 0
      have k2' := Row.far k2 (p := ⟨B + 1, 0, none⟩) (by show B + 1 + 1 ≠ B + 1; omega) (.slice none 0 0)
      have f2 := Row.free k2' 0
      have d2 := Row.cell k2' 0
      have b6 : Below w5.heap.size w5 (w5.alloc (.cells #[.bool false, .slice none 0 0, .slice none 0 0] 51)) := (Below.refl _ _).alloc (Nat.le_refl _) _
      have b56 : Below X.heap.size X (w5.alloc (.cells #[.bool false, .slice none 0 0, .slice none 0 0] 51)) := hb5.trans (b6.mono s5)
      have g1 := (Row.set k1 0 (.slice none 0 0)).far (p := ⟨B + 1 + 1, 0, none⟩) (by show B + 1 ≠ B + 1 + 1; omega) (.int .i64 17)
      have g2 := Row.set k2' 0 (.int .i64 17)
      gi_wp2
      refine ⟨keepsFrom_set (keepsFrom_set (keepsFrom_below b56) _ _) _ _, rfl, g1, g2, ⟨_, List.mem_append_right _ (List.mem_singleton.2 rfl), ?_⟩, ((h7.trans (b56.mono (by omega))).setCell (by show B ≤ B + 1; omega) _).setCell (by show B ≤ B + 1 + 1; omega) _⟩
      show ok (q1[k]?.getD ⟨false, [], []⟩).rat (q2[k]?.getD ⟨false, [], []⟩).rat = false
      rw [hgd, hgd2]
      exact hok
  case done =>
    rintro D ys X hD hup ⟨v, gs, h0, h1, h2, h3, h4, h5, h6, h7, h8, h9⟩ hK
    have c3 := Boxed.cell h3
    have f1 := Row.free h1 0
    have d1 := Row.cell h1 0
    obtain ⟨av, cv, rfl⟩ := ownT_slice h4
    have h2' := Row.far h2 (p := ⟨B + 1, 0, none⟩) (by show B + 1 + 1 ≠ B + 1; omega) (.slice av gs.length cv)
    have f2 := Row.free h2' 0
    have d2 := Row.cell h2' 0
    have HOK := Lib.hid h6
    have HA24 := Lib.hid h5
    clear h5 h6
    gi_wp2
    have hrow : RowO B 51 (fun W v x => ResQ B W v x N) X (.slice av gs.length cv) (zipQ f q1 q2) := ⟨gs, h4, by
      have h := HA24.out
      rw [zip_upto (fun p q => f p.rat q.rat) HEL1.out.symm (by rw [HLEN.out]; exact HEL1.out.symm) hup] at h
      exact h⟩
    have hzip : zipOk ok q1 q2 = true := by
      unfold zipOk
      rw [← zip_upto (fun p q => ok p.rat q.rat) HEL1.out.symm (by rw [HLEN.out]; exact HEL1.out.symm) hup, List.all_map, List.all_eq_true]
      intro x hx
      exact HOK.out x hx
    have r1 := (Row.set h1 0 (.slice av gs.length cv)).far (p := ⟨B + 1 + 1, 0, none⟩) (by show B + 1 ≠ B + 1 + 1; omega) (.int .i64 0)
    have r2 := Row.set h2' 0 (.int .i64 0)
    have hrow1 := RowO.far (w' := X.setCell ⟨B + 1, 0, none⟩ (.slice av gs.length cv)) hrow h1 (by decide) (kept1 (.slice av gs.length cv)) (fun u y h => h.far h1 (by decide) (kept1 _))
    have hrow2 := RowO.far (w' := (X.setCell ⟨B + 1, 0, none⟩ (.slice av gs.length cv)).setCell ⟨B + 1 + 1, 0, none⟩ (.int .i64 0)) hrow1 h2' (by decide) (kept1 (.int .i64 0)) (fun u y h => h.far h2' (by decide) (kept1 _))
    have hK' := (KeepsOthers.setCell (X.setCell ⟨B + 1, 0, none⟩ (.slice av gs.length cv)) ⟨B + 1 + 1, 0, none⟩ (.int .i64 0)).same D _ ((KeepsOthers.setCell X ⟨B + 1, 0, none⟩ (.slice av gs.length cv)).same D _ hK rfl) rfl
    have hbE := (h7.setCell (p := ⟨B + 1, 0, none⟩) (by show B ≤ B + 1; omega) (.slice av gs.length cv)).setCell (p := ⟨B + 1 + 1, 0, none⟩) (by show B ≤ B + 1 + 1; omega) (.int .i64 0)
    have hsE := hbE.size
    generalize hY : (X.setCell ⟨B + 1, 0, none⟩ (.slice av gs.length cv)).setCell ⟨B + 1 + 1, 0, none⟩ (.int .i64 0) = Y at *
    refine ⟨by simp, .inl ⟨_, _, rfl, run_takeDeferred hK', ?_⟩⟩
    have kk : ∀ o', KeepC Y (Y.putObj D o') := fun o' => KeepC.grown (grownBy_putObj' Y D o') (fun r e => by cases e; exact ⟨_, hK', rfl⟩)
    have hc1 := cell_kept (Row.cell r1 0) (grownBy_putObj' _ D (.deferred none)) (fun r e => by cases e; exact ⟨_, hK', rfl⟩)
    have hc2 := cell_kept (Row.cell r2 0) (grownBy_putObj' _ D (.deferred none)) (fun r e => by cases e; exact ⟨_, hK', rfl⟩)
    simp at hc1 hc2
    obtain ⟨fs', ho', ha'⟩ := hrow2
    refine ⟨.tuple #[.slice av gs.length cv, .int .i64 0], by simp [results, Tryz.f91, go_sem, hc1, hc2], .inl ⟨hzip, _, rfl, fs', ho'.keepC (kk _), ha'.imp fun u x _ h => h.keepC (kk _)⟩, ?_⟩
    exact hbE.trans (belowK_b (n₀ := B) (w := w) (by omega) _ D _ _ (by omega) hK' rfl rfl)
  case stop =>
    rintro D c pre X hD ⟨k, hk, hup⟩ ⟨rfl, h1, h2, ⟨x, hx, hbad⟩, h4⟩ hK
    have hzip : zipOk ok q1 q2 = false := zipOk_bad (by rw [← HEL1.out]; exact x.isLt) HLEN.out hbad
    have hs4 := h4.size
    gi_wp2
    refine ⟨by simp, .inl ⟨_, _, rfl, run_takeDeferred hK, ?_⟩⟩
    have hc1 := cell_kept (Row.cell h1 0) (grownBy_putObj' _ D (.deferred none)) (fun r e => by cases e; exact ⟨_, hK, rfl⟩)
    have hc2 := cell_kept (Row.cell h2 0) (grownBy_putObj' _ D (.deferred none)) (fun r e => by cases e; exact ⟨_, hK, rfl⟩)
    simp at hc1 hc2
    refine ⟨.tuple #[.slice none 0 0, .int .i64 17], by simp [results, Tryz.f91, go_sem, hc1, hc2], .inr ⟨hzip, rfl⟩, ?_⟩
    rw [hB]
    exact h4.trans (belowK_b (n₀ := B) (w := w) (by omega) _ D _ _ (by omega) hK rfl rfl)
end Go.Proofs.YtjcacmnmbbnffaaGreat
