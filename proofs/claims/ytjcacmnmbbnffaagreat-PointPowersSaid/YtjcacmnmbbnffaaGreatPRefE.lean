/-
  The reference of layer 8: Add, Sub, Mul, of any two shapes. (Made by wip/gen/gen_prefe.py.)
-/
import Derived.Test.YtjcacmnmbbnffaaGreatPRefB
import Derived.Test.YtjcacmnmbbnffaaGreatPRefC
namespace Go.Proofs.YtjcacmnmbbnffaaGreat
open Go.RowKit
set_option linter.unusedVariables false
set_option linter.unusedSimpArgs false

/-- what a function of the reference answers of two tensors -/
def TwoR (w : World) (e : Ending) (c : Int) (s : List Int) (L : List Rat) (N : Nat) : Prop :=
  ∃ a b n m ca cb, e = .returned (.tuple #[.agg #[.slice a n ca, .slice b m cb], .int .i64 c]) ∧ (c = 0 → TenR w (.agg #[.slice a n ca, .slice b m cb]) s L N)
theorem noIntsT (a b : Option Addr) (n m ca cb : Nat) : NoInts #[.slice a n ca, .slice b m cb] := by
  intro i k x
  match i with
  | 0 => simp
  | 1 => simp
  | _ + 2 => simp
theorem TensR.far {w w' : World} {v : Value} {s : List Int} {L : List Rat} {n g : Nat} {t : TypeId} {a b p1 p2 : Option Addr} {ca cb l1 l2 k1 k2 : Nat} (h : TensR w v s L n a ca b cb) (R : Row w g t #[.slice p1 l1 k1, .slice p2 l2 k2]) (hk : ∀ k, k ≠ g → w'.heap[k]? = w.heap[k]?) : TensR w' v s L n a ca b cb := by
  have hcell : ∀ (p : Addr) (u : Value), p.block ≠ g → w.cell? p = some u → w'.cell? p = some u := fun p u hp hu => (World.cell?_of_block (hk p.block hp)).trans hu
  have hno : ∀ (o : Nat) (x : Value), w.cell? ⟨g, o, none⟩ = some x → ∃ q l k, x = .slice q l k := fun o x hx => by
    rw [R.cell] at hx
    match o, hx with
    | 0, hx => simp at hx; exact ⟨_, _, _, hx.symm⟩
    | 1, hx => simp at hx; exact ⟨_, _, _, hx.symm⟩
    | o + 2, hx => simp at hx
  refine ⟨h.is, ⟨h.sh.is, ?_, h.sh.le, h.sh.wf⟩, h.nila, ⟨h.el.is, h.el.le, ?_⟩, h.nilb⟩
  · rcases h.sh.lim with e | ⟨bb, off, e, hc⟩
    · exact .inl e
    · refine .inr ⟨bb, off, e, fun i hi => hcell _ _ (fun e2 => ?_) (hc i hi)⟩
      have e3 : bb = g := e2
      subst e3
      obtain ⟨q, l, k, e4⟩ := hno _ _ (hc i hi)
      cases e4
  · rcases h.el.els with e | ⟨bb, o, es, e, hc, hall⟩
    · exact .inl e
    · refine .inr ⟨bb, o, es, e, fun i d hd => ?_, hall.imp fun u x _ h => h.far R (noIntsT _ _ _ _ _ _) hk⟩
      obtain ⟨c0, c1, c2⟩ := hc i d hd
      have hi : i < es.length := by
        rcases Nat.lt_or_ge i es.length with g1 | g1
        · exact g1
        · rw [List.getElem?_eq_none g1] at hd; cases hd
      have hi2 : i < L.length := by rw [← hall.1]; exact hi
      have hx := hall.2 i d _ hd (List.getElem?_eq_getElem hi2)
      have hb : bb ≠ g := fun e2 => by
        subst e2
        obtain ⟨q, l, k, e4⟩ := hno _ _ c0
        obtain ⟨_, _, _, _, _, _, e5, _⟩ := hx
        unfold E3.agg at e5
        rw [e4] at e5
        simp at e5
      exact ⟨hcell _ _ hb c0, hcell _ _ hb c1, hcell _ _ hb c2⟩
def shC (s1 s2 : List Int) : Int := if s2 = s1 then 0 else 13
set_option maxRecDepth 100000 in
set_option maxHeartbeats 8000000 in
theorem addT_bad {n : Nat} {w : World} {v u : Value} {s s2 : List Int} {L1 L2 : List Rat} {a b a2 b2 : Option Addr} {ca cb ca2 cb2 : Nat} (T : TensR w v s L1 n a ca b cb) (T2 : TensR w u s2 L2 n a2 ca2 b2 cb2) (hs : s.length ≤ 17592186044416) (hq : L1.length ≤ 1000000) (hn : n ≤ 1000000) (hsh : s2 ≠ s) :
    Calls Tryz.prog 17 #[v, u] w fun e w' => e = .returned (.tuple #[.agg #[.slice none 0 0, .slice none 0 0], .int .i64 13]) ∧ Below w.heap.size w w' := by
  obtain rfl := T.is
  obtain rfl := T2.is
  obtain ⟨W, hW⟩ : ∃ W, (((w.alloc (.cells #[.slice a s.length ca, .slice b L1.length cb] 36)).alloc (.cells #[.slice a2 s2.length ca2, .slice b2 L2.length cb2] 36)).alloc (.cells #[.slice none 0 0, .slice none 0 0] 36)) = W := ⟨_, rfl⟩
  have R0 : Row W (w.heap.size) 36 #[.slice a s.length ca, .slice b L1.length cb] := by rw [← hW]; have h := Row.new w 36 #[.slice a s.length ca, .slice b L1.length cb]; (try simp only [World.size_alloc] at h); exact ((h.alloc _).alloc _)
  have R1 : Row W (w.heap.size + 1) 36 #[.slice a2 s2.length ca2, .slice b2 L2.length cb2] := by rw [← hW]; have h := Row.new (w.alloc (.cells #[.slice a s.length ca, .slice b L1.length cb] 36)) 36 #[.slice a2 s2.length ca2, .slice b2 L2.length cb2]; (try simp only [World.size_alloc] at h); exact (h.alloc _)
  have R2 : Row W (w.heap.size + 1 + 1) 36 #[.slice none 0 0, .slice none 0 0] := by rw [← hW]; have h := Row.new ((w.alloc (.cells #[.slice a s.length ca, .slice b L1.length cb] 36)).alloc (.cells #[.slice a2 s2.length ca2, .slice b2 L2.length cb2] 36)) 36 #[.slice none 0 0, .slice none 0 0]; (try simp only [World.size_alloc] at h); exact h
  have hBW : Below w.heap.size w W := by rw [← hW]; exact ((((Below.refl _ _).alloc (by (try simp) <;> omega) _).alloc (by (try simp) <;> omega) _).alloc (by (try simp) <;> omega) _)
  have hsW : W.heap.size = w.heap.size + 1 + 1 + 1 := by rw [← hW]; simp
  have hsame := sameSh_any (T.later hBW).sh (T2.later hBW).sh (by omega)
  rw [decide_eq_false (fun h => hsh h.symm)] at hsame
  obtain ⟨p0, p1, _, _⟩ := R0.two
  obtain ⟨p2, p3, _, _⟩ := R1.two
  clear T T2 hsh
  go_enter Tryz.func17, Tryz.ntmps17
  (try rw [hW])
  go_wp2_with fail
  refine hsame.mono ?_
  rintro e w2 ⟨rfl, hb2⟩
  have P2 := R2.later hb2
  obtain ⟨u0, u1, g0, g1⟩ := P2.two
  have hs2 := hb2.size
  have P3 := P2.set2 (.slice none 0 0) (.slice none 0 0)
  obtain ⟨z0, z1, _, _⟩ := P3.two
  go_wp2_with fail
  exact bodyPost_ret (v := .tuple #[.agg #[.slice none 0 0, .slice none 0 0], .int .i64 13]) (by simp [results, Tryz.results17, go_sem, z0, z1]) rfl ⟨rfl, below_set2 (hBW.trans (hb2.mono (by omega))) (by omega) _ _⟩
set_option maxRecDepth 100000 in
set_option maxHeartbeats 8000000 in
theorem mulT_bad {n : Nat} {w : World} {v u : Value} {s s2 : List Int} {L1 L2 : List Rat} {a b a2 b2 : Option Addr} {ca cb ca2 cb2 : Nat} (T : TensR w v s L1 n a ca b cb) (T2 : TensR w u s2 L2 n a2 ca2 b2 cb2) (hs : s.length ≤ 17592186044416) (hq : L1.length ≤ 1000000) (hn : n ≤ 1000000) (hsh : s2 ≠ s) :
    Calls Tryz.prog 22 #[v, u] w fun e w' => e = .returned (.tuple #[.agg #[.slice none 0 0, .slice none 0 0], .int .i64 13]) ∧ Below w.heap.size w w' := by
  obtain rfl := T.is
  obtain rfl := T2.is
  obtain ⟨W, hW⟩ : ∃ W, (((w.alloc (.cells #[.slice a s.length ca, .slice b L1.length cb] 36)).alloc (.cells #[.slice a2 s2.length ca2, .slice b2 L2.length cb2] 36)).alloc (.cells #[.slice none 0 0, .slice none 0 0] 36)) = W := ⟨_, rfl⟩
  have R0 : Row W (w.heap.size) 36 #[.slice a s.length ca, .slice b L1.length cb] := by rw [← hW]; have h := Row.new w 36 #[.slice a s.length ca, .slice b L1.length cb]; (try simp only [World.size_alloc] at h); exact ((h.alloc _).alloc _)
  have R1 : Row W (w.heap.size + 1) 36 #[.slice a2 s2.length ca2, .slice b2 L2.length cb2] := by rw [← hW]; have h := Row.new (w.alloc (.cells #[.slice a s.length ca, .slice b L1.length cb] 36)) 36 #[.slice a2 s2.length ca2, .slice b2 L2.length cb2]; (try simp only [World.size_alloc] at h); exact (h.alloc _)
  have R2 : Row W (w.heap.size + 1 + 1) 36 #[.slice none 0 0, .slice none 0 0] := by rw [← hW]; have h := Row.new ((w.alloc (.cells #[.slice a s.length ca, .slice b L1.length cb] 36)).alloc (.cells #[.slice a2 s2.length ca2, .slice b2 L2.length cb2] 36)) 36 #[.slice none 0 0, .slice none 0 0]; (try simp only [World.size_alloc] at h); exact h
  have hBW : Below w.heap.size w W := by rw [← hW]; exact ((((Below.refl _ _).alloc (by (try simp) <;> omega) _).alloc (by (try simp) <;> omega) _).alloc (by (try simp) <;> omega) _)
  have hsW : W.heap.size = w.heap.size + 1 + 1 + 1 := by rw [← hW]; simp
  have hsame := sameSh_any (T.later hBW).sh (T2.later hBW).sh (by omega)
  rw [decide_eq_false (fun h => hsh h.symm)] at hsame
  obtain ⟨p0, p1, _, _⟩ := R0.two
  obtain ⟨p2, p3, _, _⟩ := R1.two
  clear T T2 hsh
  go_enter Tryz.func22, Tryz.ntmps22
  (try rw [hW])
  go_wp2_with fail
  refine hsame.mono ?_
  rintro e w2 ⟨rfl, hb2⟩
  have P2 := R2.later hb2
  obtain ⟨u0, u1, g0, g1⟩ := P2.two
  have hs2 := hb2.size
  have P3 := P2.set2 (.slice none 0 0) (.slice none 0 0)
  obtain ⟨z0, z1, _, _⟩ := P3.two
  go_wp2_with fail
  exact bodyPost_ret (v := .tuple #[.agg #[.slice none 0 0, .slice none 0 0], .int .i64 13]) (by simp [results, Tryz.results22, go_sem, z0, z1]) rfl ⟨rfl, below_set2 (hBW.trans (hb2.mono (by omega))) (by omega) _ _⟩
theorem addT2_any {n : Nat} {w : World} {v u : Value} {s s2 : List Int} {L1 L2 : List Rat} {a b a2 b2 : Option Addr} {ca cb ca2 cb2 : Nat} (T : TensR w v s L1 n a ca b cb) (T2 : TensR w u s2 L2 n a2 ca2 b2 cb2) (hs : s.length ≤ 17592186044416) (hq : L1.length ≤ 1000000) (hn : n ≤ 1000000) (hlen : s2 = s → L2.length = L1.length) :
    Calls Tryz.prog 17 #[v, u] w fun e w' => TwoR w' e (shC s s2) s (List.zipWith (fun x y => x + y) L1 L2) (3 * n + 6) ∧ Below w.heap.size w w' := by
  unfold shC
  by_cases h : s2 = s
  · rw [if_pos h]
    refine (addT_any T T2 hs hq hn h (hlen h)).mono fun e w' ⟨r, h1, h2, h3⟩ => ⟨?_, h3⟩
    obtain ⟨a', ca', b', cb', U⟩ := h2
    obtain rfl := U.is
    exact ⟨_, _, _, _, _, _, h1, fun _ => ⟨a', ca', b', cb', U⟩⟩
  · rw [if_neg h]
    exact (addT_bad T T2 hs hq hn h).mono fun e w' ⟨h1, h3⟩ => ⟨⟨_, _, _, _, _, _, h1, fun h => by cases h⟩, h3⟩
theorem mulT2_any {n : Nat} {w : World} {v u : Value} {s s2 : List Int} {L1 L2 : List Rat} {a b a2 b2 : Option Addr} {ca cb ca2 cb2 : Nat} (T : TensR w v s L1 n a ca b cb) (T2 : TensR w u s2 L2 n a2 ca2 b2 cb2) (hs : s.length ≤ 17592186044416) (hq : L1.length ≤ 1000000) (hn : n ≤ 1000000) (hlen : s2 = s → L2.length = L1.length) :
    Calls Tryz.prog 22 #[v, u] w fun e w' => TwoR w' e (shC s s2) s (List.zipWith (fun x y => x * y) L1 L2) (3 * n + 5) ∧ Below w.heap.size w w' := by
  unfold shC
  by_cases h : s2 = s
  · rw [if_pos h]
    refine (mulT_any T T2 hs hq hn h (hlen h)).mono fun e w' ⟨r, h1, h2, h3⟩ => ⟨?_, h3⟩
    obtain ⟨a', ca', b', cb', U⟩ := h2
    obtain rfl := U.is
    exact ⟨_, _, _, _, _, _, h1, fun _ => ⟨a', ca', b', cb', U⟩⟩
  · rw [if_neg h]
    exact (mulT_bad T T2 hs hq hn h).mono fun e w' ⟨h1, h3⟩ => ⟨⟨_, _, _, _, _, _, h1, fun h => by cases h⟩, h3⟩
theorem zip_neg (L1 L2 : List Rat) : List.zipWith (fun x y => x + y) L1 (L2.map fun x => -x) = List.zipWith (fun x y => x - y) L1 L2 := by
  induction L1 generalizing L2 with
  | nil => simp
  | cons x r ih =>
    cases L2 with
    | nil => simp
    | cons y t => simp only [List.map_cons, List.zipWith_cons_cons, ih, Rat.sub_eq_add_neg]
set_option maxRecDepth 100000 in
set_option maxHeartbeats 8000000 in
theorem subT2_any {n : Nat} {w : World} {v u : Value} {s s2 : List Int} {L1 L2 : List Rat} {a b a2 b2 : Option Addr} {ca cb ca2 cb2 : Nat} (T : TensR w v s L1 n a ca b cb) (T2 : TensR w u s2 L2 n a2 ca2 b2 cb2) (hs : s.length ≤ 17592186044416) (hq : L1.length ≤ 1000000) (hn : n ≤ 1000000) (hq2 : L2.length ≤ 1000000) (hs2 : s2.length ≤ 17592186044416) (hlen : s2 = s → L2.length = L1.length) :
    Calls Tryz.prog 19 #[v, u] w fun e w' => TwoR w' e (shC s s2) s (List.zipWith (fun x y => x - y) L1 L2) (3 * n + 6) ∧ Below w.heap.size w w' := by
  have HT := Lib.hid T
  have HT2 := Lib.hid T2
  have HLE := Lib.hid hlen
  obtain rfl := T.is
  obtain rfl := T2.is
  obtain ⟨W, hW⟩ : ∃ W, (((w.alloc (.cells #[.slice a s.length ca, .slice b L1.length cb] 36)).alloc (.cells #[.slice a2 s2.length ca2, .slice b2 L2.length cb2] 36)).alloc (.cells #[.slice none 0 0, .slice none 0 0] 36)) = W := ⟨_, rfl⟩
  have R0 : Row W (w.heap.size) 36 #[.slice a s.length ca, .slice b L1.length cb] := by rw [← hW]; have h := Row.new w 36 #[.slice a s.length ca, .slice b L1.length cb]; (try simp only [World.size_alloc] at h); exact ((h.alloc _).alloc _)
  have R1 : Row W (w.heap.size + 1) 36 #[.slice a2 s2.length ca2, .slice b2 L2.length cb2] := by rw [← hW]; have h := Row.new (w.alloc (.cells #[.slice a s.length ca, .slice b L1.length cb] 36)) 36 #[.slice a2 s2.length ca2, .slice b2 L2.length cb2]; (try simp only [World.size_alloc] at h); exact (h.alloc _)
  have R2 : Row W (w.heap.size + 1 + 1) 36 #[.slice none 0 0, .slice none 0 0] := by rw [← hW]; have h := Row.new ((w.alloc (.cells #[.slice a s.length ca, .slice b L1.length cb] 36)).alloc (.cells #[.slice a2 s2.length ca2, .slice b2 L2.length cb2] 36)) 36 #[.slice none 0 0, .slice none 0 0]; (try simp only [World.size_alloc] at h); exact h
  have hBW : Below w.heap.size w W := by rw [← hW]; exact ((((Below.refl _ _).alloc (by (try simp) <;> omega) _).alloc (by (try simp) <;> omega) _).alloc (by (try simp) <;> omega) _)
  have hsW : W.heap.size = w.heap.size + 1 + 1 + 1 := by rw [← hW]; simp
  have mkS : ∀ X, Below W.heap.size W X → X.cell? ⟨w.heap.size, 0, none⟩ = some (.slice a s.length ca) ∧ X.cell? ⟨w.heap.size, 1, none⟩ = some (.slice b L1.length cb) ∧ X.cell? ⟨w.heap.size + 1, 0, none⟩ = some (.slice a2 s2.length ca2) ∧ X.cell? ⟨w.heap.size + 1, 1, none⟩ = some (.slice b2 L2.length cb2) := fun X h => by
    obtain ⟨x0, x1, _⟩ := (R0.later h).two
    obtain ⟨x2, x3, _⟩ := (R1.later h).two
    exact ⟨x0, x1, x2, x3⟩
  have B0 : Below W.heap.size W W.drew := (Below.refl _ W).drew
  obtain ⟨c, hc⟩ : ∃ c, shC s s2 = c := ⟨_, rfl⟩
  obtain ⟨L, hL⟩ : ∃ L, List.zipWith (fun x y => x - y) L1 L2 = L := ⟨_, rfl⟩
  have HC := Lib.hid hc
  have HLL := Lib.hid hL
  rw [hc, hL]
  clear T T2 hlen hc hL
  go_enter Tryz.func19, Tryz.ntmps19
  go_wp2_with fail
  (try rw [hW])
  clear hW
  refine wp_region_held_drew (S := fun X => X.cell? ⟨w.heap.size, 0, none⟩ = some (.slice a s.length ca) ∧ X.cell? ⟨w.heap.size, 1, none⟩ = some (.slice b L1.length cb) ∧ X.cell? ⟨w.heap.size + 1, 0, none⟩ = some (.slice a2 s2.length ca2) ∧ X.cell? ⟨w.heap.size + 1, 1, none⟩ = some (.slice b2 L2.length cb2)) (by kernel_rfl) (mkS _ B0) (fun hHeld => ?_)
  refine todo [0, 1] ?_
  iterate 2
   refine todoH (v := ?_) rfl (by kernel_rfl) (fun _ _ _ h => h) (by assumption) (Or.inl ⟨by rfl, ?_⟩) ?_
   rotate_left
   · intro w hSw; (try dsimp only at hSw); go_simp; (try with_reducible rfl)
   try simp only [Act.put, List.getElem_toArray, List.getElem_cons_succ, List.getElem_cons_zero, List.setIfInBounds_toArray, List.set_cons_zero, List.set_cons_succ]
  refine todone ?_
  refine wpAnyH_ready (rs := [2]) (by kernel_rfl) (by simp) ?_
  refine AllReadyH.cons rfl (fun K hK => ?sneg) AllReadyH.nil
  go_simp
  refine (negT_any (HT2.out.later (hBW.trans (B0.mono (by omega)))) hs2 hq2 hn).mono ?_
  rintro e y1 ⟨r1, rfl, TN, hb1⟩
  have B1 : Below W.heap.size W y1 := B0.trans (hb1.mono B0.size)
  obtain ⟨na, nca, nb, ncb, TN⟩ := TN
  have HTN := Lib.hid TN
  clear TN
  go_simp
  refine hK.out _ _ ?kneg (fun hHeld => ?mneg)
  case kneg =>
    try dsimp only
    exact mkS _ B1
  clear hK K
  try simp only [Act.put, List.setIfInBounds_toArray, List.set_cons_zero, List.set_cons_succ]
  refine wpAnyH_ready (rs := [3]) (by kernel_rfl) (by simp) ?_
  refine AllReadyH.cons rfl (fun K hK => ?sadd) AllReadyH.nil
  go_simp
  refine (addT2_any (HT.out.later (hBW.trans (B1.mono (by omega)))) HTN.out hs hq hn (fun h => by rw [List.length_map]; exact HLE.out h)).mono ?_
  rintro e y2 ⟨h, hb2⟩
  rw [HC.out, zip_neg, HLL.out] at h
  obtain ⟨g1, g2, l1, l2, g3, g4, rfl, hr⟩ := h
  have A2 : Below W.heap.size W y2 := B1.trans (hb2.mono B1.size)
  have A2s := A2.size
  have P2 := R2.later A2
  have HR := Lib.hid hr
  clear hr
  go_simp
  refine hK.out _ _ ?kadd (fun hHeld => ?madd)
  case kadd =>
    try dsimp only
    exact mkS _ A2
  clear hK K
  try simp only [Act.put, List.setIfInBounds_toArray, List.set_cons_zero, List.set_cons_succ]
  refine todo [4, 5] ?_
  iterate 2
   refine todoH (v := ?_) rfl (by kernel_rfl) (fun _ _ _ h => h) (by assumption) (Or.inl ⟨by rfl, ?_⟩) ?_
   rotate_left
   · intro w hSw; (try dsimp only at hSw); go_simp; (try with_reducible rfl)
   try simp only [Act.put, List.getElem_toArray, List.getElem_cons_succ, List.getElem_cons_zero, List.setIfInBounds_toArray, List.set_cons_zero, List.set_cons_succ]
  refine todone ?_
  obtain ⟨k0, k1, k2, k3⟩ := P2.two
  refine wpAnyH_ready (rs := [6]) (by kernel_rfl) (by simp) ?_
  refine AllReadyH.cons rfl (fun K hK => ?sst6) AllReadyH.nil
  go_simp
  refine afterSet2 P2 (fun X6 o6 zs6 => ?_)
  refine hK.out _ _ ?kst6 (fun hHeld => ?mst6)
  case kst6 =>
    try dsimp only
    exact ⟨((R0.later A2).only o6 (by omega)).cell 0, ((R0.later A2).only o6 (by omega)).cell 1, ((R1.later A2).only o6 (by omega)).cell 0, ((R1.later A2).only o6 (by omega)).cell 1⟩
  clear hK K
  try simp only [Act.put, List.setIfInBounds_toArray, List.set_cons_zero, List.set_cons_succ]
  refine wpAnyH_ready (rs := [7]) (by kernel_rfl) (by simp) ?_
  refine AllReadyH.cons rfl (fun K hK => ?sas7) AllReadyH.nil
  go_simp
  refine hK.out _ _ ?kas7 (fun hHeld => ?mas7)
  case kas7 =>
    try dsimp only
    exact ⟨((R0.later A2).only o6 (by omega)).cell 0, ((R0.later A2).only o6 (by omega)).cell 1, ((R1.later A2).only o6 (by omega)).cell 0, ((R1.later A2).only o6 (by omega)).cell 1⟩
  clear hK K
  try simp only [Act.put, List.setIfInBounds_toArray, List.set_cons_zero, List.set_cons_succ]
  refine wpAnyH_done (by kernel_rfl) ?_ _
  (try dsimp only [Straight])
  obtain ⟨z0, z1, _, _⟩ := zs6.two
  have hB6 : Below w.heap.size w X6 := (hBW.trans (A2.mono (by omega))).trans (o6.below (by omega))
  go_wp2_with fail
  refine bodyPost_ret (v := .tuple #[.agg #[.slice g1 l1 g3, .slice g2 l2 g4], .int .i64 c]) (by simp [results, Tryz.results19, go_sem, z0, z1]) rfl ⟨⟨_, _, _, _, _, _, rfl, fun h => ?_⟩, hB6⟩
  obtain ⟨ta, tca, tb, tcb, U⟩ := HR.out h
  exact ⟨ta, tca, tb, tcb, U.far P2 (fun k hk => o6.block k hk)⟩
end Go.Proofs.YtjcacmnmbbnffaaGreat
