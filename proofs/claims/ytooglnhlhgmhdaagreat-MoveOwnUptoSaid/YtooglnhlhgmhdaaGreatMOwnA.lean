/-
  Layer 9's law MoveOwn: what moves nothing; what is kept from a block on. (Made by wip/gen/gen_mown.py.)
-/
import Derived.Test.YtooglnhlhgmhdaaGreatMLoot
import Derived.Test.YtooglnhlhgmhdaaGreatK32
import Derived.Deep.AppendLies
namespace Go.Proofs.YtooglnhlhgmhdaaGreat
open Go.RowKit
set_option linter.unusedVariables false
set_option linter.unusedSimpArgs false

/-- the blocks from B on are kept -/
def Tail (B : Nat) (X Y : World) : Prop := ∀ b, B ≤ b → b < X.heap.size → Y.heap[b]? = X.heap[b]?
theorem Tail.refl (B : Nat) (X : World) : Tail B X X := fun _ _ _ => rfl
theorem Tail.of {B : Nat} {X Y : World} (h : Below X.heap.size X Y) : Tail B X Y := fun b _ h2 => h.block b h2
theorem Tail.trans {B : Nat} {X Y Z : World} (h : Tail B X Y) (hs : X.heap.size ≤ Y.heap.size) (k : Tail B Y Z) : Tail B X Z := fun b h1 h2 => (k b h1 (by omega)).trans (h b h1 h2)
theorem Tail.mono {B C : Nat} {X Y : World} (h : Tail B X Y) (hb : B ≤ C) : Tail C X Y := fun b h1 h2 => h b (by omega) h2
theorem Tail.set {B b k : Nat} {X Y : World} (h : Tail B X Y) (hb : b < B) (u : Value) : Tail B X (Y.setCell ⟨b, k, none⟩ u) := fun c h1 h2 => (Below.heap_setCell _ _ _ _ (by show c ≠ b; omega)).trans (h c h1 h2)
theorem Tail.row {B g : Nat} {X Y : World} {t : TypeId} {cs : Array Value} (h : Tail B X Y) (R : Row X g t cs) (hg : B ≤ g) : Row Y g t cs := (h g hg R.lt).trans R
theorem ownsRow_tail {base n size : Nat} {e : TypeId} {X Y : World} {v : Value} {xs : List Value} (h : X.ownsRow base e size v n xs) (k : Tail base X Y) : Y.ownsRow base e size v n xs := by
  obtain ⟨h1, h2⟩ := h
  refine ⟨h1, ?_⟩
  rcases h2 with h2 | ⟨g, cap, cur, rfl, hb, hg, hc, hm, hs, ht⟩
  · exact .inl h2
  · exact .inr ⟨g, cap, cur, rfl, hb, (k g hb (lt_of_block hg)).trans hg, hc, hm, hs, ht⟩
theorem ResQ.tail {base n : Nat} {X Y : World} {v : Value} {x : Rat} (h : ResQ base X v x n) (k : Tail base X Y) : ResQ base Y v x n := by
  obtain ⟨zs, ys, ad, bd, ca, cb, hv, A, B, h1, h2⟩ := h
  exact ⟨zs, ys, ad, bd, ca, cb, hv, ⟨ownsRow_tail A.num k, A.wf, A.full, A.eq⟩, ⟨ownsRow_tail B.num k, B.wf, B.full, B.eq⟩, h1, h2⟩
theorem ResT.tail {base m : Nat} {X Y : World} {v : Value} {s : List Int} {L : List Rat} (h : ResT base X v s L m) (k : Tail base X Y) : ResT base Y v s L m := by
  obtain ⟨a, b, ca, cb, hv, h1, es, h2, h3⟩ := h
  exact ⟨a, b, ca, cb, hv, ⟨ownsRow_tail h1.num k, h1.wf⟩, es, ownsRow_tail h2 k, h3.imp fun v x _ h => ResQ.tail h k⟩
/-- two rows of numbers in the making -/
def TwoI (base : Nat) (w : World) (u v : Value) (A B : List Int) : Prop := NumS base w u A ∧ NumS base w v B ∧ ∀ g, u.ownBlock = some g → v.ownBlock ≠ some g
theorem TwoI.nil (base : Nat) (w : World) : TwoI base w (.slice none 0 0) (.slice none 0 0) [] [] := ⟨World.ownsRow_nil _ _ _ _, World.ownsRow_nil _ _ _ _, fun g h => by cases h⟩
theorem TwoI.swap {base : Nat} {w : World} {u v : Value} {A B : List Int} (h : TwoI base w u v A B) : TwoI base w v u B A := ⟨h.2.1, h.1, fun g a b => h.2.2 g b a⟩
theorem TwoI.push {base g cap : Nat} {X w1 : World} {o : Obj} {u v : Value} {A B C : List Int} {n : Nat} (h : TwoI base X u v A B) (hn : n = A.length + C.length)
    (hown' : w1.ownsRow base 3 1 (.slice (some ⟨g, 0, none⟩) n cap) n (A.map (Value.int .i64) ++ C.map (Value.int .i64))) (hgrow : (X.alloc o).grownBy w1 u.ownBlock) (hg : u.ownBlock = some g ∨ g = (X.alloc o).heap.size) (hbase : base ≤ X.heap.size) :
    TwoI base w1 (.slice (some ⟨g, 0, none⟩) n cap) v (A ++ C) B ∧ Below base X w1 := by
  subst hn
  have hA : Below base X (X.alloc o) := (Below.refl _ _).alloc hbase _
  refine ⟨⟨?_, ?_, ?_⟩, hA.grown hgrow (by simp; omega) (fun k hk => (World.ownsRow.lt h.1 k hk).1)⟩
  · unfold NumS
    rw [List.length_append, List.map_append]
    exact hown'
  · obtain ⟨h1, h2⟩ := h.2.1
    refine ⟨h1, ?_⟩
    rcases h2 with h2 | ⟨g2, cap2, cur, rfl, hb, hg2, hc, hm, hs, ht⟩
    · exact .inl h2
    · have hlt := lt_of_block hg2
      exact .inr ⟨g2, cap2, cur, rfl, hb, ((hgrow.block g2 (by simp; omega) (fun e => h.2.2 g2 e.symm rfl)).trans (Below.heap_alloc _ _ _ hlt)).trans hg2, hc, hm, hs, ht⟩
  · intro g' e1 e2
    have e3 : g' = g := by simpa [Value.ownBlock] using e1.symm
    subst e3
    have hlt := (World.ownsRow.lt h.2.1 g' e2).2
    rcases hg with hg | hg
    · exact h.2.2 g' hg e2
    · simp at hg; omega
theorem TwoI.later {base : Nat} {w w' : World} {u v : Value} {A B : List Int} (h : TwoI base w u v A B) (hb : Below w.heap.size w w') : TwoI base w' u v A B := ⟨h.1.later hb, h.2.1.later hb, h.2.2⟩
theorem cell_one9 (w : World) (a : Value) (t : TypeId) : ∀ j u, [a][j]? = some u → (w.alloc (.cells #[a] t)).cell? ((⟨w.heap.size, 0, none⟩ : Addr).add j) = some u := by
  intro j u hj
  match j, hj with
  | 0, hj => simp at hj; subst hj; simp [Addr.add]
  | j + 1, hj => simp at hj
theorem cell_two9 (w : World) (a b : Value) (t : TypeId) : ∀ j u, [a, b][j]? = some u → (w.alloc (.cells #[a, b] t)).cell? ((⟨w.heap.size, 0, none⟩ : Addr).add j) = some u := by
  intro j u hj
  match j, hj with
  | 0, hj => simp at hj; subst hj; simp [Addr.add]
  | 1, hj => simp at hj; subst hj; simp [Addr.add]
  | j + 2, hj => simp at hj
theorem zero9 (base : Nat) (w : World) (n : Nat) (hb : base ≤ w.heap.size) (hn : n ≤ 17592186044416) : ResS base (w.alloc (.cells (madeCells #[.int .i64 0] n) 3)) (.slice (some ⟨w.heap.size, 0, none⟩) n n) (List.replicate n 0) := by
  have hP : PartS (w.alloc (.cells (madeCells #[.int .i64 0] n) 3)) w.heap.size n (List.replicate n 0) := ⟨_, BlkS.made w n, by simp, by simp, by simp⟩
  have h := hP.num (base := base) hb (by unfold maxLen; omega)
  rw [List.length_replicate] at h
  exact ⟨h, fun x hx => by rw [List.eq_of_mem_replicate hx]; omega⟩
/-- the pairs that cut nothing away, up to place k -/
def cutK (s : List Int) (k : Nat) : List Int := (List.range k).flatMap fun i : Nat => [0, s.getD i 0]
theorem cutK_next (s : List Int) (k : Nat) : cutK s (k + 1) = cutK s k ++ [0, s.getD k 0] := by
  unfold cutK
  rw [List.range_succ, List.flatMap_append]
  simp
theorem cutK_len (s : List Int) (k : Nat) : (cutK s k).length = 2 * k := by
  induction k with
  | zero => rfl
  | succ k ih => rw [cutK_next, List.length_append, ih]; simp; omega
theorem cutK_fst (s : List Int) {i n : Nat} (hi : i < n) : fstP (cutK s n) i = 0 := flat2_at (fun i : Nat => [0, s.getD i 0]) (fun _ => rfl) hi 0 (by omega)
theorem cutK_snd (s : List Int) {i n : Nat} (hi : i < n) : sndP (cutK s n) i = s.getD i 0 := flat2_at (fun i : Nat => [0, s.getD i 0]) (fun _ => rfl) hi 1 (by omega)
theorem cutK_wid {s : List Int} (h : Wid s) (k : Nat) : Wid (cutK s k) := fun x hx => by
  obtain ⟨i, _, hm⟩ := List.mem_flatMap.1 hx
  simp only [List.mem_cons, List.not_mem_nil, or_false] at hm
  rcases hm with rfl | rfl
  · omega
  · exact h.getD i
theorem upS_next (k : Nat) : upS (k + 1) = upS k ++ [(k : Int)] := by unfold upS; rw [List.range_succ, List.map_append]; rfl
theorem upS_wid {n : Nat} (h : n ≤ 1000000000) : Wid (upS n) := fun x hx => by have := mem_upS.1 hx; omega
theorem upS_perm (n : Nat) : IsPerm (upS n) := ⟨upS_nodup n, fun x => by rw [upS_length]; exact mem_upS⟩
theorem upS_getD {n i : Nat} (h : i < n) : (upS n).getD i 0 = (i : Int) := getD_map_range _ h
theorem trI_up {n : Nat} {xs : List Int} (h : xs.length = n) : trI (upS n) xs = xs := by
  refine list_eq_getD (by rw [trI_len, upS_length, h]) fun i hi => ?_
  rw [trI_len] at hi
  have e := (upS_perm n).idx_at hi
  rw [upS_length] at hi
  rw [upS_getD hi] at e
  rw [trI_at _ _ (by rw [upS_length]; exact hi), e]
theorem bcI_self9 {s xs : List Int} (h : inS s xs) : bcI s 0 xs = xs := by
  refine list_eq_getD (by rw [bcI_len, inS_length h]) fun i hi => ?_
  rw [bcI_len] at hi
  have h3 := inS_at h hi
  rw [bcI_at _ _ _ hi, Nat.zero_add, Int.emod_eq_of_lt h3.1 h3.2]
theorem fit_self {s : List Int} (ok : OkS s) : fitC s s = 0 := fitC_of ok ok fun j h1 h2 => ⟨by
  have h3 := ok.pos.getD (i := s.length - j) (by omega)
  unfold backS
  rw [if_neg (by omega)]
  omega, .inr rfl⟩
theorem shift_zero {s xs : List Int} {t : List Int} {f : Int → Int → Int} (hf : ∀ x, f x 0 = x) (ok : OkS s) (hx : inS s xs) (ht : ∀ i, i < s.length → fstP t i = 0) : ((List.range s.length).map fun i : Nat => IntKind.i64.wrap (f (xs.getD i 0) (fstP t i))) = xs := by
  refine list_eq_getD (by rw [List.length_map, List.length_range, inS_length hx]) fun i hi => ?_
  rw [List.length_map, List.length_range] at hi
  have h3 := inS_at hx hi
  have h4 := getD_le_prod ok.pos hi
  have h5 := ok.few
  rw [getD_map_range _ hi, ht i hi, hf]
  exact wrap_i64 (by omega) (by omega)
theorem sl_self {s : List Int} (ok : OkS s) : slC s (cutK s s.length) = 0 ∧ slS s (cutK s s.length) = s := by
  refine ⟨slC_ok (cutK_len _ _) (fun i hi => ?_) (fun i hi => ?_), list_eq_getD (slS_len _ _) fun i hi => ?_⟩
  · unfold badCut
    rw [cutK_fst s hi, cutK_snd s hi]
    have := ok.pos.getD hi
    omega
  · rw [cutK_snd s hi]
    omega
  · rw [slS_len] at hi
    rw [slS_at _ _ hi, cutK_fst s hi, cutK_snd s hi]
    omega
theorem zeros_at (n i : Nat) : (List.replicate n (0 : Int)).getD i 0 = 0 := by
  rw [List.getD_eq_getElem?_getD, List.getElem?_replicate]
  split <;> rfl
theorem pd_self {s : List Int} (ok : OkS s) {n : Nat} (hn : n = 2 * s.length) : pdCW s (List.replicate n 0) = 0 ∧ pdW s (List.replicate n 0) = s := by
  have hf : ∀ i, fstP (List.replicate n (0 : Int)) i = 0 := fun i => zeros_at _ _
  have hs : ∀ i, sndP (List.replicate n (0 : Int)) i = 0 := fun i => zeros_at _ _
  have e : pdW s (List.replicate n 0) = s := by
    rw [pdW_eq ok (.inr fun i hi => by rw [hf, hs]; omega)]
    refine list_eq_getD (pdS_len _ _) fun i hi => ?_
    rw [pdS_len] at hi
    rw [pdS_at _ _ hi, hf, hs]
    omega
  refine ⟨?_, e⟩
  rw [pdCW_good (by simp; exact hn) (fun i hi => by unfold badPad; rw [hf, hs]; omega), e]
  exact mayC_ok ok
theorem transU {n : Nat} {w : World} {v : Value} {s : List Int} {qs : List Q3} {L : List Rat} {a b : Option Addr} {ca cb : Nat} (T : TensQ w v s qs a ca b cb) (h0 : mayT s qs = 0) (hL : qs.map Q3.rat = L) (hl : lensQ qs n) (hn : n ≤ 3000000) {ad : Option Addr} {cd : Nat} (D : ArgS w (.slice ad (upS s.length).length cd) (upS s.length) ad cd) (nd : ad = none → cd = 0) :
    Calls Tryz.prog 13 #[v, .slice ad (upS s.length).length cd] w fun e w' => Good9 w.heap.size w' e s L (n + 2) ∧ Below w.heap.size w w' := by
  have ok := mayC_zero.1 (mayT_rank h0)
  have hk := ok9_of h0
  have hle := hk.le
  have hll : (qs.map Q3.rat).length = (prodS s).toNat := by rw [List.length_map]; have := hk.len; omega
  refine (transpose_any T D nd (by omega) (by rw [upS_length]; omega) (by omega) hl hn).mono ?_
  rintro e w' ⟨h, hb⟩
  rw [trS_up] at h
  exact ⟨h.good9 (by rw [orL2 h0]; have e := permC_yes (upS_perm s.length); rw [upS_length] at e; exact e) (by rw [fillV_congr ok.pos (G := elV s (qs.map Q3.rat)) (fun xs hx => by rw [trI_up (inS_length hx)]), fillV_self ok.pos hll]; exact hL), hb⟩
theorem reshU {n : Nat} {w : World} {v : Value} {s : List Int} {qs : List Q3} {L : List Rat} {a b : Option Addr} {ca cb : Nat} (T : TensQ w v s qs a ca b cb) (h0 : mayT s qs = 0) (hL : qs.map Q3.rat = L) (hl : lensQ qs n) (hn : n ≤ 3000000) {ad : Option Addr} {cd : Nat} (D : ArgS w (.slice ad s.length cd) s ad cd) (nd : ad = none → cd = 0) :
    Calls Tryz.prog 20 #[v, .slice ad s.length cd] w fun e w' => Good9 w.heap.size w' e s L (n + 2) ∧ Below w.heap.size w w' := by
  have ok := mayC_zero.1 (mayT_rank h0)
  have hk := ok9_of h0
  have hle := hk.le
  have hll : (qs.map Q3.rat).length = (prodS s).toNat := by rw [List.length_map]; have := hk.len; omega
  refine (reshape_any T D nd (by omega) (by omega) (by omega) hl hn).mono ?_
  rintro e w' ⟨h, hb⟩
  rw [show s = s from rfl] at h
  exact ⟨h.good9 (by rw [orL3 h0 (mayC_ok ok)]; unfold cntC; rw [if_neg (by rw [ok.count]; have := hk.len; omega)]) (hL), hb⟩
theorem broadU {n : Nat} {w : World} {v : Value} {s : List Int} {qs : List Q3} {L : List Rat} {a b : Option Addr} {ca cb : Nat} (T : TensQ w v s qs a ca b cb) (h0 : mayT s qs = 0) (hL : qs.map Q3.rat = L) (hl : lensQ qs n) (hn : n ≤ 3000000) {ad : Option Addr} {cd : Nat} (D : ArgS w (.slice ad s.length cd) s ad cd) (nd : ad = none → cd = 0) :
    Calls Tryz.prog 22 #[v, .slice ad s.length cd] w fun e w' => Good9 w.heap.size w' e s L (n + 2) ∧ Below w.heap.size w w' := by
  have ok := mayC_zero.1 (mayT_rank h0)
  have hk := ok9_of h0
  have hle := hk.le
  have hll : (qs.map Q3.rat).length = (prodS s).toNat := by rw [List.length_map]; have := hk.len; omega
  refine (broadcast_any T D nd (by omega) (by omega) (by omega) hl hn).mono ?_
  rintro e w' ⟨h, hb⟩
  rw [Nat.sub_self] at h
  exact ⟨h.good9 (by rw [orL2 h0]; exact fit_self ok) (by rw [fillV_congr ok.pos (G := elV s (qs.map Q3.rat)) (fun xs hx => by rw [bcI_self9 hx]), fillV_self ok.pos hll]; exact hL), hb⟩
theorem sliceU {n : Nat} {w : World} {v : Value} {s : List Int} {qs : List Q3} {L : List Rat} {a b : Option Addr} {ca cb : Nat} (T : TensQ w v s qs a ca b cb) (h0 : mayT s qs = 0) (hL : qs.map Q3.rat = L) (hl : lensQ qs n) (hn : n ≤ 3000000) {ad : Option Addr} {cd : Nat} (D : ArgS w (.slice ad (cutK s s.length).length cd) (cutK s s.length) ad cd) (nd : ad = none → cd = 0) :
    Calls Tryz.prog 24 #[v, .slice ad (cutK s s.length).length cd] w fun e w' => Good9 w.heap.size w' e s L (n + 2) ∧ Below w.heap.size w w' := by
  have ok := mayC_zero.1 (mayT_rank h0)
  have hk := ok9_of h0
  have hle := hk.le
  have hll : (qs.map Q3.rat).length = (prodS s).toNat := by rw [List.length_map]; have := hk.len; omega
  refine (slice_any T D nd (by omega) (by rw [cutK_len]; omega) (by omega) hl hn).mono ?_
  rintro e w' ⟨h, hb⟩
  rw [(sl_self ok).2] at h
  exact ⟨h.good9 (by rw [orL2 h0]; exact (sl_self ok).1) (by rw [fillV_congr ok.pos (G := elV s (qs.map Q3.rat)) (fun xs hx => by rw [shift_zero (f := fun x y => x + y) (fun x => by omega) ok hx (fun i hi => cutK_fst s hi)]), fillV_self ok.pos hll]; exact hL), hb⟩
theorem padU {n : Nat} {w : World} {v : Value} {s : List Int} {qs : List Q3} {L : List Rat} {a b : Option Addr} {ca cb : Nat} (T : TensQ w v s qs a ca b cb) (h0 : mayT s qs = 0) (hL : qs.map Q3.rat = L) (hl : lensQ qs n) (hn : n ≤ 3000000) {ad : Option Addr} {cd : Nat} {k : Nat} (hk2 : k = 2 * s.length) (D : ArgS w (.slice ad k cd) (List.replicate k 0) ad cd) (nd : ad = none → cd = 0) :
    Calls Tryz.prog 26 #[v, .slice ad k cd] w fun e w' => Good9 w.heap.size w' e s L (n + 2) ∧ Below w.heap.size w w' := by
  have ok := mayC_zero.1 (mayT_rank h0)
  have hk := ok9_of h0
  have hle := hk.le
  have hll : (qs.map Q3.rat).length = (prodS s).toNat := by rw [List.length_map]; have := hk.len; omega
  have hp := pad_any T (t := List.replicate k 0) (ad := ad) (cd := cd) (by rw [List.length_replicate]; exact D) nd (by omega) (by rw [List.length_replicate]; omega) (by omega) hl hn
  rw [List.length_replicate] at hp
  refine hp.mono ?_
  rintro e w' ⟨h, hb⟩
  rw [(pd_self ok hk2).2] at h
  exact ⟨h.good9 (by rw [orL2 h0]; exact (pd_self ok hk2).1) (by rw [fillV_congr ok.pos (G := elV s (qs.map Q3.rat)) (fun xs hx => by rw [shift_zero (f := fun x y => x - y) (fun x => by omega) ok hx (fun i hi => zeros_at _ _)]), fillV_self ok.pos hll]; exact hL), hb⟩
theorem sameTT9 {m : Nat} {w : World} {u v : Value} {s : List Int} {qs : List Q3} {a1 b1 a2 b2 : Option Addr} {ca1 cb1 ca2 cb2 : Nat} (T1 : TensQ w u s qs a1 ca1 b1 cb1) (T2 : TensQ w v s qs a2 ca2 b2 cb2) (hq : lensQ qs m) (hs : s.length ≤ 1000000) (hl : qs.length ≤ 1000000) (hm : m ≤ 4000000) :
    Calls Tryz.prog 34 #[u, v] w fun e w' => e = .returned (.bool true) ∧ Below w.heap.size w w' := by
  have h := sameT9_any (n := m) T1 T2 (by omega) (by omega) (by omega) hm (fun q h => hq q h) (fun q h => hq q h)
  rw [allBC_yes rfl rfl (fun i x y hx hy => by
    rw [hx] at hy
    exact decide_eq_true (by rw [Option.some.inj hy]))] at h
  exact h
/-- a tensor that was made from block B on: its cells may be written to, and stand below C -/
theorem wcell {G b k : Nat} {X wi : World} {cur : Array Value} {t : TypeId} {K : IntKind} {z : Int} (L : Loose8 G X wi) (h : X.heap[b]? = some (.cells cur t (0, 0))) (hz : cur[k]? = some (.int K z)) :
    ∃ (c' : Array Value) (z' : Int), wi.heap[b]? = some (.cells c' t (0, 0)) ∧ c'[k]? = some (.int K z') ∧ wi.cell? ⟨b, k, none⟩ = some (.int K z') ∧ wi.frozen? ⟨b, k, none⟩ = false := by
  obtain ⟨c', e, _, f⟩ := L.2 b cur t h
  obtain ⟨v', hv', kv⟩ := f k _ hz
  have hc : ∃ z', v' = .int K z' := by
    rcases kv with rfl | ⟨_, _, z', e, rfl⟩ | ⟨_, _, e, _⟩
    · exact ⟨z, rfl⟩
    · cases e; exact ⟨z', rfl⟩
    · cases e
  obtain ⟨z', rfl⟩ := hc
  exact ⟨c', z', e, hv', (cell_of_row wi b k c' t (0, 0) e).trans hv', frozen_of_row wi b k c' t e⟩
theorem wid_of9 {s : List Int} (ok : OkS s) : Wid s := fun x hx => by
  obtain ⟨i, hi, rfl⟩ := List.mem_iff_getElem.1 hx
  have e1 := ok.pos.getD hi
  have e2 := getD_le_prod ok.pos hi
  have e3 := ok.few
  rw [getD_elem hi] at e1 e2
  omega
end Go.Proofs.YtooglnhlhgmhdaaGreat
