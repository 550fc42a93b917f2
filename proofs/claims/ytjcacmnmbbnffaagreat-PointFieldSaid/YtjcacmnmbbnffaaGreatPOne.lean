/-
  Package point as it landed: ofOne, and the functions of one tensor. (Made by wip/gen/gen_ptwo.py.)
-/
import Derived.Test.YtjcacmnmbbnffaaGreatPEach
namespace Go.Proofs.YtjcacmnmbbnffaaGreat
open Go.RowKit
set_option linter.unusedVariables false
set_option linter.unusedSimpArgs false

/-- what an operation on tensors answers: a tensor, or why there is none -/
def One (base : Nat) (w' : World) (e : Ending) (c : Int) (s : List Int) (L : List Rat) (N : Nat) : Prop :=
  (c = 0 ∧ ∃ r, e = .returned (.tuple #[r, .int .i64 0]) ∧ ResT base w' r s L N) ∨ (c ≠ 0 ∧ e = .returned (.tuple #[noTensor, .int .i64 c]))
theorem mayT_valid {s : List Int} {qs : List Q3} (h : mayT s qs = 0) : (qs.length : Int) = countS s ∧ ∀ q ∈ qs, okQ q = true := by
  unfold mayT at h
  split at h
  · rename_i h1; exact absurd h h1
  · split at h
    · cases h
    · rename_i h2
      split at h
      · rename_i h3
        exact ⟨by omega, List.all_eq_true.1 h3⟩
      · cases h
theorem mayT_rank {s : List Int} {qs : List Q3} (h : mayT s qs = 0) : mayC s = 0 := by
  unfold mayT at h
  split at h
  · rename_i h1; exact absurd h h1
  · rename_i h1; simpa using h1
set_option maxRecDepth 100000 in
set_option maxHeartbeats 8000000 in
theorem ofOne_any {F : Nat} {cap : Array Value} {f : Rat → Rat} {n N : Nat} {w : World} {v : Value} {s : List Int} {qs : List Q3} {a b : Option Addr} {ca cb : Nat} (T : TensQ w v s qs a ca b cb) (hs : s.length ≤ 17592186044416) (hq : qs.length ≤ 1000000) (hl : lensQ qs n) (hn : n ≤ 1000000)
    (heF : ∀ args w, (callFunc F args).run Tryz.prog w = .ok (.enter F args) w)
    (hdo : ∀ (W : World) (x : Value) (q : Q3), q ∈ qs → okQ q = true → Below w.heap.size w W → RawQ W x q → Calls Tryz.prog F (#[x] ++ cap) W fun e w' => ∃ r, e = .returned r ∧ ResQ W.heap.size w' r (f q.rat) N ∧ Below W.heap.size W w') :
    Calls Tryz.prog 58 #[v, .func (.func F) #[] cap] w fun e w' => One w.heap.size w' e (mayT s qs) s (qs.map fun q => f q.rat) N ∧ Below w.heap.size w w' := by
  have HT := Lib.hid T
  obtain rfl := T.is
  obtain ⟨W, hW⟩ : ∃ W, ((w.alloc (.cells #[.slice a s.length ca, .slice b qs.length cb] 26)).alloc (.cells #[.slice none 0 0, .slice none 0 0] 26)) = W := ⟨_, rfl⟩
  have R0 : Row W (w.heap.size) 26 #[.slice a s.length ca, .slice b qs.length cb] := by rw [← hW]; have h := Row.new w 26 #[.slice a s.length ca, .slice b qs.length cb]; (try simp only [World.size_alloc] at h); exact (h.alloc _)
  have R1 : Row W (w.heap.size + 1) 26 #[.slice none 0 0, .slice none 0 0] := by rw [← hW]; have h := Row.new (w.alloc (.cells #[.slice a s.length ca, .slice b qs.length cb] 26)) 26 #[.slice none 0 0, .slice none 0 0]; (try simp only [World.size_alloc] at h); exact h
  have hBW : Below w.heap.size w W := by rw [← hW]; exact (((Below.refl _ _).alloc (by (try simp) <;> omega) _).alloc (by (try simp) <;> omega) _)
  have hsW : W.heap.size = w.heap.size + 1 + 1 := by rw [← hW]; simp
  have hm := mayT7_big (T.later hBW) (by omega) hl (by omega)
  obtain ⟨c, hc⟩ : ∃ c, mayT s qs = c := ⟨_, rfl⟩
  rw [hc] at hm
  obtain ⟨c0, c1, _, _⟩ := R0.two
  by_cases h0 : c = 0
  · subst h0
    have hok := (mayT_valid hc).2
    have he := fun (X : World) (hX : Below w.heap.size w X) => each_any (F := F) (cap := cap) (f := f) (N := N) (HT.out.later hX) hs hq heF (fun W x q hm hW hr => hdo W x q hm (hok q hm) (hX.trans (hW.mono hX.size)) hr)
    obtain ⟨L, hL⟩ : ∃ L, (qs.map fun q => f q.rat) = L := ⟨_, rfl⟩
    rw [hL] at he
    have HE := Lib.hid he
    rw [hc, hL]
    clear hdo T hc he hok hL hl
    go_enter Tryz.func58, Tryz.ntmps58
    (try rw [hW])
    go_wp2_with (go_at_call 39; refine hm.mono ?_; rintro e w1 ⟨rfl, hb1⟩; obtain ⟨k0, k1, _, _⟩ := (R0.later hb1).two)
    refine (HE.out w1 (hBW.trans (hb1.mono (by omega)))).mono ?_
    rintro e w2 ⟨r, rfl, hT, hb2⟩
    obtain ⟨a', b', ca', cb', rfl, RS, RO⟩ := hT
    have P2 := (R1.later hb1).later hb2
    have s1 := hb1.size
    have s2 := hb2.size
    obtain ⟨u0, u1, g0, g1⟩ := P2.two
    have HR := Lib.hid RS
    have HO := Lib.hid RO
    clear RS RO
    obtain ⟨l, hl⟩ : ∃ l, L.length = l := ⟨_, rfl⟩
    have HL2 := Lib.hid hl
    rw [hl]
    clear hl
    go_wp2_with fail
    have P3 := P2.set2 (.slice a' s.length ca') (.slice b' l cb')
    obtain ⟨z0, z1, _, _⟩ := P3.two
    refine bodyPost_ret (v := .tuple #[.agg #[.slice a' s.length ca', .slice b' l cb'], .int .i64 0]) (by simp [results, Tryz.results58, go_sem, z0, z1]) rfl ⟨.inl ⟨rfl, _, rfl, ?_⟩, below_set2 ((hBW.trans (hb1.mono (by omega))).trans (hb2.mono (by omega))) (by omega) _ _⟩
    have hR : ResT w.heap.size w2 (.agg #[.slice a' s.length ca', .slice b' l cb']) s L N := ResT.mono ⟨a', b', ca', cb', by rw [HL2.out], HR.out, HO.out⟩ (by omega)
    exact hR.far P2 (by decide) (by decide) (by decide) (kept2 _ _)
  · have hne : (c != 0) = true := by simp [h0]
    have H0 := Lib.hid h0
    clear hdo T
    rw [hc]
    clear hc h0
    go_enter Tryz.func58, Tryz.ntmps58
    (try rw [hW])
    go_wp2_with (go_at_call 39; refine hm.mono ?_; rintro e w1 ⟨rfl, hb1⟩; have P2 := R1.later hb1; have s1 := hb1.size; obtain ⟨u0, u1, g0, g1⟩ := P2.two)
    have P3 := P2.set2 (.slice none 0 0) (.slice none 0 0)
    obtain ⟨z0, z1, _, _⟩ := P3.two
    refine bodyPost_ret (v := .tuple #[noTensor, .int .i64 c]) (by simp [results, Tryz.results58, go_sem, z0, z1, noTensor]) rfl ⟨.inr ⟨H0.out, rfl⟩, below_set2 (hBW.trans (hb1.mono (by omega))) (by omega) _ _⟩
set_option maxRecDepth 100000 in
set_option maxHeartbeats 8000000 in
theorem negP_any {n : Nat} {w : World} {v : Value} {s : List Int} {qs : List Q3} {a b : Option Addr} {ca cb : Nat} (T : TensQ w v s qs a ca b cb) (hs : s.length ≤ 17592186044416) (hq : qs.length ≤ 1000000) (hl : lensQ qs n) (hn : n ≤ 1000000) :
    Calls Tryz.prog 24 #[v] w fun e w' => One w.heap.size w' e (mayT s qs) s (qs.map fun q => -q.rat) (n + 2) ∧ Below w.heap.size w w' := by
  have HT := Lib.hid T
  obtain rfl := T.is
  obtain ⟨W, hW⟩ : ∃ W, ((w.alloc (.cells #[.slice a s.length ca, .slice b qs.length cb] 26)).alloc (.cells #[.slice none 0 0, .slice none 0 0] 26)) = W := ⟨_, rfl⟩
  have R0 : Row W (w.heap.size) 26 #[.slice a s.length ca, .slice b qs.length cb] := by rw [← hW]; have h := Row.new w 26 #[.slice a s.length ca, .slice b qs.length cb]; (try simp only [World.size_alloc] at h); exact (h.alloc _)
  have R1 : Row W (w.heap.size + 1) 26 #[.slice none 0 0, .slice none 0 0] := by rw [← hW]; have h := Row.new (w.alloc (.cells #[.slice a s.length ca, .slice b qs.length cb] 26)) 26 #[.slice none 0 0, .slice none 0 0]; (try simp only [World.size_alloc] at h); exact h
  have hBW : Below w.heap.size w W := by rw [← hW]; exact (((Below.refl _ _).alloc (by (try simp) <;> omega) _).alloc (by (try simp) <;> omega) _)
  have hsW : W.heap.size = w.heap.size + 1 + 1 := by rw [← hW]; simp
  have ho := ofOne_any (F := 59) (cap := #[]) (f := fun x => -x) (N := (n + 2)) (T.later hBW) hs hq hl hn (enters_of Tryz.func59 (by kernel_rfl) rfl) (fun X x q hm _ hX hr => negQ_any (hr.arg (hl q hm).1 (hl q hm).2) (by omega))
  obtain ⟨c, hc⟩ : ∃ c, mayT s qs = c := ⟨_, rfl⟩
  rw [hc] at ho ⊢
  obtain ⟨c0, c1, _, _⟩ := R0.two
  obtain ⟨L, hL⟩ : ∃ L, (qs.map fun q => -q.rat) = L := ⟨_, rfl⟩
  have ho' : Calls Tryz.prog 58 #[.agg #[.slice a s.length ca, .slice b qs.length cb], .func (.func 59) #[] #[]] W fun e w' => One W.heap.size w' e c s L (n + 2) ∧ Below W.heap.size W w' := by rw [← hL]; exact ho
  have hLL : L.length = qs.length := by rw [← hL]; simp
  have HLL := Lib.hid hLL
  rw [hL]
  clear hL ho T hc hLL
  go_enter Tryz.func24, Tryz.ntmps24
  (try rw [hW])
  go_wp2_with fail
  refine ho'.mono ?_
  rintro e w2 ⟨h | ⟨h0, rfl⟩, hb2⟩
  · obtain ⟨rfl, r, rfl, a', b', ca', cb', rfl, RS, RO⟩ := h
    have P2 := R1.later hb2
    have s2 := hb2.size
    obtain ⟨u0, u1, g0, g1⟩ := P2.two
    have HR := Lib.hid RS
    have HO := Lib.hid RO
    clear RS RO
    obtain ⟨l, hl⟩ : ∃ l, L.length = l := ⟨_, rfl⟩
    have HL2 := Lib.hid hl
    rw [hl]
    clear hl
    go_wp2_with fail
    have P3 := P2.set2 (.slice a' s.length ca') (.slice b' l cb')
    obtain ⟨z0, z1, _, _⟩ := P3.two
    refine bodyPost_ret (v := .tuple #[.agg #[.slice a' s.length ca', .slice b' l cb'], .int .i64 0]) (by simp [results, Tryz.results24, go_sem, z0, z1]) rfl ⟨.inl ⟨rfl, _, rfl, ?_⟩, below_set2 (hBW.trans (hb2.mono (by omega))) (by omega) _ _⟩
    have hR : ResT w.heap.size w2 (.agg #[.slice a' s.length ca', .slice b' l cb']) s L _ := ResT.mono ⟨a', b', ca', cb', by rw [HL2.out], HR.out, HO.out⟩ (by omega)
    exact hR.far P2 (by decide) (by decide) (by decide) (kept2 _ _)
  · have P2 := R1.later hb2
    have s2 := hb2.size
    obtain ⟨u0, u1, g0, g1⟩ := P2.two
    have H0 := Lib.hid h0
    clear h0
    unfold noTensor
    go_wp2_with fail
    have P3 := P2.set2 (.slice none 0 0) (.slice none 0 0)
    obtain ⟨z0, z1, _, _⟩ := P3.two
    refine bodyPost_ret (v := .tuple #[noTensor, .int .i64 c]) (by simp [results, Tryz.results24, go_sem, z0, z1, noTensor]) rfl ⟨.inr ⟨H0.out, rfl⟩, below_set2 (hBW.trans (hb2.mono (by omega))) (by omega) _ _⟩
set_option maxRecDepth 100000 in
set_option maxHeartbeats 8000000 in
theorem reluP_any {n : Nat} {w : World} {v : Value} {s : List Int} {qs : List Q3} {a b : Option Addr} {ca cb : Nat} (T : TensQ w v s qs a ca b cb) (hs : s.length ≤ 17592186044416) (hq : qs.length ≤ 1000000) (hl : lensQ qs n) (hn : n ≤ 1000000) :
    Calls Tryz.prog 25 #[v] w fun e w' => One w.heap.size w' e (mayT s qs) s (qs.map fun q => reluR q.rat) (n + 2) ∧ Below w.heap.size w w' := by
  have HT := Lib.hid T
  obtain rfl := T.is
  obtain ⟨W, hW⟩ : ∃ W, ((w.alloc (.cells #[.slice a s.length ca, .slice b qs.length cb] 26)).alloc (.cells #[.slice none 0 0, .slice none 0 0] 26)) = W := ⟨_, rfl⟩
  have R0 : Row W (w.heap.size) 26 #[.slice a s.length ca, .slice b qs.length cb] := by rw [← hW]; have h := Row.new w 26 #[.slice a s.length ca, .slice b qs.length cb]; (try simp only [World.size_alloc] at h); exact (h.alloc _)
  have R1 : Row W (w.heap.size + 1) 26 #[.slice none 0 0, .slice none 0 0] := by rw [← hW]; have h := Row.new (w.alloc (.cells #[.slice a s.length ca, .slice b qs.length cb] 26)) 26 #[.slice none 0 0, .slice none 0 0]; (try simp only [World.size_alloc] at h); exact h
  have hBW : Below w.heap.size w W := by rw [← hW]; exact (((Below.refl _ _).alloc (by (try simp) <;> omega) _).alloc (by (try simp) <;> omega) _)
  have hsW : W.heap.size = w.heap.size + 1 + 1 := by rw [← hW]; simp
  have ho := ofOne_any (F := 60) (cap := #[]) (f := fun x => reluR x) (N := (n + 2)) (T.later hBW) hs hq hl hn (enters_of Tryz.func60 (by kernel_rfl) rfl) (fun X x q hm hk hX hr => relu_any hr hk (hl q hm).1 (hl q hm).2 (by omega))
  obtain ⟨c, hc⟩ : ∃ c, mayT s qs = c := ⟨_, rfl⟩
  rw [hc] at ho ⊢
  obtain ⟨c0, c1, _, _⟩ := R0.two
  obtain ⟨L, hL⟩ : ∃ L, (qs.map fun q => reluR q.rat) = L := ⟨_, rfl⟩
  have ho' : Calls Tryz.prog 58 #[.agg #[.slice a s.length ca, .slice b qs.length cb], .func (.func 60) #[] #[]] W fun e w' => One W.heap.size w' e c s L (n + 2) ∧ Below W.heap.size W w' := by rw [← hL]; exact ho
  have hLL : L.length = qs.length := by rw [← hL]; simp
  have HLL := Lib.hid hLL
  rw [hL]
  clear hL ho T hc hLL
  go_enter Tryz.func25, Tryz.ntmps25
  (try rw [hW])
  go_wp2_with fail
  refine ho'.mono ?_
  rintro e w2 ⟨h | ⟨h0, rfl⟩, hb2⟩
  · obtain ⟨rfl, r, rfl, a', b', ca', cb', rfl, RS, RO⟩ := h
    have P2 := R1.later hb2
    have s2 := hb2.size
    obtain ⟨u0, u1, g0, g1⟩ := P2.two
    have HR := Lib.hid RS
    have HO := Lib.hid RO
    clear RS RO
    obtain ⟨l, hl⟩ : ∃ l, L.length = l := ⟨_, rfl⟩
    have HL2 := Lib.hid hl
    rw [hl]
    clear hl
    go_wp2_with fail
    have P3 := P2.set2 (.slice a' s.length ca') (.slice b' l cb')
    obtain ⟨z0, z1, _, _⟩ := P3.two
    refine bodyPost_ret (v := .tuple #[.agg #[.slice a' s.length ca', .slice b' l cb'], .int .i64 0]) (by simp [results, Tryz.results25, go_sem, z0, z1]) rfl ⟨.inl ⟨rfl, _, rfl, ?_⟩, below_set2 (hBW.trans (hb2.mono (by omega))) (by omega) _ _⟩
    have hR : ResT w.heap.size w2 (.agg #[.slice a' s.length ca', .slice b' l cb']) s L _ := ResT.mono ⟨a', b', ca', cb', by rw [HL2.out], HR.out, HO.out⟩ (by omega)
    exact hR.far P2 (by decide) (by decide) (by decide) (kept2 _ _)
  · have P2 := R1.later hb2
    have s2 := hb2.size
    obtain ⟨u0, u1, g0, g1⟩ := P2.two
    have H0 := Lib.hid h0
    clear h0
    unfold noTensor
    go_wp2_with fail
    have P3 := P2.set2 (.slice none 0 0) (.slice none 0 0)
    obtain ⟨z0, z1, _, _⟩ := P3.two
    refine bodyPost_ret (v := .tuple #[noTensor, .int .i64 c]) (by simp [results, Tryz.results25, go_sem, z0, z1, noTensor]) rfl ⟨.inr ⟨H0.out, rfl⟩, below_set2 (hBW.trans (hb2.mono (by omega))) (by omega) _ _⟩
set_option maxRecDepth 100000 in
set_option maxHeartbeats 8000000 in
theorem stepP_any {n : Nat} {w : World} {v : Value} {s : List Int} {qs : List Q3} {a b : Option Addr} {ca cb : Nat} (T : TensQ w v s qs a ca b cb) (hs : s.length ≤ 17592186044416) (hq : qs.length ≤ 1000000) (hl : lensQ qs n) (hn : n ≤ 1000000) :
    Calls Tryz.prog 26 #[v] w fun e w' => One w.heap.size w' e (mayT s qs) s (qs.map fun q => stepR q.rat) (n + 2) ∧ Below w.heap.size w w' := by
  have HT := Lib.hid T
  obtain rfl := T.is
  obtain ⟨W, hW⟩ : ∃ W, ((w.alloc (.cells #[.slice a s.length ca, .slice b qs.length cb] 26)).alloc (.cells #[.slice none 0 0, .slice none 0 0] 26)) = W := ⟨_, rfl⟩
  have R0 : Row W (w.heap.size) 26 #[.slice a s.length ca, .slice b qs.length cb] := by rw [← hW]; have h := Row.new w 26 #[.slice a s.length ca, .slice b qs.length cb]; (try simp only [World.size_alloc] at h); exact (h.alloc _)
  have R1 : Row W (w.heap.size + 1) 26 #[.slice none 0 0, .slice none 0 0] := by rw [← hW]; have h := Row.new (w.alloc (.cells #[.slice a s.length ca, .slice b qs.length cb] 26)) 26 #[.slice none 0 0, .slice none 0 0]; (try simp only [World.size_alloc] at h); exact h
  have hBW : Below w.heap.size w W := by rw [← hW]; exact (((Below.refl _ _).alloc (by (try simp) <;> omega) _).alloc (by (try simp) <;> omega) _)
  have hsW : W.heap.size = w.heap.size + 1 + 1 := by rw [← hW]; simp
  have ho := ofOne_any (F := 61) (cap := #[]) (f := fun x => stepR x) (N := (n + 2)) (T.later hBW) hs hq hl hn (enters_of Tryz.func61 (by kernel_rfl) rfl) (fun X x q hm _ hX hr => step_any hr (hl q hm).1 (hl q hm).2 (by omega))
  obtain ⟨c, hc⟩ : ∃ c, mayT s qs = c := ⟨_, rfl⟩
  rw [hc] at ho ⊢
  obtain ⟨c0, c1, _, _⟩ := R0.two
  obtain ⟨L, hL⟩ : ∃ L, (qs.map fun q => stepR q.rat) = L := ⟨_, rfl⟩
  have ho' : Calls Tryz.prog 58 #[.agg #[.slice a s.length ca, .slice b qs.length cb], .func (.func 61) #[] #[]] W fun e w' => One W.heap.size w' e c s L (n + 2) ∧ Below W.heap.size W w' := by rw [← hL]; exact ho
  have hLL : L.length = qs.length := by rw [← hL]; simp
  have HLL := Lib.hid hLL
  rw [hL]
  clear hL ho T hc hLL
  go_enter Tryz.func26, Tryz.ntmps26
  (try rw [hW])
  go_wp2_with fail
  refine ho'.mono ?_
  rintro e w2 ⟨h | ⟨h0, rfl⟩, hb2⟩
  · obtain ⟨rfl, r, rfl, a', b', ca', cb', rfl, RS, RO⟩ := h
    have P2 := R1.later hb2
    have s2 := hb2.size
    obtain ⟨u0, u1, g0, g1⟩ := P2.two
    have HR := Lib.hid RS
    have HO := Lib.hid RO
    clear RS RO
    obtain ⟨l, hl⟩ : ∃ l, L.length = l := ⟨_, rfl⟩
    have HL2 := Lib.hid hl
    rw [hl]
    clear hl
    go_wp2_with fail
    have P3 := P2.set2 (.slice a' s.length ca') (.slice b' l cb')
    obtain ⟨z0, z1, _, _⟩ := P3.two
    refine bodyPost_ret (v := .tuple #[.agg #[.slice a' s.length ca', .slice b' l cb'], .int .i64 0]) (by simp [results, Tryz.results26, go_sem, z0, z1]) rfl ⟨.inl ⟨rfl, _, rfl, ?_⟩, below_set2 (hBW.trans (hb2.mono (by omega))) (by omega) _ _⟩
    have hR : ResT w.heap.size w2 (.agg #[.slice a' s.length ca', .slice b' l cb']) s L _ := ResT.mono ⟨a', b', ca', cb', by rw [HL2.out], HR.out, HO.out⟩ (by omega)
    exact hR.far P2 (by decide) (by decide) (by decide) (kept2 _ _)
  · have P2 := R1.later hb2
    have s2 := hb2.size
    obtain ⟨u0, u1, g0, g1⟩ := P2.two
    have H0 := Lib.hid h0
    clear h0
    unfold noTensor
    go_wp2_with fail
    have P3 := P2.set2 (.slice none 0 0) (.slice none 0 0)
    obtain ⟨z0, z1, _, _⟩ := P3.two
    refine bodyPost_ret (v := .tuple #[noTensor, .int .i64 c]) (by simp [results, Tryz.results26, go_sem, z0, z1, noTensor]) rfl ⟨.inr ⟨H0.out, rfl⟩, below_set2 (hBW.trans (hb2.mono (by omega))) (by omega) _ _⟩
end Go.Proofs.YtjcacmnmbbnffaaGreat
