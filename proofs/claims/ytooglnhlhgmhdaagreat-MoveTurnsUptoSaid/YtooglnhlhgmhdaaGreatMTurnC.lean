/-
  Layer 9's law MoveTurns: the functions, as the law calls them. (Made by wip/gen/gen_mturn.py.)
-/
import Derived.Test.YtooglnhlhgmhdaaGreatMTurnB
import Derived.Test.YtooglnhlhgmhdaaGreatV34
namespace Go.Proofs.YtooglnhlhgmhdaaGreat
open Go.RowKit
set_option linter.unusedVariables false
set_option linter.unusedSimpArgs false

theorem ok9_ofT {s : List Int} {qs : List Q3} (h : mayT s qs = 0) : Ok9 s qs.length := ⟨mayC_zero.1 (mayT_rank h), by rw [(mayT_valid h).1, (mayC_zero.1 (mayT_rank h)).count]⟩
theorem permC_isT {p : List Int} {r : Nat} (h : permC p r = 0) : IsPerm p ∧ p.length = r := by
  unfold permC at h
  split at h
  · rename_i h1
    obtain ⟨h2, h3⟩ := permB_is h1
    exact ⟨h2, by omega⟩
  · cases h
theorem sameQR9 {n : Nat} {w : World} {u v : Value} {X : Rat} (hu : ArgQ w u X n) (hv : ArgQ w v X n) (hn : n ≤ 16777000) :
    Calls Tryz.prog 38 #[u, v] w fun e w' => e = .returned (.bool true) ∧ Below w.heap.size w w' := by
  obtain ⟨m1, xs, ds, f1, f2, j1, j2, rfl⟩ := hu.box
  obtain ⟨m2, zs, es, g1, g2, i1, i2, rfl⟩ := hv.box
  have h := sameR_any hu hv hn
  rwa [decide_eq_true (rfl : X = X)] at h
theorem lens_more9 {qs : List Q3} {n m : Nat} (h : lensQ qs n) (hm : n ≤ m) : lensQ qs m := fun q hq => ⟨Nat.le_trans (h q hq).1 hm, Nat.le_trans (h q hq).2 hm⟩
theorem dotQQ {n B : Nat} {w : World} {u v : Value} {s : List Int} {q1 q2 : List Q3} {a1 b1 a2 b2 : Option Addr} {ca1 cb1 ca2 cb2 : Nat} (T1 : TensQ w u s q1 a1 ca1 b1 cb1) (T2 : TensQ w v s q2 a2 ca2 b2 cb2) (m1 : mayT s q1 = 0) (m2 : mayT s q2 = 0) (hl1 : lensQ q1 n) (hl2 : lensQ q2 n) (hn : n ≤ 4000000)
    (hfit : ∀ k, k ≤ q1.length → FitQ (dotN (q1.map Q3.rat) (q2.map Q3.rat) k) B) (hB : B ≤ 100000000) :
    Calls Tryz.prog 37 #[u, v] w fun e w' => ∃ r, e = .returned (.tuple #[r, .int .i64 0]) ∧ ResQ w.heap.size w' r (dotN (q1.map Q3.rat) (q2.map Q3.rat) q1.length) (B / 32 + 1) ∧ Below w.heap.size w w' := by
  have k1 := (ok9_ofT m1).le
  have k2 := (ok9_ofT m2).le
  have hd : dotC s s q1 q2 = 0 := by unfold dotC; simp [m1, m2]
  have h := dotT7_any T1 T2 (by omega) (by omega) (by omega) (by omega) hl1 hl2 hn (fun _ => hfit) hB
  rw [hd] at h
  refine h.mono ?_
  rintro e w' ⟨r, rfl, g, _, hb⟩
  exact ⟨r, rfl, g rfl, hb⟩
theorem dotKQ {n B b0 : Nat} {w : World} {u v : Value} {s : List Int} {Lu : List Rat} {q2 : List Q3} {a2 b2 : Option Addr} {ca2 cb2 : Nat} (T1 : ResT b0 w u s Lu n) (T2 : TensQ w v s q2 a2 ca2 b2 cb2) (ok : Ok9 s Lu.length) (m2 : mayT s q2 = 0) (hl2 : lensQ q2 n) (hn : n ≤ 4000000)
    (hfit : ∀ k, k ≤ Lu.length → FitQ (dotN Lu (q2.map Q3.rat) k) B) (hB : B ≤ 100000000) :
    Calls Tryz.prog 37 #[u, v] w fun e w' => ∃ r, e = .returned (.tuple #[r, .int .i64 0]) ∧ ResQ w.heap.size w' r (dotN Lu (q2.map Q3.rat) Lu.length) (B / 32 + 1) ∧ Below w.heap.size w w' := by
  obtain ⟨q1, a1, c1, ca1, cc1, T1', e1, l1, k1⟩ := T1.tens
  have g1 : q1.length = Lu.length := by rw [← e1]; simp
  have h := dotQQ (B := B) T1' T2 (ok.may g1 k1) m2 l1 hl2 hn (by rw [e1, g1]; exact hfit) hB
  rw [e1, g1] at h
  exact h
theorem dotQK {n B b0 : Nat} {w : World} {u v : Value} {s : List Int} {Lv : List Rat} {q1 : List Q3} {a1 b1 : Option Addr} {ca1 cb1 : Nat} (T1 : TensQ w u s q1 a1 ca1 b1 cb1) (T2 : ResT b0 w v s Lv n) (ok : Ok9 s Lv.length) (m1 : mayT s q1 = 0) (hl1 : lensQ q1 n) (hn : n ≤ 4000000)
    (hfit : ∀ k, k ≤ q1.length → FitQ (dotN (q1.map Q3.rat) Lv k) B) (hB : B ≤ 100000000) :
    Calls Tryz.prog 37 #[u, v] w fun e w' => ∃ r, e = .returned (.tuple #[r, .int .i64 0]) ∧ ResQ w.heap.size w' r (dotN (q1.map Q3.rat) Lv q1.length) (B / 32 + 1) ∧ Below w.heap.size w w' := by
  obtain ⟨q2, a2, c2, ca2, cc2, T2', e2, l2, k2⟩ := T2.tens
  have g2 : q2.length = Lv.length := by rw [← e2]; simp
  have h := dotQQ (B := B) T1 T2' m1 (ok.may g2 k2) hl1 l2 hn (by rw [e2]; exact hfit) hB
  rw [e2] at h
  exact h
theorem transZ {n : Nat} {w : World} {v : Value} {s t : List Int} {qs : List Q3} {a b ad : Option Addr} {ca cb cd : Nat} (T : TensQ w v s qs a ca b cb) (h0 : mayT s qs = 0) (hl : lensQ qs n) (hn : n ≤ 3000000) (D : ArgS w (.slice ad t.length cd) t ad cd) (nd : ad = none → cd = 0) (ht : t.length ≤ 8000000) (hp : permC t s.length = 0) :
    Calls Tryz.prog 13 #[v, .slice ad t.length cd] w fun e w' => Good9 w.heap.size w' e (trS s t) (trV s t (qs.map Q3.rat)) (n + 2) ∧ Below w.heap.size w w' := by
  have hle := (ok9_ofT h0).le
  refine (transpose_any T D nd (by omega) ht (by omega) hl hn).mono ?_
  rintro e w' ⟨h, hb⟩
  exact ⟨h.good9 (by rw [orL2 h0]; exact hp) rfl, hb⟩
theorem sliceZ {n : Nat} {w : World} {v : Value} {s t : List Int} {qs : List Q3} {a b ad : Option Addr} {ca cb cd : Nat} (T : TensQ w v s qs a ca b cb) (h0 : mayT s qs = 0) (hl : lensQ qs n) (hn : n ≤ 3000000) (D : ArgS w (.slice ad t.length cd) t ad cd) (nd : ad = none → cd = 0) (ht : t.length ≤ 8000000) (hp : slC s t = 0) :
    Calls Tryz.prog 24 #[v, .slice ad t.length cd] w fun e w' => Good9 w.heap.size w' e (slS s t) (slV s t (qs.map Q3.rat)) (n + 2) ∧ Below w.heap.size w w' := by
  have hle := (ok9_ofT h0).le
  refine (slice_any T D nd (by omega) ht (by omega) hl hn).mono ?_
  rintro e w' ⟨h, hb⟩
  exact ⟨h.good9 (by rw [orL2 h0]; exact hp) rfl, hb⟩
theorem ResT.cast9 {base m : Nat} {w : World} {v : Value} {s s' : List Int} {Lx : List Rat} (h : ResT base w v s Lx m) (e : s = s') : ResT base w v s' Lx m := e ▸ h
theorem cnt_of {s : List Int} {k : Nat} (h : Ok9 s k) : k = (prodS s).toNat := by have := h.len; omega
theorem Ok9.trT {s p : List Int} {Lx : List Rat} (hp : IsPerm p) (hl : p.length = s.length) (ok : OkS s) : Ok9 (trS s p) (trV s p Lx).length := by
  obtain ⟨h1, h2⟩ := trS_ok hp hl ok
  refine ⟨h1, ?_⟩
  unfold trV
  rw [fillV_len]
  have := prodS_pos h1.pos
  omega
theorem Ok9.pdT {s t : List Int} {Lx : List Rat} (ok : OkS s) (h : pdC s t = 0) : Ok9 (pdS s t) (pdV s t Lx).length := by
  obtain ⟨h1, h2, h3⟩ := pdC_is h
  refine ⟨h2, ?_⟩
  unfold pdV
  rw [fillV_len, pdW_eq ok (.inl h)]
  have := prodS_pos h2.pos
  omega
theorem Ok9.slT {s t : List Int} {Lx : List Rat} (ok : OkS s) (h : slC s t = 0) : Ok9 (slS s t) (slV s t Lx).length := by
  have h2 := slS_ok h ok
  refine ⟨h2, ?_⟩
  unfold slV
  rw [fillV_len]
  have := prodS_pos h2.pos
  omega
/-- which value an answer's shape is -/
theorem ResT.shape9 {base m : Nat} {w : World} {x0 x3 : Option Addr} {x1 x2 x4 x5 : Nat} {s : List Int} {Lx : List Rat} (h : ResT base w (.agg #[.slice x0 x1 x2, .slice x3 x4 x5]) s Lx m) : x1 = s.length ∧ x4 = Lx.length ∧ ArgS w (.slice x0 s.length x2) s x0 x2 := by
  obtain ⟨a, b, ca, cb, hv, RS, _⟩ := h
  simp only [Value.agg.injEq, Array.mk.injEq, List.cons.injEq, and_true, Value.slice.injEq] at hv
  obtain ⟨⟨rfl, rfl, rfl⟩, rfl, rfl, rfl⟩ := hv
  obtain ⟨_, A, _⟩ := RS.at_
  exact ⟨rfl, rfl, A⟩
end Go.Proofs.YtooglnhlhgmhdaaGreat
