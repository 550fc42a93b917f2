/-
  Part 37 of 39: contracts and what they rest on (FMulR, RefG10, FGemR).
-/
import Derived.Test.YtengpgodmbfmkaaGreatG35
import Derived.Test.YtengpgodmbfmkaaGreatG36
namespace Go.Proofs.YtengpgodmbfmkaaGreat
set_option linter.unusedVariables false
set_option linter.unusedSimpArgs false
set_option maxRecDepth 100000
set_option maxHeartbeats 40000000
section
open Go.RowKit
theorem list_two10 {l : List Int} (h : l.length = 2) : l = [l.getD 0 0, l.getD 1 0] := by
 match l, h with
 | [x, y], _ => rfl
theorem Ref10.none10 {w' : World} {e : Ending} {c : Int} {s s2 : List Int} {L L2 : List Rat} {m m2 : Nat} (h : Ref10 w' e c s L m) (h0 : c ≠ 0) : Ref10 w' e c s2 L2 m2 := by
 obtain ⟨r, h1, h2, _⟩ := h
 exact ⟨r, h1, h2, fun e => absurd e h0⟩
theorem matMulR_all {n : Nat} {w : World} {u v : Value} {s t : List Int} {X Y : List Rat} {a1 b1 a2 b2 : Option Addr} {ca1 cb1 ca2 cb2 : Nat} (T1 : TensR w u s X n a1 ca1 b1 cb1) (T2 : TensR w v t Y n a2 ca2 b2 cb2) (ok1 : Ok10 s X) (ok2 : Ok10 t Y) (l1 : X.length ≤ 64) (l2 : Y.length ≤ 64) (fX : ∀ x ∈ X, FitQ x 96) (fY : ∀ x ∈ Y, FitQ x 96) (hn : n ≤ 951) :
 Calls Tryz.prog 22 #[u, v] w fun e w' => Ref10 w' e (mmC s t) (mmS s t) (mmV s t X Y) 951 ∧ Below w.heap.size w w' := by
 by_cases h : s.length = 2 ∧ t.length = 2 ∧ s.getD 1 0 = t.getD 0 0
 · obtain ⟨h1, h2, h3⟩ := h
   have e1 := list_two10 h1
   have e2 := list_two10 h2
   rw [← h3] at e2
   have p1 := ok1.ok.pos.getD (i := 0) (by omega)
   have p2 := ok1.ok.pos.getD (i := 1) (by omega)
   have p3 := ok2.ok.pos.getD (i := 1) (by omega)
   obtain ⟨a, ha⟩ : ∃ a : Nat, (a : Int) = s.getD 0 0 := ⟨(s.getD 0 0).toNat, by omega⟩
   obtain ⟨b, hb⟩ : ∃ b : Nat, (b : Int) = s.getD 1 0 := ⟨(s.getD 1 0).toNat, by omega⟩
   obtain ⟨c, hc⟩ : ∃ c : Nat, (c : Int) = t.getD 1 0 := ⟨(t.getD 1 0).toNat, by omega⟩
   rw [← ha, ← hb] at e1
   rw [← hb, ← hc] at e2
   rw [← ha] at p1
   rw [← hb] at p2
   rw [← hc] at p3
   clear ha hb hc h1 h2 h3
   subst e1
   subst e2
   have lX : X.length = a * b := by rw [ok1.len, cnt_two10]
   have lY : Y.length = b * c := by rw [ok2.len, cnt_two10]
   have a1' : 1 ≤ a := by omega
   have b1' : 1 ≤ b := by omega
   have c1' : 1 ≤ c := by omega
   have hab : a ≤ 64 := Nat.le_trans (Nat.le_mul_of_pos_right a b1') (by omega)
   have hba : b ≤ 64 := Nat.le_trans (Nat.le_mul_of_pos_left b a1') (by omega)
   have hcb : c ≤ 64 := Nat.le_trans (Nat.le_mul_of_pos_left c b1') (by omega)
   have hprod : prodS [(a : Int), (c : Int)] = ((a * c : Nat) : Int) := by
    simp only [prodS, Int.mul_one]
    exact (Int.natCast_mul a c).symm
   have hpos : posS [(a : Int), (c : Int)] := fun x hx => by
    simp at hx
    rcases hx with rfl | rfl <;> omega
   have hcode : mmC [(a : Int), (b : Int)] [(b : Int), (c : Int)] = mayC [(a : Int), (c : Int)] := if_pos ⟨rfl, rfl, rfl⟩
   by_cases hg : 1024 < a * c
   · have hm : mmC [(a : Int), (b : Int)] [(b : Int), (c : Int)] = 14 := by
      rw [hcode]
      unfold mayC
      rw [if_neg (by simp), if_neg (by rw [any_pos]; exact fun h => h hpos), if_pos (by rw [hprod]; omega)]
     rw [hm]
     exact (matMulR_14 T1 T2 hab hba hcb hg).mono fun e w' ⟨h, hb⟩ => ⟨h.none10 (by decide), hb⟩
   · have hm : mmC [(a : Int), (b : Int)] [(b : Int), (c : Int)] = 0 := by
      rw [hcode]
      exact mayC_ok ⟨by simp, hpos, by rw [hprod]; omega⟩
     rw [hm]
     exact matMulR_good T1 T2 hab hba hcb (by omega) lX lY fX fY hn
 · have hm : mmC s t = 13 := if_neg h
   rw [hm]
   exact (matMulR_bad T1 T2 h (by have := ok1.ok.rank; omega) (by have := ok2.ok.rank; omega)).mono fun e w' ⟨h, hb⟩ => ⟨h.none10 (by decide), hb⟩
theorem prodS_drop_le10 {s : List Int} (h : posS s) (k : Nat) : prodS (s.drop k) ≤ prodS s := by
 have h1 := prodS_pos (h.take k)
 have h2 := prodS_pos (h.drop k)
 rw [prodS_split s k]
 have := Int.mul_le_mul_of_nonneg_right h1 (show 0 ≤ prodS (s.drop k) by omega)
 omega
theorem TenR.far10 {w w' : World} {v : Value} {s : List Int} {L : List Rat} {n g : Nat} {t : TypeId} {p1 p2 : Option Addr} {l1 l2 k1 k2 : Nat} (h : TenR w v s L n) (R : Row w g t #[.slice p1 l1 k1, .slice p2 l2 k2]) (hk : ∀ k, k ≠ g → w'.heap[k]? = w.heap[k]?) : TenR w' v s L n := by
 obtain ⟨a, ca, b, cb, h⟩ := h
 exact ⟨a, ca, b, cb, h.far R hk⟩
theorem dim_le10 {s : List Int} {L : List Rat} (ok' : Ok10 s L) (hl : L.length ≤ 64) (i : Nat) : s.getD i 0 ≤ 64 := by
 have ok := ok'.ok
 have hq := ok.cnt.1
 have hq2 := ok'.len
 by_cases hi : i < s.length
 · have h1 := prodS_drop hi
   have h2 := prodS_drop_le10 ok.pos i
   have h4 := ok.pos.getD (i := i) hi
   have h5 := prodS_pos (ok.pos.drop (i + 1))
   have h6 := Int.mul_le_mul_of_nonneg_left (show 1 ≤ prodS (s.drop (i + 1)) by omega) (show 0 ≤ s.getD i 0 by omega)
   rw [Int.mul_one, ← h1] at h6
   omega
 · rw [List.getD_eq_getElem?_getD, List.getElem?_eq_none (Nat.le_of_not_lt hi)]
   decide
theorem An10.none10 {base N : Nat} {w : World} {r : Value} {c : Int} {s s2 : List Int} {L L2 : List Rat} (h : An10 base w r c s L N) (h0 : c ≠ 0) : An10 base w r c s2 L2 N := .inr ⟨h0, (h.resolve_left fun e => h0 e.1).2⟩
end
section
open Go.RowKit
theorem gemmR_bad {w : World} {a1 b1 a2 b2 a3 b3 : Option Addr} {N1 N2 N3 M1 M2 M3 ca1 ca2 ca3 cb1 cb2 cb3 : Nat} {c : Int} (hc : c ≠ 0) (hM : ∀ X, Below w.heap.size w X → Calls Tryz.prog 22 #[.agg #[.slice a1 N1 ca1, .slice b1 M1 cb1], .agg #[.slice a2 N2 ca2, .slice b2 M2 cb2]] X fun e w' => Ref10 w' e c [] [] 0 ∧ Below X.heap.size X w') :
 Calls Tryz.prog 24 #[.agg #[.slice a1 N1 ca1, .slice b1 M1 cb1], .agg #[.slice a2 N2 ca2, .slice b2 M2 cb2], .agg #[.slice a3 N3 ca3, .slice b3 M3 cb3]] w fun e w' => Ref10 w' e c [] [] 0 ∧ Below w.heap.size w w' := by
 obtain ⟨W, hW⟩ : ∃ W, ((((w.alloc (.cells #[.slice a1 N1 ca1, .slice b1 M1 cb1] 36)).alloc (.cells #[.slice a2 N2 ca2, .slice b2 M2 cb2] 36)).alloc (.cells #[.slice a3 N3 ca3, .slice b3 M3 cb3] 36)).alloc (.cells #[.slice none 0 0, .slice none 0 0] 36)) = W := ⟨_, rfl⟩
 have R0 : Row W (w.heap.size) 36 #[.slice a1 N1 ca1, .slice b1 M1 cb1] := by rw [← hW]; have h := Row.new w 36 #[.slice a1 N1 ca1, .slice b1 M1 cb1]; (try simp only [World.size_alloc] at h); exact (((h.alloc _).alloc _).alloc _)
 have R1 : Row W (w.heap.size + 1) 36 #[.slice a2 N2 ca2, .slice b2 M2 cb2] := by rw [← hW]; have h := Row.new (w.alloc (.cells #[.slice a1 N1 ca1, .slice b1 M1 cb1] 36)) 36 #[.slice a2 N2 ca2, .slice b2 M2 cb2]; (try simp only [World.size_alloc] at h); exact ((h.alloc _).alloc _)
 have R2 : Row W (w.heap.size + 1 + 1) 36 #[.slice a3 N3 ca3, .slice b3 M3 cb3] := by rw [← hW]; have h := Row.new ((w.alloc (.cells #[.slice a1 N1 ca1, .slice b1 M1 cb1] 36)).alloc (.cells #[.slice a2 N2 ca2, .slice b2 M2 cb2] 36)) 36 #[.slice a3 N3 ca3, .slice b3 M3 cb3]; (try simp only [World.size_alloc] at h); exact (h.alloc _)
 have R3 : Row W (w.heap.size + 1 + 1 + 1) 36 #[.slice none 0 0, .slice none 0 0] := by rw [← hW]; have h := Row.new (((w.alloc (.cells #[.slice a1 N1 ca1, .slice b1 M1 cb1] 36)).alloc (.cells #[.slice a2 N2 ca2, .slice b2 M2 cb2] 36)).alloc (.cells #[.slice a3 N3 ca3, .slice b3 M3 cb3] 36)) 36 #[.slice none 0 0, .slice none 0 0]; (try simp only [World.size_alloc] at h); exact h
 have hBW : Below w.heap.size w W := by rw [← hW]; exact (((((Below.refl _ _).alloc (by (try simp) <;> omega) _).alloc (by (try simp) <;> omega) _).alloc (by (try simp) <;> omega) _).alloc (by (try simp) <;> omega) _)
 have hsW : W.heap.size = w.heap.size + 1 + 1 + 1 + 1 := by rw [← hW]; simp
 have HBW := Lib.hid hBW
 have HSW := Lib.hid hsW
 obtain ⟨x0, x1, _, _⟩ := R0.two
 obtain ⟨x2, x3, _, _⟩ := R1.two
 go_enter Tryz.func24, Tryz.ntmps24
 (try rw [hW])
 go_wp2_with fail
 (try rw [hW])
 (try clear hW)
 refine (hM _ HBW.out).mono ?_
 rintro e zP ⟨⟨r, rfl, ⟨ra, rb, na, nb, rca, rcb, rfl⟩, _⟩, hy⟩
 obtain ⟨yP, hV⟩ : ∃ X, zP.alloc (.cells #[.slice ra na rca, .slice rb nb rcb] 36) = X := ⟨_, rfl⟩
 have bz : Below zP.heap.size zP yP := by rw [← hV]; exact (Below.refl _ _).alloc (Nat.le_refl _) _
 have NP : Row yP zP.heap.size 36 #[.slice ra na rca, .slice rb nb rcb] := by rw [← hV]; exact Row.new _ _ _
 have hyz := hy.trans (bz.mono hy.size)
 have hcI : (c != 0) = true := by simp [hc]
 obtain ⟨k0, k1, k2, k3⟩ := (R3.later hyz).two
 have P3 := (R3.later hyz).set2 (.slice none 0 0) (.slice none 0 0)
 obtain ⟨z0, z1, _, _⟩ := P3.two
 have hBE := below_set2 (HBW.out.trans (hyz.mono HBW.out.size)) (show w.heap.size ≤ w.heap.size + 1 + 1 + 1 by omega) (.slice none 0 0) (.slice none 0 0)
 go_wp2_with fail
 (try rw [hV])
 go_wp2_with fail
 exact bodyPost_ret (v := .tuple #[noTensor, .int .i64 c]) (by simp [results, Tryz.results24, go_sem, z0, z1, noTensor]) rfl ⟨⟨_, rfl, ⟨none, none, 0, 0, 0, 0, rfl⟩, fun h => absurd h (by assumption)⟩, hBE⟩
theorem gemmR_unfit {w : World} {a1 b1 a2 b2 a3 b3 : Option Addr} {N1 N2 N3 M1 M2 M3 ca1 ca2 ca3 cb1 cb2 cb3 : Nat} {n : Nat} {A C : Int} {f : List Int} {M Z : List Rat} (hM : ∀ X, Below w.heap.size w X → Calls Tryz.prog 22 #[.agg #[.slice a1 N1 ca1, .slice b1 M1 cb1], .agg #[.slice a2 N2 ca2, .slice b2 M2 cb2]] X fun e w' => RefO10 X.heap.size w' e [A, C] M 951 ∧ Below X.heap.size X w') (T3 : TensR w (.agg #[.slice a3 N3 ca3, .slice b3 M3 cb3]) f Z n a3 ca3 b3 cb3) (hf : fitC f [A, C] ≠ 0) :
 Calls Tryz.prog 24 #[.agg #[.slice a1 N1 ca1, .slice b1 M1 cb1], .agg #[.slice a2 N2 ca2, .slice b2 M2 cb2], .agg #[.slice a3 N3 ca3, .slice b3 M3 cb3]] w fun e w' => Ref10 w' e 13 [] [] 0 ∧ Below w.heap.size w w' := by
 have hN3 : f.length = N3 := by have h := T3.is; simp at h; exact h.1.symm
 obtain ⟨W, hW⟩ : ∃ W, ((((w.alloc (.cells #[.slice a1 N1 ca1, .slice b1 M1 cb1] 36)).alloc (.cells #[.slice a2 N2 ca2, .slice b2 M2 cb2] 36)).alloc (.cells #[.slice a3 N3 ca3, .slice b3 M3 cb3] 36)).alloc (.cells #[.slice none 0 0, .slice none 0 0] 36)) = W := ⟨_, rfl⟩
 have R0 : Row W (w.heap.size) 36 #[.slice a1 N1 ca1, .slice b1 M1 cb1] := by rw [← hW]; have h := Row.new w 36 #[.slice a1 N1 ca1, .slice b1 M1 cb1]; (try simp only [World.size_alloc] at h); exact (((h.alloc _).alloc _).alloc _)
 have R1 : Row W (w.heap.size + 1) 36 #[.slice a2 N2 ca2, .slice b2 M2 cb2] := by rw [← hW]; have h := Row.new (w.alloc (.cells #[.slice a1 N1 ca1, .slice b1 M1 cb1] 36)) 36 #[.slice a2 N2 ca2, .slice b2 M2 cb2]; (try simp only [World.size_alloc] at h); exact ((h.alloc _).alloc _)
 have R2 : Row W (w.heap.size + 1 + 1) 36 #[.slice a3 N3 ca3, .slice b3 M3 cb3] := by rw [← hW]; have h := Row.new ((w.alloc (.cells #[.slice a1 N1 ca1, .slice b1 M1 cb1] 36)).alloc (.cells #[.slice a2 N2 ca2, .slice b2 M2 cb2] 36)) 36 #[.slice a3 N3 ca3, .slice b3 M3 cb3]; (try simp only [World.size_alloc] at h); exact (h.alloc _)
 have R3 : Row W (w.heap.size + 1 + 1 + 1) 36 #[.slice none 0 0, .slice none 0 0] := by rw [← hW]; have h := Row.new (((w.alloc (.cells #[.slice a1 N1 ca1, .slice b1 M1 cb1] 36)).alloc (.cells #[.slice a2 N2 ca2, .slice b2 M2 cb2] 36)).alloc (.cells #[.slice a3 N3 ca3, .slice b3 M3 cb3] 36)) 36 #[.slice none 0 0, .slice none 0 0]; (try simp only [World.size_alloc] at h); exact h
 have hBW : Below w.heap.size w W := by rw [← hW]; exact (((((Below.refl _ _).alloc (by (try simp) <;> omega) _).alloc (by (try simp) <;> omega) _).alloc (by (try simp) <;> omega) _).alloc (by (try simp) <;> omega) _)
 have hsW : W.heap.size = w.heap.size + 1 + 1 + 1 + 1 := by rw [← hW]; simp
 have HBW := Lib.hid hBW
 have HSW := Lib.hid hsW
 obtain ⟨x0, x1, _, _⟩ := R0.two
 obtain ⟨x2, x3, _, _⟩ := R1.two
 go_enter Tryz.func24, Tryz.ntmps24
 (try rw [hW])
 go_wp2_with fail
 (try rw [hW])
 (try clear hW)
 refine (hM _ HBW.out).mono ?_
 rintro e zP ⟨⟨G, v, rfl, hG, hS, hR⟩, hy⟩
 obtain ⟨es0, hown0, hall0⟩ := hR
 obtain ⟨av, cv, rfl⟩ := ownT_slice hown0
 obtain ⟨yP, hV⟩ : ∃ X, zP.alloc (.cells #[.slice (some ⟨G, 0, none⟩) 2 2, .slice av es0.length cv] 36) = X := ⟨_, rfl⟩
 have bz : Below zP.heap.size zP yP := by rw [← hV]; exact (Below.refl _ _).alloc (Nat.le_refl _) _
 have NP : Row yP zP.heap.size 36 #[.slice (some ⟨G, 0, none⟩) 2 2, .slice av es0.length cv] := by rw [← hV]; exact Row.new _ _ _
 have hyz := hy.trans (bz.mono hy.size)
 have hT3 := T3.sh.later (HBW.out.trans (hyz.mono HBW.out.size))
 rw [hN3] at hT3
 have hS8 := hS.later bz
 have hS8' := hS8.at_.2.1
 obtain ⟨x4, x5, _, _⟩ := (R2.later hyz).two
 obtain ⟨p0, p1, _, _⟩ := NP.two
 go_wp2_with fail
 (try rw [hV])
 (try clear hV)
 refine (fitsR_any hT3 hS8').mono ?_
 rintro e _ ⟨rfl, rfl⟩
 obtain ⟨d, hd⟩ : ∃ d, fitC f [A, C] = d := ⟨_, rfl⟩
 rw [hd] at hf ⊢
 have hdI : (d != 0) = true := by simp [hf]
 obtain ⟨k0, k1, k2, k3⟩ := (R3.later hyz).two
 have P3 := (R3.later hyz).set2 (.slice none 0 0) (.slice none 0 0)
 obtain ⟨z0, z1, _, _⟩ := P3.two
 have hBE := below_set2 (HBW.out.trans (hyz.mono HBW.out.size)) (show w.heap.size ≤ w.heap.size + 1 + 1 + 1 by omega) (.slice none 0 0) (.slice none 0 0)
 go_wp2_with fail
 (try rw [hV])
 go_wp2_with fail
 exact bodyPost_ret (v := .tuple #[noTensor, .int .i64 13]) (by simp [results, Tryz.results24, go_sem, z0, z1, noTensor]) rfl ⟨⟨_, rfl, ⟨none, none, 0, 0, 0, 0, rfl⟩, fun h => absurd h (by decide)⟩, hBE⟩
theorem gemmR_good {w : World} {a1 b1 a2 b2 a3 b3 : Option Addr} {N1 N2 N3 M1 M2 M3 ca1 ca2 ca3 cb1 cb2 cb3 : Nat} {n : Nat} {A C : Int} {f : List Int} {M Z : List Rat} (hM : ∀ X, Below w.heap.size w X → Calls Tryz.prog 22 #[.agg #[.slice a1 N1 ca1, .slice b1 M1 cb1], .agg #[.slice a2 N2 ca2, .slice b2 M2 cb2]] X fun e w' => RefO10 X.heap.size w' e [A, C] M 951 ∧ Below X.heap.size X w') (T3 : TensR w (.agg #[.slice a3 N3 ca3, .slice b3 M3 cb3]) f Z n a3 ca3 b3 cb3) (hf : fitC f [A, C] = 0) (hlM : M.length = cntF [A, C]) (hlZ : Z.length = cntF f) (fM : ∀ x ∈ M, FitQ x 12352) (fZ : ∀ x ∈ Z, FitQ x 96) (hn : n ≤ 951) :
 Calls Tryz.prog 24 #[.agg #[.slice a1 N1 ca1, .slice b1 M1 cb1], .agg #[.slice a2 N2 ca2, .slice b2 M2 cb2], .agg #[.slice a3 N3 ca3, .slice b3 M3 cb3]] w fun e w' => Ref10 w' e 0 [A, C] (plusF [A, C] f M Z) 958 ∧ Below w.heap.size w w' := by
 obtain ⟨okf, okt, _⟩ := fitC_is hf
 have hN3 : f.length = N3 := by have h := T3.is; simp at h; exact h.1.symm
 have hpos := prodS_pos okt.pos
 have hfew := okt.few
 have HF := Lib.hid hf
 have HFM := Lib.hid fM
 have HFZ := Lib.hid fZ
 have HLZ := Lib.hid hlZ
 have HT3 := Lib.hid T3
 have HPOS := Lib.hid okt
 obtain ⟨N, hN⟩ : ∃ N, cntF [A, C] = N := ⟨_, rfl⟩
 have hN0 : 0 < N := by rw [← hN]; unfold cntF; omega
 have hN4 : N ≤ 1024 := by rw [← hN]; unfold cntF; omega
 have hNI : prodS [A, C] = (N : Int) := by rw [← hN]; unfold cntF; omega
 have HNI := Lib.hid hNI
 have hlP : (plusF [A, C] f M Z).length = N := by rw [plusF_len, hN]
 have hPat : ∀ k, k < N → (plusF [A, C] f M Z).getD k 0 = M.getD k 0 + elV f Z (bcI f ([A, C].length - f.length) (idxS [A, C] (k : Int))) := fun k hk => by
  unfold plusF
  rw [List.getD_eq_getElem?_getD, List.getElem?_map, List.getElem?_range (by omega)]
  rfl
 have HPAT := Lib.hid hPat
 obtain ⟨P, hP⟩ : ∃ P, plusF [A, C] f M Z = P := ⟨_, rfl⟩
 rw [hP] at hlP ⊢
 rw [hN] at hlM
 have HLM := Lib.hid hlM
 have HLP := Lib.hid hlP
 have HP := Lib.hid hP
 clear fM fZ hlZ hPat hP hN hpos hfew
 obtain ⟨W, hW⟩ : ∃ W, ((((w.alloc (.cells #[.slice a1 N1 ca1, .slice b1 M1 cb1] 36)).alloc (.cells #[.slice a2 N2 ca2, .slice b2 M2 cb2] 36)).alloc (.cells #[.slice a3 N3 ca3, .slice b3 M3 cb3] 36)).alloc (.cells #[.slice none 0 0, .slice none 0 0] 36)) = W := ⟨_, rfl⟩
 have R0 : Row W (w.heap.size) 36 #[.slice a1 N1 ca1, .slice b1 M1 cb1] := by rw [← hW]; have h := Row.new w 36 #[.slice a1 N1 ca1, .slice b1 M1 cb1]; (try simp only [World.size_alloc] at h); exact (((h.alloc _).alloc _).alloc _)
 have R1 : Row W (w.heap.size + 1) 36 #[.slice a2 N2 ca2, .slice b2 M2 cb2] := by rw [← hW]; have h := Row.new (w.alloc (.cells #[.slice a1 N1 ca1, .slice b1 M1 cb1] 36)) 36 #[.slice a2 N2 ca2, .slice b2 M2 cb2]; (try simp only [World.size_alloc] at h); exact ((h.alloc _).alloc _)
 have R2 : Row W (w.heap.size + 1 + 1) 36 #[.slice a3 N3 ca3, .slice b3 M3 cb3] := by rw [← hW]; have h := Row.new ((w.alloc (.cells #[.slice a1 N1 ca1, .slice b1 M1 cb1] 36)).alloc (.cells #[.slice a2 N2 ca2, .slice b2 M2 cb2] 36)) 36 #[.slice a3 N3 ca3, .slice b3 M3 cb3]; (try simp only [World.size_alloc] at h); exact (h.alloc _)
 have R3 : Row W (w.heap.size + 1 + 1 + 1) 36 #[.slice none 0 0, .slice none 0 0] := by rw [← hW]; have h := Row.new (((w.alloc (.cells #[.slice a1 N1 ca1, .slice b1 M1 cb1] 36)).alloc (.cells #[.slice a2 N2 ca2, .slice b2 M2 cb2] 36)).alloc (.cells #[.slice a3 N3 ca3, .slice b3 M3 cb3] 36)) 36 #[.slice none 0 0, .slice none 0 0]; (try simp only [World.size_alloc] at h); exact h
 have hBW : Below w.heap.size w W := by rw [← hW]; exact (((((Below.refl _ _).alloc (by (try simp) <;> omega) _).alloc (by (try simp) <;> omega) _).alloc (by (try simp) <;> omega) _).alloc (by (try simp) <;> omega) _)
 have hsW : W.heap.size = w.heap.size + 1 + 1 + 1 + 1 := by rw [← hW]; simp
 have HBW := Lib.hid hBW
 have HSW := Lib.hid hsW
 obtain ⟨x0, x1, _, _⟩ := R0.two
 obtain ⟨x2, x3, _, _⟩ := R1.two
 go_enter Tryz.func24, Tryz.ntmps24
 (try rw [hW])
 go_wp2_with fail
 (try rw [hW])
 (try clear hW)
 refine (hM _ HBW.out).mono ?_
 rintro e zP ⟨⟨G, v, rfl, hG, hS, hR⟩, hy⟩
 obtain ⟨es0, hown0, hall0⟩ := hR
 obtain ⟨av, cv, rfl⟩ := ownT_slice hown0
 obtain ⟨yP, hV⟩ : ∃ X, zP.alloc (.cells #[.slice (some ⟨G, 0, none⟩) 2 2, .slice av es0.length cv] 36) = X := ⟨_, rfl⟩
 have bz : Below zP.heap.size zP yP := by rw [← hV]; exact (Below.refl _ _).alloc (Nat.le_refl _) _
 have NP : Row yP zP.heap.size 36 #[.slice (some ⟨G, 0, none⟩) 2 2, .slice av es0.length cv] := by rw [← hV]; exact Row.new _ _ _
 have hyz := hy.trans (bz.mono hy.size)
 have hT3 := T3.sh.later (HBW.out.trans (hyz.mono HBW.out.size))
 rw [hN3] at hT3
 have hS8 := hS.later bz
 have hS8' := hS8.at_.2.1
 obtain ⟨x4, x5, _, _⟩ := (R2.later hyz).two
 obtain ⟨p0, p1, _, _⟩ := NP.two
 go_wp2_with fail
 (try rw [hV])
 (try clear hV)
 refine (fitsR_any hT3 hS8').mono ?_
 rintro e _ ⟨rfl, rfl⟩
 rw [hf]
 go_wp2_with fail
 refine (indexesR_any hS8' okt).mono ?_
 rintro e V ⟨lv, rfl, hI, hyV⟩
 rw [hNI] at hI
 have hI' : RowsS yP.heap.size V lv (allS [A, C] N) := hI
 obtain ⟨gl, capl, rfl, _, _, _, _⟩ := hI'.slice (fun h => by have h1 := allS_length [A, C] N; rw [h] at h1; simp at h1; omega)
 rw [allS_length] at hI' ⊢
 have hes0 : es0.length = N := by rw [hall0.1, hlM]
 rw [hes0] at NP hown0 p1 ⊢
 obtain ⟨g, cap, cur, hv, hbg, _, _, _⟩ := hown0.slice10 (by omega)
 (try rw [hes0] at hv)
 simp only [Value.slice.injEq] at hv
 obtain ⟨rfl, _, rfl⟩ := hv
 have hbV : Below W.heap.size W V := hyz.trans (hyV.mono hyz.size)
 have hzV : Below zP.heap.size zP V := bz.trans (hyV.mono bz.size)
 have hE0 : RowO G 58 (fun W v x => ResR G W v x 958) V (.slice (some ⟨g, 0, none⟩) N cv) (gemU M P 0) := by
  rw [gemU_zero]
  exact ⟨es0, hown0.later hzV, hall0.imp fun u x _ h => (h.later hzV).more (m := 958) (by decide)⟩
 have R8 := NP.later hyV
 have rs8 := hS8.later hyV
 have hGV : G ≤ V.heap.size := by have h1 := hown0.lt g rfl; have h2 := hzV.size; omega
 have hGW : W.heap.size ≤ G := hG
 have hgz := (hown0.lt g rfl).2
 have HR2 := Lib.hid R2
 have HR3 := Lib.hid R3
 have HE0 := Lib.hid hE0
 have HR8 := Lib.hid R8
 have HRS8 := Lib.hid rs8
 have HIV := Lib.hid hI'
 have HBV := Lib.hid hbV
 clear x0 x1 x2 x3 x4 x5 p0 p1 hI hown0 hall0 NP hyz hyV hzV bz hy R8 rs8 hI' hbV hE0 R0 R1 R2 R3 hS hS8 hS8' hT3 hM T3 hlM hlP okt okf hf hBW hsW hes0 hN3 hNI
 go_wp2_with fail
 go_loopw [11] (fun i wr => ∃ k : Nat, i = .int .i64 (k : Int) ∧ k ≤ N ∧ Row wr zP.heap.size 36 #[(.slice (some ⟨G, 0, none⟩) 2 2), (.slice (some ⟨g, 0, none⟩) N cv)] ∧ ResS G wr (.slice (some ⟨G, 0, none⟩) 2 2) [A, C] ∧ RowO G 58 (fun W v x => ResR G W v x 958) wr (.slice (some ⟨g, 0, none⟩) N cv) (gemU M P k) ∧ RowsS yP.heap.size wr (.slice (some ⟨gl, 0, none⟩) N capl) (allS [A, C] N) ∧ Below W.heap.size W wr) (fun i _ => N - (intOf i).toNat)
 case atStart => exact ⟨0, rfl, Nat.zero_le _, HR8.out, HRS8.out, HE0.out, HIV.out, HBV.out⟩
 case round =>
  obtain ⟨k, rfl, hk, rr, rs, hE, hL, hbr⟩ := hrel
  by_cases hlt : k < N
  · have hltI : (k : Int) < (N : Int) := by omega
    have hk0 : (0 : Int) ≤ (k : Int) := by omega
    obtain ⟨es, hown, hall⟩ := hE
    have hlU : (gemU M P k).length = N := by rw [gemU_len (by rw [HLM.out, HLP.out]) (by rw [HLP.out]; omega), HLP.out]
    have hes : es.length = N := by rw [hall.1, hlU]
    obtain ⟨g', cap', cur, hv, hbg', hrow, hsz, hcell⟩ := hown.slice10 (by omega)
    rw [hes] at hv hsz
    simp only [Value.slice.injEq, Option.some.injEq, Addr.mk.injEq, and_true, true_and] at hv
    obtain ⟨rfl, rfl⟩ := hv
    obtain ⟨ek, hek⟩ : ∃ e, es[k]? = some e := ⟨_, List.getElem?_eq_getElem (by omega)⟩
    have hx := hall.2 k _ _ hek (gemU_at (by rw [HLM.out, HLP.out]) (by rw [HLP.out]; omega))
    obtain ⟨g0, g1, g2⟩ := hcell k _ hek
    obtain ⟨ea, eb, ec⟩ := ek
    obtain ⟨m1, p1, p2, p3, p4, p5, p6, he⟩ := hx.arg.shape10
    simp only [E3.agg, Value.agg.injEq, Array.mk.injEq, List.cons.injEq, and_true] at he
    obtain ⟨rfl, rfl, rfl⟩ := he
    obtain ⟨gl', capl', hv2, _, _, _, hcl⟩ := hL.slice (fun h => by have h1 := allS_length [A, C] N; rw [h] at h1; simp at h1; omega)
    rw [allS_length] at hv2
    simp only [Value.slice.injEq, Option.some.injEq, Addr.mk.injEq, and_true, true_and] at hv2
    obtain ⟨rfl, rfl⟩ := hv2
    obtain ⟨u, hu, hSu⟩ := hcl k (by rw [allS_length]; exact hlt)
    rw [allS_at _ hlt] at hSu
    have hPk := HPAT.out k hlt
    have hin := (place_idx HPOS.out.pos (show (0 : Int) ≤ (k : Int) by omega) (by rw [HNI.out]; omega)).1
    obtain ⟨xs, hxs⟩ : ∃ x, idxS [A, C] (k : Int) = x := ⟨_, rfl⟩
    rw [hxs] at hSu hPk hin
    rw [HP.out] at hPk
    obtain ⟨ax, cx, rfl, _, hAx, _⟩ := hSu.slice
    obtain ⟨mx, hmx⟩ : ∃ m, xs.length = m := ⟨_, rfl⟩
    rw [hmx] at hu hAx
    have hfit : FitQ (P.getD k 0) (12352 + 96 + 1) := by
     rw [hPk]
     refine (getD_fit10 HFM.out k).add ?_
     unfold elV
     split
     · exact getD_fit10 HFZ.out _
     · exact FitQ.zero _
    have HPK := Lib.hid hPk
    have HIN := Lib.hid hin
    have HFIT := Lib.hid hfit
    have HX := Lib.hid hx.arg
    have HAX := Lib.hid hAx
    have HBR := Lib.hid hbr
    have HRR := Lib.hid rr
    have HRS := Lib.hid rs
    have HL := Lib.hid hL
    have HOWN := Lib.hid hown
    have HALL := Lib.hid hall
    have HROW := Lib.hid hrow
    have HSZ := Lib.hid hsz
    have HES := Lib.hid hes
    have HEK := Lib.hid hek
    have hk4 : k * 3 ≤ 4096 := by omega
    have MKA := Lib.hid (show ∀ Y, Below wr.heap.size wr Y → (Y.cell? ⟨zP.heap.size, 1, none⟩ = some (.slice (some ⟨g, 0, none⟩) N cv)) ∧ (Y.cell? ⟨w.heap.size + 1 + 1, 0, none⟩ = some (.slice a3 N3 ca3) ∧ Y.cell? ⟨w.heap.size + 1 + 1, 1, none⟩ = some (.slice b3 M3 cb3)) ∧ (Y.cell? ⟨g, k * 3, none⟩ = some (.bool m1) ∧ Y.cell? ⟨g, k * 3 + 1, none⟩ = some (.slice p1 p2 p3) ∧ Y.cell? ⟨g, k * 3 + 2, none⟩ = some (.slice p4 p5 p6)) ∧ (Y.cell? ⟨gl, k, none⟩ = some (.slice ax mx cx)) from fun Y h => by
     obtain ⟨_, f1, _⟩ := (HRR.out.later h).two
     obtain ⟨f2, f3, _⟩ := ((HR2.out.later HBR.out).later h).two
     exact ⟨f1, ⟨f2, f3⟩, ⟨(h.cell (World.block_lt_of_cell? _ _ g0)).trans g0, (h.cell (World.block_lt_of_cell? _ _ g1)).trans g1, (h.cell (World.block_lt_of_cell? _ _ g2)).trans g2⟩, (h.cell (World.block_lt_of_cell? _ _ hu)).trans hu⟩)
    clear hPk hin hfit hx hAx hbr rr rs hL hown hall hrow hsz hes hek g0 g1 g2 hu hcell hcl hlU hxs hmx hSu
    go_wp2_with fail
    refine wp_region_L (S := fun Y => (Y.cell? ⟨zP.heap.size, 1, none⟩ = some (.slice (some ⟨g, 0, none⟩) N cv)) ∧ (Y.cell? ⟨w.heap.size + 1 + 1, 0, none⟩ = some (.slice a3 N3 ca3) ∧ Y.cell? ⟨w.heap.size + 1 + 1, 1, none⟩ = some (.slice b3 M3 cb3)) ∧ (Y.cell? ⟨g, k * 3, none⟩ = some (.bool m1) ∧ Y.cell? ⟨g, k * 3 + 1, none⟩ = some (.slice p1 p2 p3) ∧ Y.cell? ⟨g, k * 3 + 2, none⟩ = some (.slice p4 p5 p6)) ∧ (Y.cell? ⟨gl, k, none⟩ = some (.slice ax mx cx))) (z := 16) (by kernel_rfl) (MKA.out _ (Below.refl _ _).drew) (fun hHeld => ?_)
    have bd : Below wr.heap.size wr wr.drew := (Below.refl _ _).drew
    refine todo [0, 1, 2, 3, 4, 5, 6, 7, 8, 9, 10, 11, 12] ?_
    iterate 13
     refine todoL (v := ?_) rfl (by kernel_rfl) (fun _ _ _ h => h) (by assumption) (Or.inl ⟨by rfl, ?_⟩) ?_
     rotate_left
     · intro w hSw; (try dsimp only at hSw); go_simp; (try with_reducible rfl)
     try simp only [Act.put, nA, nB, nC, nD, nE, nF]
    refine todone ?_
    refine wpAnyL_one (i := 13) (by kernel_rfl) rfl (fun K hK => ?sbt_13)
    go_simp
    refine (spreadR_any (HT3.out.later (HBW.out.trans ((HBR.out.trans (bd.mono HBR.out.size)).mono HBW.out.size))) (HAX.out.later bd) HF.out HIN.out HLZ.out).mono ?_
    rintro e w5 ⟨r5, rfl, q5, hb5⟩
    have b5 : Below wr.heap.size wr w5 := bd.trans (hb5.mono bd.size)
    have Q5 := Lib.hid q5
    clear q5
    go_simp
    refine hK.out _ _ (fun _ => MKA.out _ b5) (fun hHeld2 => ?mbt_13)
    clear hK K hHeld
    have hHeld := hHeld2 (by decide)
    clear hHeld2
    try simp only [Act.put, nA, nB, nC, nD, nE, nF]
    refine wpAnyL_one (i := 14) (by kernel_rfl) rfl (fun K hK => ?sbt_14)
    go_simp
    refine (addRR_any (n := 958) (HX.out.later b5) (Q5.out.more10 (by omega)) (by decide)).mono ?_
    rintro e w6 ⟨r6, rfl, q6, hb6⟩
    have b6 : Below wr.heap.size wr w6 := b5.trans (hb6.mono b5.size)
    obtain ⟨m8, a8, b8, c8, d8, e8, f8, rfl⟩ := q6.arg.shape10
    rw [← HPK.out] at q6
    have Q6 := Lib.hid ((q6.refit10 HFIT.out).mono (base' := G) (by have h1 := b5.size; have h3 := HROW.out.lt; omega))
    clear q6
    go_simp
    refine hK.out _ _ (fun _ => MKA.out _ b6) (fun hHeld2 => ?mbt_14)
    clear hK K hHeld
    have hHeld := hHeld2 (by decide)
    clear hHeld2
    try simp only [Act.put, nA, nB, nC, nD, nE, nF]
    have R6 := HROW.out.later b6
    have f60 := R6.free (k * 3)
    have f61 := R6.free (k * 3 + 1)
    have f62 := R6.free (k * 3 + 2)
    have hHeld0 := hHeld
    refine todo [15] ?_
    iterate 1
     refine todoL (v := ?_) rfl (by kernel_rfl) (fun _ _ _ h => h) (by assumption) (Or.inl ⟨by rfl, ?_⟩) ?_
     rotate_left
     · intro w hSw; (try dsimp only at hSw); go_simp; (try with_reducible rfl)
     try simp only [Act.put, nA, nB, nC, nD, nE, nF]
    refine todone ?_
    obtain ⟨_, _, ⟨c60, c61, c62⟩, _⟩ := hHeld0
    refine wpAnyL_one (i := 16) (by kernel_rfl) rfl (fun K hK => ?sbt_16)
    go_simp
    refine hK.out _ _ (fun h => absurd rfl h) (fun _ => ?mbt_16)
    clear hK K
    try simp only [Act.put, nA, nB, nC, nD, nE, nF]
    refine wpAnyL_done (by kernel_rfl) ?_ _
    go_wp2
    go_roundw
    case rel =>
     refine ⟨k + 1, by go_num, by omega, (put3_kept _ (by omega)).trans (HRR.out.later b6), (HRS.out.later b6).far R6 (by decide) put3_kept, ?_, (HL.out.later b6).far10 R6 (by decide) (by decide) put3_kept, (((HBR.out.trans (b6.mono HBR.out.size)).setCell (by show W.heap.size ≤ g; omega) _).setCell (by show W.heap.size ≤ g; omega) _).setCell (by show W.heap.size ≤ g; omega) _⟩
     rw [← gemU_set (by rw [HLM.out, HLP.out]) (by rw [HLP.out]; omega)]
     exact RowO.put10 (RowO.later ⟨es, HOWN.out, HALL.out⟩ b6 (fun _ _ h => h.later b6)) (fun u y h => h.far R6 (by decide) put3_kept) (Q6.out.far R6 (by decide) put3_kept)
    case measure => simp [intOf]; omega
  · obtain rfl : k = N := by omega
    have hltI : ¬ (k : Int) < (k : Int) := by omega
    have hE' := hE
    rw [← HLP.out, gemU_all (by rw [HLM.out, HLP.out]), HLP.out] at hE'
    have hT0 := HR3.out.later hbr
    obtain ⟨q0, q1, _, _⟩ := rr.two
    obtain ⟨k0, k1, k2, k3⟩ := hT0.two
    have P3 := hT0.set2 (.slice (some ⟨G, 0, none⟩) 2 2) (.slice (some ⟨g, 0, none⟩) k cv)
    obtain ⟨z0, z1, _, _⟩ := P3.two
    have hT := ofT_tens (s := [A, C]) (m := k) HLP.out.symm (rs.far hT0 (by decide) (kept2 (.slice (some ⟨G, 0, none⟩) 2 2) (.slice (some ⟨g, 0, none⟩) k cv))) (hE'.far hT0 (by decide) (kept2 (.slice (some ⟨G, 0, none⟩) 2 2) (.slice (some ⟨g, 0, none⟩) k cv)) (fun u y h => h.far hT0 (by decide) (kept2 _ _)))
    have HT := Lib.hid hT
    have hbE := below_set2 (HBW.out.trans (hbr.mono HBW.out.size)) (show w.heap.size ≤ w.heap.size + 1 + 1 + 1 by omega) (.slice (some ⟨G, 0, none⟩) 2 2) (.slice (some ⟨g, 0, none⟩) k cv)
    have HBE := Lib.hid hbE
    clear hT hbE P3 hE hE' hL rs hbr hT0 rr
    go_wp2_with fail
    exact bodyPost_ret (v := .tuple #[.agg #[.slice (some ⟨G, 0, none⟩) 2 2, .slice (some ⟨g, 0, none⟩) k cv], .int .i64 0]) (by simp [results, Tryz.results24, go_sem, z0, z1]) rfl ⟨⟨_, rfl, ⟨_, _, _, _, _, _, rfl⟩, fun _ => ⟨_, _, _, _, HT.out⟩⟩, HBE.out⟩
end
section
open Go.RowKit
theorem dim_ge10 {s : List Int} {L : List Rat} (ok' : Ok10 s L) (i : Nat) : 0 ≤ s.getD i 0 := by
 by_cases hi : i < s.length
 · have := ok'.ok.pos.getD (i := i) hi
   omega
 · rw [List.getD_eq_getElem?_getD, List.getElem?_eq_none (Nat.le_of_not_lt hi)]
   decide
theorem cnt_mm10 {s t : List Int} {X Y : List Rat} (ok1 : Ok10 s X) (ok2 : Ok10 t Y) (l1 : X.length ≤ 64) (l2 : Y.length ≤ 64) : cntF (mmS s t) ≤ 4096 := by
 have h1 := dim_le10 ok1 l1 0
 have h2 := dim_le10 ok2 l2 1
 have h3 := dim_ge10 ok1 0
 have h4 := dim_ge10 ok2 1
 unfold cntF mmS
 simp only [prodS, Int.mul_one]
 have h5 := Int.mul_le_mul h1 h2 h4 (by decide)
 omega
theorem mmV_fit10 {s t : List Int} {X Y : List Rat} (ok1 : Ok10 s X) (l1 : X.length ≤ 64) (fX : ∀ x ∈ X, FitQ x 96) (fY : ∀ x ∈ Y, FitQ x 96) : ∀ x ∈ mmV s t X Y, FitQ x 12352 := fun x hx => by
 have h1 := dim_le10 ok1 l1 1
 unfold mmV mmF at hx
 obtain ⟨k, _, rfl⟩ := List.mem_map.1 hx
 exact (sumFit10 (B := 96 + 96) (fun k => (getD_fit10 fX _).mul (getD_fit10 fY _)) _).mono (by omega)
theorem matMulR_ownAll {n : Nat} {w : World} {u v : Value} {s t : List Int} {X Y : List Rat} {a1 b1 a2 b2 : Option Addr} {ca1 cb1 ca2 cb2 : Nat} (T1 : TensR w u s X n a1 ca1 b1 cb1) (T2 : TensR w v t Y n a2 ca2 b2 cb2) (ok1 : Ok10 s X) (ok2 : Ok10 t Y) (l1 : X.length ≤ 64) (l2 : Y.length ≤ 64) (fX : ∀ x ∈ X, FitQ x 96) (fY : ∀ x ∈ Y, FitQ x 96) (hn : n ≤ 951) (hc : mmC s t = 0) :
 Calls Tryz.prog 22 #[u, v] w fun e w' => RefO10 w.heap.size w' e (mmS s t) (mmV s t X Y) 951 ∧ Below w.heap.size w w' := by
 by_cases h : s.length = 2 ∧ t.length = 2 ∧ s.getD 1 0 = t.getD 0 0
 · have hk := mayC_zero.1 (show mayC (mmS s t) = 0 by have h0 := hc; unfold mmC at h0; rwa [if_pos h] at h0)
   obtain ⟨h1, h2, h3⟩ := h
   have e1 := list_two10 h1
   have e2 := list_two10 h2
   rw [← h3] at e2
   have p1 := ok1.ok.pos.getD (i := 0) (by omega)
   have p2 := ok1.ok.pos.getD (i := 1) (by omega)
   have p3 := ok2.ok.pos.getD (i := 1) (by omega)
   obtain ⟨a, ha⟩ : ∃ a : Nat, (a : Int) = s.getD 0 0 := ⟨(s.getD 0 0).toNat, by omega⟩
   obtain ⟨b, hb⟩ : ∃ b : Nat, (b : Int) = s.getD 1 0 := ⟨(s.getD 1 0).toNat, by omega⟩
   obtain ⟨c, hc⟩ : ∃ c : Nat, (c : Int) = t.getD 1 0 := ⟨(t.getD 1 0).toNat, by omega⟩
   rw [← ha, ← hb] at e1
   rw [← hb, ← hc] at e2
   rw [← ha] at p1
   rw [← hb] at p2
   rw [← hc] at p3
   clear ha hb hc h1 h2 h3
   subst e1
   subst e2
   have lX : X.length = a * b := by rw [ok1.len, cnt_two10]
   have lY : Y.length = b * c := by rw [ok2.len, cnt_two10]
   have a1' : 1 ≤ a := by omega
   have b1' : 1 ≤ b := by omega
   have c1' : 1 ≤ c := by omega
   have hab : a ≤ 64 := Nat.le_trans (Nat.le_mul_of_pos_right a b1') (by omega)
   have hba : b ≤ 64 := Nat.le_trans (Nat.le_mul_of_pos_left b a1') (by omega)
   have hcb : c ≤ 64 := Nat.le_trans (Nat.le_mul_of_pos_left c b1') (by omega)
   have hprod : prodS [(a : Int), (c : Int)] = ((a * c : Nat) : Int) := by
    simp only [prodS, Int.mul_one]
    exact (Int.natCast_mul a c).symm
   have hq : prodS [(a : Int), (c : Int)] ≤ 1024 := hk.few
   exact matMulR_own T1 T2 hab hba hcb (by rw [hprod] at hq; omega) lX lY fX fY hn
 · unfold mmC at hc
   rw [if_neg h] at hc
   cases hc
theorem gemmR_all {n : Nat} {w : World} {u v z : Value} {s t f : List Int} {X Y Z : List Rat} {a1 b1 a2 b2 : Option Addr} {ca1 cb1 ca2 cb2 : Nat} {a3 b3 : Option Addr} {ca3 cb3 : Nat} (T1 : TensR w u s X n a1 ca1 b1 cb1) (T2 : TensR w v t Y n a2 ca2 b2 cb2) (T3 : TensR w z f Z n a3 ca3 b3 cb3) (ok3 : Ok10 f Z) (fZ : ∀ x ∈ Z, FitQ x 96) (ok1 : Ok10 s X) (ok2 : Ok10 t Y) (l1 : X.length ≤ 64) (l2 : Y.length ≤ 64) (fX : ∀ x ∈ X, FitQ x 96) (fY : ∀ x ∈ Y, FitQ x 96) (hn : n ≤ 951) :
 Calls Tryz.prog 24 #[u, v, z] w fun e w' => Ref10 w' e (if mmC s t = 0 then fitC f (mmS s t) else mmC s t) (mmS s t) (plusF (mmS s t) f (mmV s t X Y) Z) 958 ∧ Below w.heap.size w w' := by
 obtain rfl := T1.is
 obtain rfl := T2.is
 obtain rfl := T3.is
 by_cases hm : mmC s t = 0
 · rw [if_pos hm]
   have hM := fun (W : World) (h : Below w.heap.size w W) => matMulR_ownAll (T1.later h) (T2.later h) ok1 ok2 l1 l2 fX fY hn hm
   by_cases hf : fitC f (mmS s t) = 0
   · rw [hf]
     exact gemmR_good hM T3 hf (by unfold mmV; rw [mmF_len]; unfold cntF; have h3 := dim_ge10 ok1 0; have h4 := dim_ge10 ok2 1; simp only [prodS, Int.mul_one]; rw [Int.toNat_mul h3 h4]) ok3.len (mmV_fit10 ok1 l1 fX fY) fZ hn
   · have e : fitC f (mmS s t) = 13 := by
      unfold fitC at hf ⊢
      have h1 := mayC_ok ok3.ok
      have h2 : mayC (mmS s t) = 0 := by
       unfold mmC at hm
       split at hm
       · exact hm
       · cases hm
      simp only [h1, h2, ne_eq, not_true_eq_false, if_false] at hf ⊢
      split at hf
      · exact absurd rfl hf
      · rw [if_neg (by assumption)]
     rw [e]
     exact (gemmR_unfit hM T3 (by rw [show [s.getD 0 0, t.getD 1 0] = mmS s t from rfl, e]; decide)).mono fun e w' ⟨h, hb⟩ => ⟨h.none10 (by decide), hb⟩
 · rw [if_neg hm]
   exact (gemmR_bad hm (fun W h => (matMulR_all (T1.later h) (T2.later h) ok1 ok2 l1 l2 fX fY hn).mono fun e w' ⟨h, hb⟩ => ⟨h.none10 hm, hb⟩)).mono fun e w' ⟨h, hb⟩ => ⟨h.none10 hm, hb⟩
theorem orL_three10 {x y z u : Int} (h : orL [x, y, z] ≠ 0) : orL [x, y, z, u] = orL [x, y, z] := by
 by_cases hx : x = 0
 · subst hx
   by_cases hy : y = 0
   · subst hy
     by_cases hz : z = 0
     · subst hz; exact absurd rfl h
     · simp [orL, hz]
   · simp [orL, hy]
 · simp [orL, hx]
end
end Go.Proofs.YtengpgodmbfmkaaGreat
