/-
  Layer 8's law PointOwn: what is answered does not lead into what was handed in.
-/
import Derived.Test.YtjcacmnmbbnffaaGreatPKnown
import Derived.Test.YtjcacmnmbbnffaaGreatPLoot
import Derived.Test.YtjcacmnmbbnffaaGreatPBaseO
namespace Go.Proofs.YtjcacmnmbbnffaaGreat
open Go.RowKit
set_option linter.unusedVariables false
set_option linter.unusedSimpArgs false

theorem one_limb8 {X : World} {g : Nat} (h : Row X g 64 #[.int .u32 1]) : Arg X (.slice (some ⟨g, 0, none⟩) 1 1) [1] (some ⟨g, 0, none⟩) 1 :=
  ⟨rfl, Blk.lim (zs := [1]) h, Nat.le_refl _, wf1 (by omega)⟩
/-- a list of three tensors that may be written to -/
def Tens3 (G gb : Nat) (w : World) (c : Array Value) : Prop := w.heap[gb]? = some (.cells c 26 (0, 0)) ∧ ∀ i, i < 3 → ∃ va vb, c[i * 2]? = some va ∧ c[i * 2 + 1]? = some vb ∧ TenI G w va vb
theorem Tens3.of {G gb : Nat} {w : World} {v0 v1 v2 v3 v4 v5 : Value} (R : Row w gb 26 #[v0, v1, v2, v3, v4, v5]) (h0 : TenI G w v0 v1) (h1 : TenI G w v2 v3) (h2 : TenI G w v4 v5) : Tens3 G gb w #[v0, v1, v2, v3, v4, v5] :=
  ⟨R, fun i hi => by
    have hc : i = 0 ∨ i = 1 ∨ i = 2 := by omega
    rcases hc with rfl | rfl | rfl
    · exact ⟨v0, v1, rfl, rfl, h0⟩
    · exact ⟨v2, v3, rfl, rfl, h1⟩
    · exact ⟨v4, v5, rfl, rfl, h2⟩⟩
/-- a sign's cell -/
theorem Loose8.bool {G b j : Nat} {X Y : World} {c : Array Value} {t : TypeId} {p : Bool} (L : Loose8 G X Y) (h : X.heap[b]? = some (.cells c t (0, 0))) (hv : c[j]? = some (.bool p)) : ∃ c' p', Y.heap[b]? = some (.cells c' t (0, 0)) ∧ c'[j]? = some (.bool p') := by
  obtain ⟨c', e, _, f⟩ := L.2 b c t h
  obtain ⟨v', hv', k⟩ := f j _ hv
  rcases k with rfl | ⟨_, _, _, e, _⟩ | ⟨_, p', _, rfl⟩
  · exact ⟨c', p, e, hv'⟩
  · cases e
  · exact ⟨c', p', e, hv'⟩
theorem Loose8.seti {K : IntKind} {G b k : Nat} {X : World} {t : TypeId} {cur : Array Value} {z : Int} (z' : Int) (hb : G ≤ b) (h : X.heap[b]? = some (.cells cur t (0, 0))) (hv : cur[k]? = some (.int K z)) : Loose8 G X (X.setCell ⟨b, k, none⟩ (.int K z')) := Loose8.set hb h hv (.inr (.inl ⟨_, _, _, rfl, rfl⟩))
theorem Loose8.setb {G b k : Nat} {X : World} {t : TypeId} {cur : Array Value} {p : Bool} (p' : Bool) (hb : G ≤ b) (h : X.heap[b]? = some (.cells cur t (0, 0))) (hv : cur[k]? = some (.bool p)) : Loose8 G X (X.setCell ⟨b, k, none⟩ (.bool p')) := Loose8.set hb h hv (.inr (.inr ⟨_, _, rfl, rfl⟩))
theorem allBC_self8 {s : List Int} {qs : List Q3} : allBC (fun (p q : Q3) => decide (p.rat = q.rat)) s s qs qs = true := by
  refine allBC_yes rfl rfl fun k x y hx hy => ?_
  rw [hx] at hy
  cases hy
  exact decide_eq_true rfl
set_option maxRecDepth 100000 in
set_option maxHeartbeats 40000000 in
theorem pointOwn_walk {v : Value} {s : List Int} {qs : List Q3} {a b : Option Addr} {ca cb : Nat} (w : World) (T : TensQ w v s qs a ca b cb) (ls : s.length ≤ 17592186044416) :
    Calls Tryz.prog 10 #[v] w fun e W' => e = .returned (.bool true) ∧ Below w.heap.size w W' := by
  have HT := Lib.hid T
  obtain rfl := T.is
  obtain ⟨W, hW⟩ : ∃ W, (w.alloc (.cells #[.slice a s.length ca, .slice b qs.length cb] 26)) = W := ⟨_, rfl⟩
  have R0 : Row W (w.heap.size) 26 #[.slice a s.length ca, .slice b qs.length cb] := by rw [← hW]; have h := Row.new w 26 #[.slice a s.length ca, .slice b qs.length cb]; (try simp only [World.size_alloc] at h); exact h
  have hBW : Below w.heap.size w W := by rw [← hW]; exact ((Below.refl _ _).alloc (by (try simp) <;> omega) _)
  have hsW : W.heap.size = w.heap.size + 1 := by rw [← hW]; simp
  have hfew := few_any (HT.out.later hBW)
  obtain ⟨t, ht⟩ : ∃ t, fewB qs = t := ⟨_, rfl⟩
  rw [ht] at hfew
  have HF := Lib.hid ht
  obtain ⟨x0, x1, _, _⟩ := R0.two
  clear T ht
  cases t with
  | false =>
    go_enter Tryz.func10, Tryz.ntmps10
    (try rw [hW])
    go_wp2_with fail
    refine (hfew).mono ?_
    rintro e y1 ⟨rfl, hb1⟩
    have hk1 := hBW.trans (hb1.mono (by omega))
    go_wp2_with fail
    refine (known8_any _).mono ?_
    rintro e y9 ⟨rfl, hb9⟩
    go_wp2_with fail
    go_ret
    exact ⟨rfl, hk1.trans (hb9.mono hk1.size)⟩
  | true =>
    obtain ⟨hq64, hl6⟩ := fewB_true HF.out
    have HL := Lib.hid hl6
    have tX := fun (X : World) (h : Below W.heap.size W X) => HT.out.later (hBW.trans (h.mono (by omega)))
    have HX := Lib.hid tX
    obtain ⟨m, hm⟩ : ∃ m, mayT s qs = m := ⟨_, rfl⟩
    have HM := Lib.hid hm
    clear tX hl6 hm
    go_enter Tryz.func10, Tryz.ntmps10
    (try rw [hW])
    go_wp2_with fail
    refine (hfew).mono ?_
    rintro e y1 ⟨rfl, hb1⟩
    have hk1 := hBW.trans (hb1.mono (by omega))
    clear x0 x1
    have C1 := hb1
    obtain ⟨x0, x1, _, _⟩ := (R0.later C1).two
    go_wp2_with fail
    refine (ownT_any (HX.out _ C1) ls (by omega) (fun p hp => by have := HL.out p hp; omega)).mono ?_
    rintro e y2 ⟨p2, r2, cx2, cy2, rfl, S2, E2, hb2⟩
    have TO2 := ownT_tens S2 E2
    obtain ⟨y3, hV⟩ : ∃ X, y2.alloc (.cells #[.slice p2 s.length cx2, .slice r2 qs.length cy2] 26) = X := ⟨_, rfl⟩
    have bz : Below y2.heap.size y2 y3 := by rw [← hV]; exact (Below.refl _ _).alloc (Nat.le_refl _) _
    have O3 : Row y3 y2.heap.size 26 #[.slice p2 s.length cx2, .slice r2 qs.length cy2] := by rw [← hV]; exact Row.new _ _ _
    have C3 : Below W.heap.size W y3 := (C1.trans (hb2.mono C1.size)).trans (bz.mono (C1.trans (hb2.mono C1.size)).size)
    have TO3 := TO2.later bz
    obtain ⟨y6, h6⟩ : ∃ X, ((y3.alloc (.cells #[.int .u32 1] 64)).alloc (.cells #[.int .u32 1] 64)).alloc (.cells #[.bool false, .slice (some ⟨y3.heap.size, 0, none⟩) 1 1, .slice (some ⟨y3.heap.size + 1, 0, none⟩) 1 1] 51) = X := ⟨_, rfl⟩
    have b36 : Below y3.heap.size y3 y6 := by rw [← h6]; exact (((Below.refl _ _).alloc (by (try simp) <;> omega) _).alloc (by (try simp) <;> omega) _).alloc (by (try simp) <;> omega) _
    have r0 : Row y6 y3.heap.size 64 #[.int .u32 1] := by rw [← h6]; exact ((Row.new y3 64 #[.int .u32 1]).later ((Below.refl _ _).alloc (Nat.le_refl _) _)).later ((Below.refl _ _).alloc (Nat.le_refl _) _)
    have r1 : Row y6 (y3.heap.size + 1) 64 #[.int .u32 1] := by rw [← h6]; have h := (Row.new (y3.alloc (.cells #[.int .u32 1] 64)) 64 #[.int .u32 1]).later ((Below.refl _ _).alloc (Nat.le_refl _) (.cells #[.bool false, .slice (some ⟨y3.heap.size, 0, none⟩) 1 1, .slice (some ⟨y3.heap.size + 1, 0, none⟩) 1 1] 51)); simp only [World.size_alloc] at h; exact h
    have R6 : Row y6 (y3.heap.size + 1 + 1) 51 #[.bool false, .slice (some ⟨y3.heap.size, 0, none⟩) 1 1, .slice (some ⟨y3.heap.size + 1, 0, none⟩) 1 1] := by rw [← h6]; have h := Row.new ((y3.alloc (.cells #[.int .u32 1] 64)).alloc (.cells #[.int .u32 1] 64)) 51 #[.bool false, .slice (some ⟨y3.heap.size, 0, none⟩) 1 1, .slice (some ⟨y3.heap.size + 1, 0, none⟩) 1 1]; simp only [World.size_alloc] at h; exact h
    have QY : ArgQ y6 (.agg #[.bool false, .slice (some ⟨y3.heap.size, 0, none⟩) 1 1, .slice (some ⟨y3.heap.size + 1, 0, none⟩) 1 1]) (ratOf false (val [1]) (val [1])) 1 := ⟨false, [1], [1], _, _, 1, 1, rfl, one_limb8 r0, one_limb8 r1, rfl, Nat.le_refl _, Nat.le_refl _⟩
    have C6 : Below W.heap.size W y6 := C3.trans (b36.mono C3.size)
    have O6 := O3.later b36
    have TO6 := Lib.hid (TO3.later b36)
    have HQY := Lib.hid QY
    clear S2 E2 TO2 TO3 O3 C3 x0 x1 bz hb2 r0 r1 b36 QY
    obtain ⟨o0, o1, _, _⟩ := O6.two
    go_wp2_with fail
    (try rw [hV])
    (try rw [h6])
    (try clear hV)
    (try clear h6)
    refine (reluP_any (n := 6) TO6.out ls (by omega) HL.out (by omega)).mono ?_
    rintro e y7 ⟨h, hb7⟩
    obtain ⟨gA1, gA2, nA, mA, gA3, gA4, rfl, hA⟩ := h.ans
    have hT := hA.loot (G := y6.heap.size) (by exact Nat.le_refl _)
    obtain ⟨y8, hV⟩ : ∃ X, y7.alloc (.cells #[.slice gA1 nA gA3, .slice gA2 mA gA4] 26) = X := ⟨_, rfl⟩
    have bz : Below y7.heap.size y7 y8 := by rw [← hV]; exact (Below.refl _ _).alloc (Nat.le_refl _) _
    have NA : Row y8 y7.heap.size 26 #[.slice gA1 nA gA3, .slice gA2 mA gA4] := by rw [← hV]; exact Row.new _ _ _
    have EA : Below y6.heap.size y6 y8 := hb7.trans (bz.mono hb7.size)
    have D8 : Below y6.heap.size y6 y8 := EA
    have MA := Lib.hid (hT.loose (Loose8.of bz (hb7.size)))
    clear bz hb7 h hA hT o0 o1
    obtain ⟨o0, o1, _, _⟩ := (O6.later D8).two
    obtain ⟨q0, q1, q2, _, _, _⟩ := (R6.later D8).three
    go_wp2_with fail
    (try rw [hV])
    (try clear hV)
    refine (scaleP_any (n := 6) (m := 1) (TO6.out.later D8) ls (by omega) HL.out (by omega) (HQY.out.later D8) (by omega)).mono ?_
    rintro e y9 ⟨h, hb9⟩
    obtain ⟨gB1, gB2, nB, mB, gB3, gB4, rfl, hA⟩ := h.ans
    have hT := hA.loot (G := y6.heap.size) (by exact D8.size)
    obtain ⟨y10, hV⟩ : ∃ X, y9.alloc (.cells #[.slice gB1 nB gB3, .slice gB2 mB gB4] 26) = X := ⟨_, rfl⟩
    have bz : Below y9.heap.size y9 y10 := by rw [← hV]; exact (Below.refl _ _).alloc (Nat.le_refl _) _
    have NB : Row y10 y9.heap.size 26 #[.slice gB1 nB gB3, .slice gB2 mB gB4] := by rw [← hV]; exact Row.new _ _ _
    have EB : Below y8.heap.size y8 y10 := hb9.trans (bz.mono hb9.size)
    have D10 : Below y6.heap.size y6 y10 := D8.trans (EB.mono D8.size)
    have MB := Lib.hid (hT.loose (Loose8.of bz (Nat.le_trans D8.size hb9.size)))
    replace NA := NA.later EB
    replace MA := Lib.hid (MA.out.loose (Loose8.of EB D8.size))
    clear bz hb9 h hA hT o0 o1 q0 q1 q2
    obtain ⟨o0, o1, _, _⟩ := (O6.later D10).two
    go_wp2_with fail
    (try rw [hV])
    (try clear hV)
    refine (powP_any (n := 6) (k := 1) (TO6.out.later D10) ls (by omega) HL.out (by omega)).mono ?_
    rintro e y11 ⟨h, hb11⟩
    obtain ⟨gC1, gC2, nC, mC, gC3, gC4, rfl, hA⟩ := h.ans
    have hT := hA.loot (G := y6.heap.size) (by exact D10.size)
    obtain ⟨y12, hV⟩ : ∃ X, y11.alloc (.cells #[.slice gC1 nC gC3, .slice gC2 mC gC4] 26) = X := ⟨_, rfl⟩
    have bz : Below y11.heap.size y11 y12 := by rw [← hV]; exact (Below.refl _ _).alloc (Nat.le_refl _) _
    have NC : Row y12 y11.heap.size 26 #[.slice gC1 nC gC3, .slice gC2 mC gC4] := by rw [← hV]; exact Row.new _ _ _
    have EC : Below y10.heap.size y10 y12 := hb11.trans (bz.mono hb11.size)
    have D12 : Below y6.heap.size y6 y12 := D10.trans (EC.mono D10.size)
    obtain ⟨x0, hx0⟩ : ∃ X, y12.alloc (.cells #[.slice gA1 nA gA3, .slice gA2 mA gA4, .slice gB1 nB gB3, .slice gB2 mB gB4, .slice gC1 nC gC3, .slice gC2 mC gC4] 26) = X := ⟨_, rfl⟩
    have bx : Below y12.heap.size y12 x0 := by rw [← hx0]; exact (Below.refl _ _).alloc (Nat.le_refl _) _
    have LR : Row x0 y12.heap.size 26 #[.slice gA1 nA gA3, .slice gA2 mA gA4, .slice gB1 nB gB3, .slice gB2 mB gB4, .slice gC1 nC gC3, .slice gC2 mC gC4] := by rw [← hx0]; exact Row.new _ _ _
    have DX : Below y6.heap.size y6 x0 := D12.trans (bx.mono D12.size)
    have EX : Below y10.heap.size y10 x0 := EC.trans (bx.mono EC.size)
    have LL := Tens3.of LR (MA.out.loose (Loose8.of EX D10.size)) (MB.out.loose (Loose8.of EX D10.size)) ((hT.loose (Loose8.of bz (Nat.le_trans D10.size hb11.size))).loose (Loose8.of bx D12.size))
    have HLL := Lib.hid LL
    obtain ⟨a0, a1, _, _⟩ := (NA.later EC).two
    obtain ⟨b0, b1, _, _⟩ := (NB.later EC).two
    obtain ⟨c0, c1, _, _⟩ := NC.two
    clear LL LR MA MB hT h hA bz hb11 EC EX bx D12 o0 o1
    go_wp2_with fail
    (try rw [hV])
    (try rw [hx0])
    (try clear hV)
    (try clear hx0)
    clear a0 a1 b0 b1 c0 c1 NA NB NC
    obtain ⟨cl, hcl⟩ : ∃ c : Array Value, #[Value.slice gA1 nA gA3, .slice gA2 mA gA4, .slice gB1 nB gB3, .slice gB2 mB gB4, .slice gC1 nC gC3, .slice gC2 mC gC4] = c := ⟨_, rfl⟩
    rw [hcl] at HLL
    clear hcl
    obtain ⟨gb, hgb⟩ : ∃ g, y12.heap.size = g := ⟨_, rfl⟩
    rw [hgb] at HLL ⊢
    clear hgb
    go_loopw [12, 13, 14, 15, 16] (fun i _ _ _ _ wr => ∃ k : Nat, i = .int .i64 (k : Int) ∧ k ≤ 3 ∧ Loose8 y6.heap.size x0 wr) (fun i _ _ _ _ _ => 3 - (intOf i).toNat)
    case atStart => exact ⟨0, rfl, Nat.zero_le _, Loose8.refl _ _⟩
    case round =>
      obtain ⟨k, rfl, hk, hL⟩ := hrel
      by_cases hlt : k < 3
      · have hltI : (k : Int) < 3 := by omega
        obtain ⟨va, vb, e1, e2, hS, hE⟩ := HLL.out.2 k hlt
        have HS := Lib.hid hS
        have HE := Lib.hid hE
        obtain ⟨ad1, n1, cp1, rfl, hn1, -⟩ := hS
        obtain ⟨b2, n2, cp2, rfl, hn2, -⟩ := hE
        unfold maxLen at hn1 hn2
        have kA : ∀ X, Loose8 y6.heap.size x0 X → X.cell? ⟨gb, k * 2, none⟩ = some (.slice ad1 n1 cp1) := fun X L => L.slice HLL.out.1 e1
        have kB : ∀ X, Loose8 y6.heap.size x0 X → X.cell? ⟨gb, k * 2 + 1, none⟩ = some (.slice b2 n2 cp2) := fun X L => L.slice HLL.out.1 e2
        have hca := kA _ hL
        have KA := Lib.hid kA
        have KB := Lib.hid kB
        clear e1 e2 kA kB
        go_wp2
        go_loopw [13] (fun i wr => ∃ k : Nat, i = .int .i64 (k : Int) ∧ k ≤ n1 ∧ Loose8 y6.heap.size x0 wr) (fun i _ => n1 - (intOf i).toNat)
        case atStart => exact ⟨0, rfl, Nat.zero_le _, hL⟩
        case round =>
          clear hL hca
          obtain ⟨i, rfl, hi2, hL⟩ := hrel
          have hce := KA.out _ hL
          obtain ⟨ad', n', cp', hsl, _, hxx⟩ := HS.out.loose hL
          cases hsl
          by_cases hin : i < n1
          · have hin2 : (i : Int) < (n1 : Int) := by omega
            rcases hxx with h0 | ⟨b, cur, ty, rfl, w1, w3, w4⟩
            · exact absurd hin (by omega)
            obtain ⟨z, hz⟩ := w4 i hin
            have hcb : wr.cell? ⟨b, i, none⟩ = some (.int .i64 z) := (cell_of_row wr b i cur _ _ w3).trans hz
            have hfb : wr.frozen? ⟨b, i, none⟩ = false := frozen_of_row wr b i cur _ w3
            have HL2 := Lib.hid (fun z' => hL.trans (Loose8.seti z' w1 w3 hz))
            clear w4 hz hL
            go_wp2
            go_roundw
            case rel => exact ⟨i + 1, by go_num, by omega, HL2.out _⟩
            case measure => simp [intOf]; omega
          · have hin2 : ¬ (i : Int) < (n1 : Int) := by omega
            have hcd := KB.out _ hL
            clear hxx
            go_wp2
            go_loopw [14, 15, 16] (fun i _ _ wr => ∃ k : Nat, i = .int .i64 (k : Int) ∧ k ≤ n2 ∧ Loose8 y6.heap.size x0 wr) (fun i _ _ _ => n2 - (intOf i).toNat)
            case atStart => exact ⟨0, rfl, Nat.zero_le _, hL⟩
            case round =>
              clear hL hce hcd
              obtain ⟨j, rfl, hj, hL⟩ := hrel
              have hcd := KB.out _ hL
              by_cases hin3 : j < n2
              · have hin4 : (j : Int) < (n2 : Int) := by omega
                obtain ⟨b', n', cp', hsl, _, hxx⟩ := HE.out
                cases hsl
                rcases hxx with h0 | ⟨bb, cs, ty, rfl, w1, w3, w4⟩
                · exact absurd hin3 (by omega)
                obtain ⟨p, vx, vy, f0, f1, f2, hX, hY⟩ := w4 j hin3
                have HX3 := Lib.hid hX
                have HY3 := Lib.hid hY
                obtain ⟨ad3, n3, cp3, rfl, hn3, -⟩ := hX
                obtain ⟨ad4, n4, cp4, rfl, hn4, -⟩ := hY
                unfold maxLen at hn3 hn4
                have kC : ∀ X, Loose8 y6.heap.size x0 X → X.cell? ⟨bb, j * 3 + 1, none⟩ = some (.slice ad3 n3 cp3) := fun X L => L.slice w3 f1
                have kD : ∀ X, Loose8 y6.heap.size x0 X → X.cell? ⟨bb, j * 3 + 2, none⟩ = some (.slice ad4 n4 cp4) := fun X L => L.slice w3 f2
                have KC := Lib.hid kC
                have KD := Lib.hid kD
                obtain ⟨cs', p', w3', f0'⟩ := hL.bool w3 f0
                have hcb : wr.cell? ⟨bb, j * 3, none⟩ = some (.bool p') := (cell_of_row wr bb (j * 3) cs' _ _ w3').trans f0'
                have hfb : wr.frozen? ⟨bb, j * 3, none⟩ = false := frozen_of_row wr bb (j * 3) cs' _ w3'
                have HL2 := Lib.hid (fun q => hL.drew.trans (Loose8.setb (X := wr.drew) q w1 w3' f0'))
                clear w4 w3 w3' f0 f0' f1 f2 kC kD hL
                go_wp2
                go_still_tail 18, (by kernel_rfl)
                repeat still_step
                have hcb2 : wr.drew.cell? ⟨bb, j * 3, none⟩ = some (.bool p') := hcb
                have hfb2 : wr.drew.frozen? ⟨bb, j * 3, none⟩ = false := hfb
                have hce3 := KC.out _ (HL2.out (!p'))
                have hcd3 := KB.out _ (HL2.out (!p'))
                go_wp2
                go_loopw [15] (fun i wr => ∃ k : Nat, i = .int .i64 (k : Int) ∧ k ≤ n3 ∧ Loose8 y6.heap.size x0 wr) (fun i _ => n3 - (intOf i).toNat)
                case atStart => exact ⟨0, rfl, Nat.zero_le _, HL2.out _⟩
                case round =>
                  clear hcb hfb hcb2 hfb2 hce3 hcd3 hcd
                  obtain ⟨i, rfl, hi2, hL⟩ := hrel
                  have hcd := KB.out _ hL
                  have hce := KC.out _ hL
                  obtain ⟨ad', n', cp', hsl, _, hxx⟩ := HX3.out.loose hL
                  cases hsl
                  by_cases hin : i < n3
                  · have hin2 : (i : Int) < (n3 : Int) := by omega
                    rcases hxx with h0 | ⟨b, cur, ty, rfl, w1, w3, w4⟩
                    · exact absurd hin (by omega)
                    obtain ⟨z, hz⟩ := w4 i hin
                    have hcb : wr.cell? ⟨b, i, none⟩ = some (.int .u32 z) := (cell_of_row wr b i cur _ _ w3).trans hz
                    have hfb : wr.frozen? ⟨b, i, none⟩ = false := frozen_of_row wr b i cur _ w3
                    have HL3 := Lib.hid (fun z' => hL.trans (Loose8.seti z' w1 w3 hz))
                    clear w4 hz hL
                    go_wp2
                    go_roundw
                    case rel => exact ⟨i + 1, by go_num, by omega, HL3.out _⟩
                    case measure => simp [intOf]; omega
                  · have hin2 : ¬ (i : Int) < (n3 : Int) := by omega
                    have hcf := KD.out _ hL
                    clear hxx
                    go_wp2
                    go_loopw [16] (fun i wr => ∃ k : Nat, i = .int .i64 (k : Int) ∧ k ≤ n4 ∧ Loose8 y6.heap.size x0 wr) (fun i _ => n4 - (intOf i).toNat)
                    case atStart => exact ⟨0, rfl, Nat.zero_le _, hL⟩
                    case round =>
                      clear hcd hce hcf hL
                      obtain ⟨i, rfl, hi2, hL⟩ := hrel
                      have hcd := KB.out _ hL
                      have hce := KD.out _ hL
                      obtain ⟨ad', n', cp', hsl, _, hxx⟩ := HY3.out.loose hL
                      cases hsl
                      by_cases hin : i < n4
                      · have hin2 : (i : Int) < (n4 : Int) := by omega
                        rcases hxx with h0 | ⟨b, cur, ty, rfl, w1, w3, w4⟩
                        · exact absurd hin (by omega)
                        obtain ⟨z, hz⟩ := w4 i hin
                        have hcb : wr.cell? ⟨b, i, none⟩ = some (.int .u32 z) := (cell_of_row wr b i cur _ _ w3).trans hz
                        have hfb : wr.frozen? ⟨b, i, none⟩ = false := frozen_of_row wr b i cur _ w3
                        have HL3 := Lib.hid (fun z' => hL.trans (Loose8.seti z' w1 w3 hz))
                        clear w4 hz hL
                        go_wp2
                        go_roundw
                        case rel => exact ⟨i + 1, by go_num, by omega, HL3.out _⟩
                        case measure => simp [intOf]; omega
                      · have hin2 : ¬ (i : Int) < (n4 : Int) := by omega
                        clear hxx
                        go_wp2
                        go_roundw
                        case rel => exact ⟨j + 1, by go_num, by omega, hL⟩
                        case measure => simp [intOf]; omega
              · have hin4 : ¬ (j : Int) < (n2 : Int) := by omega
                go_wp2
                go_roundw
                case rel => exact ⟨k + 1, by go_num, by omega, hL⟩
                case measure => simp [intOf]; omega
      · obtain rfl : k = 3 := by omega
        have hltI : ¬ ((3 : Int) < 3) := by omega
        have DW : Below y6.heap.size y6 wr := DX.trans hL.1
        have hkR : Below w.heap.size w wr := hBW.trans ((C6.trans (DW.mono C6.size)).mono (by omega))
        have CW : Below W.heap.size W wr := C6.trans (DW.mono C6.size)
        have X9 := R0.later CW
        have O9 := O6.later DW
        have TX9 := fun (X : World) (h : Below wr.heap.size wr X) => HX.out _ (CW.trans (h.mono CW.size))
        have TO9 := fun (X : World) (h : Below wr.heap.size wr X) => TO6.out.later (DW.trans (h.mono DW.size))
        have HTX := Lib.hid TX9
        have HTO := Lib.hid TO9
        clear TX9 TO9 DW CW
        have mkS : ∀ X, Below wr.heap.size wr X → X.cell? ⟨w.heap.size, 0, none⟩ = some (.slice a s.length ca) ∧ X.cell? ⟨w.heap.size, 1, none⟩ = some (.slice b qs.length cb) ∧ X.cell? ⟨y2.heap.size, 0, none⟩ = some (.slice p2 s.length cx2) ∧ X.cell? ⟨y2.heap.size, 1, none⟩ = some (.slice r2 qs.length cy2) := fun X h => by
          obtain ⟨u0, u1, _⟩ := (X9.later h).two
          obtain ⟨u2, u3, _⟩ := (O9.later h).two
          exact ⟨u0, u1, u2, u3⟩
        go_wp2_with fail
        have B0 : Below wr.heap.size wr wr.drew := (Below.refl _ _).drew
        refine wp_region_held_drew (S := fun X => X.cell? ⟨w.heap.size, 0, none⟩ = some (.slice a s.length ca) ∧ X.cell? ⟨w.heap.size, 1, none⟩ = some (.slice b qs.length cb) ∧ X.cell? ⟨y2.heap.size, 0, none⟩ = some (.slice p2 s.length cx2) ∧ X.cell? ⟨y2.heap.size, 1, none⟩ = some (.slice r2 qs.length cy2)) (by kernel_rfl) (mkS _ B0) (fun hHeld => ?_)
        obtain ⟨z0, hy0⟩ : ∃ Y, wr.drew = Y := ⟨_, rfl⟩
        rw [hy0] at B0 hHeld ⊢
        clear hy0
        refine wpAnyH_take (i := 0) (v := ?vk0a0) rfl (by kernel_rfl) (by kernel_rfl) (by kernel_rfl) (fun _ _ _ h => h) (Or.inl ⟨by rfl, ?hk0a0⟩) (by assumption) ?rk0a0
        case hk0a0 =>
          intro w hSw
          try dsimp only at hSw
          go_simp
          try with_reducible rfl
        try simp only [Act.put, List.getElem_toArray, List.getElem_cons_succ, List.getElem_cons_zero, List.setIfInBounds_toArray, List.set_cons_zero, List.set_cons_succ]
        refine wpAnyH_take (i := 2) (v := ?vk0a2) rfl (by kernel_rfl) (by kernel_rfl) (by kernel_rfl) (fun _ _ _ h => h) (Or.inl ⟨by rfl, ?hk0a2⟩) (by assumption) ?rk0a2
        case hk0a2 =>
          intro w hSw
          try dsimp only at hSw
          go_simp
          try with_reducible rfl
        try simp only [Act.put, List.getElem_toArray, List.getElem_cons_succ, List.getElem_cons_zero, List.setIfInBounds_toArray, List.set_cons_zero, List.set_cons_succ]
        refine wpAnyH_ready (rs := [1]) (by kernel_rfl) (by simp) ?_
        refine AllReadyH.cons rfl (fun K hK => ?sk1c1) AllReadyH.nil
        go_simp
        refine (mayT_any (HTO.out _ B0) (by omega) (fun p hp => by have := HL.out p hp; omega)).mono ?_
        rintro e z1 ⟨rfl, hy⟩
        have B1 : Below wr.heap.size wr z1 := B0.trans (hy.mono B0.size)
        have D1 := hy
        clear hy
        rw [HM.out]
        go_simp
        refine hK.out _ _ ?kk1c1 (fun hHeld => ?mk1c1)
        case kk1c1 =>
          try dsimp only
          exact mkS _ B1
        clear hK K
        try simp only [Act.put, List.getElem_toArray, List.getElem_cons_succ, List.getElem_cons_zero, List.setIfInBounds_toArray, List.set_cons_zero, List.set_cons_succ]
        refine wpAnyH_ready (rs := [3]) (by kernel_rfl) (by simp) ?_
        refine AllReadyH.cons rfl (fun K hK => ?sk2c3) AllReadyH.nil
        go_simp
        refine (mayT_any (HTX.out _ B1) (by omega) (fun p hp => by have := HL.out p hp; omega)).mono ?_
        rintro e z2 ⟨rfl, hy⟩
        have B2 : Below wr.heap.size wr z2 := B1.trans (hy.mono B1.size)
        have D2 := hy
        clear hy
        rw [HM.out]
        go_simp
        refine hK.out _ _ ?kk2c3 (fun hHeld => ?mk2c3)
        case kk2c3 =>
          try dsimp only
          exact mkS _ B2
        clear hK K
        try simp only [Act.put, List.getElem_toArray, List.getElem_cons_succ, List.getElem_cons_zero, List.setIfInBounds_toArray, List.set_cons_zero, List.set_cons_succ]
        refine wpAnyH_take (i := 4) (v := ?vk2a4) rfl (by kernel_rfl) (by kernel_rfl) (by kernel_rfl) (fun _ _ _ h => h) (Or.inl ⟨by rfl, ?hk2a4⟩) (by assumption) ?rk2a4
        case hk2a4 =>
          intro w hSw
          try dsimp only at hSw
          go_simp
          try with_reducible rfl
        try simp only [Act.put, List.getElem_toArray, List.getElem_cons_succ, List.getElem_cons_zero, List.setIfInBounds_toArray, List.set_cons_zero, List.set_cons_succ]
        refine wpAnyH_take (i := 5) (v := ?vk2a5) rfl (by kernel_rfl) (by kernel_rfl) (by kernel_rfl) (fun _ _ _ h => h) (Or.inl ⟨by rfl, ?hk2a5⟩) (by assumption) ?rk2a5
        case hk2a5 =>
          intro w hSw
          try dsimp only at hSw
          go_simp
          try with_reducible rfl
        try simp only [Act.put, List.getElem_toArray, List.getElem_cons_succ, List.getElem_cons_zero, List.setIfInBounds_toArray, List.set_cons_zero, List.set_cons_succ]
        refine wpAnyH_take (i := 6) (v := ?vk2a6) rfl (by kernel_rfl) (by kernel_rfl) (by kernel_rfl) (fun _ _ _ h => h) (Or.inl ⟨by rfl, ?hk2a6⟩) (by assumption) ?rk2a6
        case hk2a6 =>
          intro w hSw
          try dsimp only at hSw
          go_simp
          try with_reducible rfl
        try simp only [Act.put, List.getElem_toArray, List.getElem_cons_succ, List.getElem_cons_zero, List.setIfInBounds_toArray, List.set_cons_zero, List.set_cons_succ]
        refine wpAnyH_take (i := 7) (v := ?vk2a7) rfl (by kernel_rfl) (by kernel_rfl) (by kernel_rfl) (fun _ _ _ h => h) (Or.inl ⟨by rfl, ?hk2a7⟩) (by assumption) ?rk2a7
        case hk2a7 =>
          intro w hSw
          try dsimp only at hSw
          go_simp
          try with_reducible rfl
        try simp only [Act.put, List.getElem_toArray, List.getElem_cons_succ, List.getElem_cons_zero, List.setIfInBounds_toArray, List.set_cons_zero, List.set_cons_succ]
        refine wpAnyH_ready (rs := [8]) (by kernel_rfl) (by simp) ?_
        refine AllReadyH.cons rfl (fun K hK => ?sk3c8) AllReadyH.nil
        go_simp
        refine (sameT_any (n := 6) (HTO.out _ B2) (HTX.out _ B2) (by omega) (by omega) (by omega) (by omega) HL.out HL.out).mono ?_
        rintro e z3 ⟨rfl, hy⟩
        have B3 : Below wr.heap.size wr z3 := B2.trans (hy.mono B2.size)
        have D3 := hy
        clear hy
        rw [allBC_self8]
        go_simp
        refine hK.out _ _ ?kk3c8 (fun hHeld => ?mk3c8)
        case kk3c8 =>
          try dsimp only
          exact mkS _ B3
        clear hK K
        try simp only [Act.put, List.getElem_toArray, List.getElem_cons_succ, List.getElem_cons_zero, List.setIfInBounds_toArray, List.set_cons_zero, List.set_cons_succ]
        refine wpAnyH_take (i := 9) (v := ?vk3a9) rfl (by kernel_rfl) (by kernel_rfl) (by kernel_rfl) (fun _ _ _ h => h) (Or.inl ⟨by rfl, ?hk3a9⟩) (by assumption) ?rk3a9
        case hk3a9 =>
          intro w hSw
          try dsimp only at hSw
          go_simp
          try with_reducible rfl
        try simp only [Act.put, List.getElem_toArray, List.getElem_cons_succ, List.getElem_cons_zero, List.setIfInBounds_toArray, List.set_cons_zero, List.set_cons_succ]
        refine wpAnyH_take (i := 10) (v := ?vk3a10) rfl (by kernel_rfl) (by kernel_rfl) (by kernel_rfl) (fun _ _ _ h => h) (Or.inl ⟨by rfl, ?hk3a10⟩) (by assumption) ?rk3a10
        case hk3a10 =>
          intro w hSw
          try dsimp only at hSw
          go_simp
          try with_reducible rfl
        try simp only [Act.put, List.getElem_toArray, List.getElem_cons_succ, List.getElem_cons_zero, List.setIfInBounds_toArray, List.set_cons_zero, List.set_cons_succ]
        refine wpAnyH_ready (rs := [11]) (by kernel_rfl) (by simp) ?_
        refine AllReadyH.cons rfl (fun K hK => ?sk4c11) AllReadyH.nil
        go_simp
        refine (known8_any _).mono ?_
        rintro e z4 ⟨rfl, hy⟩
        have B4 : Below wr.heap.size wr z4 := B3.trans (hy.mono B3.size)
        have D4 := hy
        clear hy
        go_simp
        refine hK.out _ _ ?kk4c11 (fun hHeld => ?mk4c11)
        case kk4c11 =>
          try dsimp only
          exact mkS _ B4
        clear hK K
        try simp only [Act.put, List.getElem_toArray, List.getElem_cons_succ, List.getElem_cons_zero, List.setIfInBounds_toArray, List.set_cons_zero, List.set_cons_succ]
        refine wpAnyH_take (i := 12) (v := ?vk4a12) rfl (by kernel_rfl) (by kernel_rfl) (by kernel_rfl) (fun _ _ _ h => h) (Or.inl ⟨by rfl, ?hk4a12⟩) (by assumption) ?rk4a12
        case hk4a12 =>
          intro w hSw
          try dsimp only at hSw
          go_simp
          try with_reducible rfl
        try simp only [Act.put, List.getElem_toArray, List.getElem_cons_succ, List.getElem_cons_zero, List.setIfInBounds_toArray, List.set_cons_zero, List.set_cons_succ]
        refine wpAnyH_ready (rs := [13]) (by kernel_rfl) (by simp) ?_
        refine AllReadyH.cons rfl (fun K hK => ?sk4d13) AllReadyH.nil
        go_simp
        refine hK.out _ _ ?kk4d13 (fun hHeld => ?mk4d13)
        case kk4d13 =>
          try dsimp only
          exact mkS _ B4
        clear hK K
        try simp only [Act.put, List.getElem_toArray, List.getElem_cons_succ, List.getElem_cons_zero, List.setIfInBounds_toArray, List.set_cons_zero, List.set_cons_succ]
        refine wpAnyH_done (by kernel_rfl) ?_ _
        (try dsimp only [Straight])
        go_wp2_with fail
        go_ret
        exact ⟨rfl, hkR.trans (B4.mono hkR.size)⟩
end Go.Proofs.YtjcacmnmbbnffaaGreat
