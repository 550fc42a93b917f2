/-
  Part 3 of 5: contracts and what they rest on (RTwo, TCode2, TCode8, PTwo, PTwoB, PKit, FMat, FLaw, FMats, FWOne).
-/
import Derived.Test.YtengpgodmbfmkaaGreatOb1
import Derived.Test.YtengpgodmbfmkaaGreatOb2
namespace Go.Proofs.YtengpgodmbfmkaaGreat
set_option linter.unusedVariables false
set_option linter.unusedSimpArgs false
set_option maxRecDepth 100000
set_option maxHeartbeats 40000000
section
open Go.RowKit
theorem sameQ_any {n : Nat} {w : World} {u v : Value} {X Y : Rat} (hu : ArgQ w u X n) (hv : ArgQ w v Y n) (hn : n ≤ 16777000) :
 Calls Tryz.prog 66 #[u, v] w fun e w' => e = .returned (.bool (sgR (X - Y) == 0)) ∧ Below w.heap.size w w' := by
 obtain ⟨m1, xs, ds, a1, a2, c1, c2, rfl⟩ := hu.box
 obtain ⟨m2, zs, es, a3, a4, c3, c4, rfl⟩ := hv.box
 obtain ⟨W, hW⟩ : ∃ W, ((w.alloc (.cells #[.bool m1, .slice a1 xs.length c1, .slice a2 ds.length c2] 54)).alloc (.cells #[.bool m2, .slice a3 zs.length c3, .slice a4 es.length c4] 54)) = W := ⟨_, rfl⟩
 have R0 : Row W (w.heap.size) 54 #[.bool m1, .slice a1 xs.length c1, .slice a2 ds.length c2] := by rw [← hW]; exact ((Row.new _ _ _).alloc _)
 have R1 : Row W (w.heap.size + 1) 54 #[.bool m2, .slice a3 zs.length c3, .slice a4 es.length c4] := by rw [← hW]; have h := (Row.new (w.alloc (.cells #[.bool m1, .slice a1 xs.length c1, .slice a2 ds.length c2] 54)) 54 #[.bool m2, .slice a3 zs.length c3, .slice a4 es.length c4]); simp only [World.size_alloc] at h; exact h
 have hBW : Below w.heap.size w W := by rw [← hW]; exact (((Below.refl _ _).alloc (by (try simp) <;> omega) _).alloc (by (try simp) <;> omega) _)
 have hsW : w.heap.size + 1 + 1 ≤ W.heap.size := by rw [← hW]; simp
 have hc := cmpQ_any (hu.later hBW) (hv.later hBW) hn
 obtain ⟨s, hs⟩ : ∃ s, sgR (X - Y) = s := ⟨_, rfl⟩
 rw [hs] at hc ⊢
 clear hs
 obtain ⟨p0, p1, p2, _, _, _⟩ := R0.three
 obtain ⟨o0, o1, o2, _, _, _⟩ := R1.three
 go_enter Tryz.func66, Tryz.ntmps66
 go_wp2_with fail
 refine hc.mono ?_
 rintro e w1 ⟨rfl, hb1⟩
 clear hc hW p0 p1 p2 o0 o1 o2
 go_wp2_with fail
 go_ret
 exact ⟨rfl, hBW.trans (hb1.mono (by omega))⟩
end
section
open Go.RowKit Go.Shelf
attribute [local go_sem] Oper.semAt_some
theorem besideQ_in (n l Bs n₀ : Nat) (a1 a2 : Option Addr) (es fs : List E3) (cap1 cap2 : Nat) (hm : es.length ≤ 1000000000000) (hlen : fs.length = es.length) (J Jx : List (Fin es.length) → World → Prop)
 (hJ : ∀ pre A B, J pre A → Below A.heap.size A B → J pre B)
 (hY : ∀ pre x W, J pre W → pre.length < es.length → YieldAt Fence.wide (n - 1) Tryz.prog l (ratsAt es fs x) W fun e W' =>
  (e = .returned (.bool true) ∧ J (pre ++ [x]) W' ∧ KpS n₀ (Bs + 1) W W') ∨ (e = .returned (.bool false) ∧ Jx (pre ++ [x]) W'))
 (W : World) (hn₀ : Bs + 1 < W.heap.size) (hW₀ : n₀ ≤ W.heap.size) (hB1 : W.cell? ⟨Bs, 0, none⟩ = some (.slice a1 es.length cap1)) (hB2 : W.cell? ⟨Bs + 1, 0, none⟩ = some (.slice a2 fs.length cap2)) (hl1 : LimE W a1 es n₀) (hl2 : LimE W a2 fs n₀) (hsh1 : ShE es) (hsh2 : ShE fs) (h0 : J [] W) :
 CallsIn Fence.wide n Tryz.prog 105 #[.func (.yield l) #[] #[], .pointer (some ⟨Bs, 0, none⟩), .pointer (some ⟨Bs + 1, 0, none⟩)] W fun e W' => (∃ v, e = .returned v) ∧
  ((∃ ys, Upto ys es.length ∧ J ys W') ∨ (∃ pre, (∃ k, k ≤ es.length ∧ Upto pre k) ∧ Jx pre W')) := by
 refine callsIn_of_wp Tryz.func105 rfl trivial ?_ rfl
 simp only [Tryz.ntmps105, List.size_toArray, List.length_cons, List.length_nil, Nat.reduceAdd, Nat.reduceSub, Array.replicate_succ, Array.replicate_zero, List.push_toArray, List.append_toArray, List.nil_append, List.cons_append]
 gi_wp2_with fail
 gi_loopw [4, 5, 8] (fun _ _ i wr => ∃ (k : Nat) (pre : List (Fin es.length)), k ≤ es.length ∧ i = .int .i64 k ∧ Upto pre k ∧ J pre wr ∧ KpS n₀ (Bs + 1) W wr)
  (fun _ _ i _ => es.length - (intOf i).toNat)
 case atStart => exact ⟨0, [], Nat.zero_le _, rfl, rfl, h0, KpS.refl _ _ _⟩
 case round =>
  obtain ⟨k, pre, hk, rfl, hup, hJs, hnx⟩ := hrel
  by_cases hlt : k < es.length
  · obtain ⟨b, o, rfl, c0, c1, c2⟩ := (hl1.below hnx.below).cells hlt
    obtain ⟨b', o', rfl, e0, e1, e2⟩ := (hl2.below hnx.below).cells (k := k) (by omega)
    have hB2' := (World.cell?_of_block (a := ⟨Bs + 1, 0, none⟩) hnx.box).trans hB2
    have hsz := hnx.below.size
    obtain ⟨z1, z2, z3, z4, z5, z6, z7, he⟩ := hsh1 k hlt
    obtain ⟨y1, y2, y3, y4, y5, y6, y7, hf⟩ := hsh2 k (by omega)
    obtain ⟨W2, hW2⟩ : ∃ W2, wr.alloc (.cells #[(es[k]?.getD dfE).a, (es[k]?.getD dfE).b, (es[k]?.getD dfE).c] 54) = W2 := ⟨_, rfl⟩
    have hb2 : Below wr.heap.size wr W2 := by rw [← hW2]; exact (Below.refl _ _).alloc (Nat.le_refl _) _
    have R2 : Row W2 wr.heap.size 54 #[(es[k]?.getD dfE).a, (es[k]?.getD dfE).b, (es[k]?.getD dfE).c] := by rw [← hW2]; exact Row.new _ _ _
    obtain ⟨d0, d1, d2, _, _, _⟩ := R2.three
    have hY2 := hY pre ⟨k, hlt⟩ W2.drew (hJ _ _ _ hJs hb2.drew) (by rw [hup.length]; exact hlt)
    obtain ⟨fn, tmps, assign, body, hy, hR⟩ := hY2
    have hnx2 : KpS n₀ (Bs + 1) W W2.drew := hnx.trans ⟨(hb2.mono (by omega)).drew, hb2.block (Bs + 1) (by omega)⟩
    simp only [ratsAt] at hy
    have f0 := (hb2.cell (p := ⟨b', o' + k * 3, none⟩) (World.block_lt_of_cell? wr _ e0)).trans e0
    have f1 := (hb2.cell (p := ⟨b', o' + k * 3 + 1, none⟩) (World.block_lt_of_cell? wr _ e1)).trans e1
    have f2 := (hb2.cell (p := ⟨b', o' + k * 3 + 2, none⟩) (World.block_lt_of_cell? wr _ e2)).trans e2
    have g2 := (hb2.cell (p := ⟨Bs + 1, 0, none⟩) (World.block_lt_of_cell? wr _ hB2')).trans hB2'
    rw [he] at hy c0 c1 c2 hW2 d0 d1 d2
    rw [hf] at hy e0 e1 e2 f0 f1 f2
    simp only at hy
    have hfl : fs.length = es.length := hlen
    rw [hfl] at g2
    have HJ := Lib.hid hJ
    have HY := Lib.hid hY
    have hkI : (k : Int) < (es.length : Int) := by omega
    clear hJ hY hl1 hl2 he hf R2 hsh1 hsh2 hlen
    gi_wp2_with fail
    refine wpIn_region_L (fun X => X.cell? ⟨wr.heap.size, 0, none⟩ = some (.bool z1) ∧ X.cell? ⟨wr.heap.size, 1, none⟩ = some (.slice z2 z3 z4) ∧ X.cell? ⟨wr.heap.size, 2, none⟩ = some (.slice z5 z6 z7) ∧
     X.cell? ⟨Bs + 1, 0, none⟩ = some (.slice (some ⟨b', o', none⟩) es.length cap2) ∧ X.cell? ⟨b', o' + k * 3, none⟩ = some (.bool y1) ∧ X.cell? ⟨b', o' + k * 3 + 1, none⟩ = some (.slice y2 y3 y4) ∧ X.cell? ⟨b', o' + k * 3 + 2, none⟩ = some (.slice y5 y6 y7)) [6, 7] (by kernel_rfl)
     ⟨d0, d1, d2, g2, f0, f1, f2⟩ (fun hHeld => ?_)
    refine wpAnyInL_take (i := 0) (v := ?va0) [6, 7] rfl rfl (by kernel_rfl) (by kernel_rfl) (by kernel_rfl) (by kernel_rfl) (by kernel_rfl) (by kernel_rfl) (fun _ _ _ h => h) (Or.inl ⟨by rfl, ?ha0⟩) (fun _ => rfl) (by assumption) ?ra0
    case ha0 =>
     intro w hSw
     try dsimp only at hSw
     go_simp
     try with_reducible rfl
    try simp only [Act.put, nD, nE, nF]
    refine wpAnyInL_take (i := 1) (v := ?va1) [6, 7] rfl rfl (by kernel_rfl) (by kernel_rfl) (by kernel_rfl) (by kernel_rfl) (by kernel_rfl) (by kernel_rfl) (fun _ _ _ h => h) (Or.inl ⟨by rfl, ?ha1⟩) (fun _ => rfl) (by assumption) ?ra1
    case ha1 =>
     intro w hSw
     try dsimp only at hSw
     go_simp
     try with_reducible rfl
    try simp only [Act.put, nD, nE, nF]
    refine wpAnyInL_take (i := 2) (v := ?va2) [4, 5, 6, 7] rfl rfl (by kernel_rfl) (by kernel_rfl) (by kernel_rfl) (by kernel_rfl) (by kernel_rfl) (by kernel_rfl) (fun _ _ _ h => h) (Or.inl ⟨by rfl, ?ha2⟩) (fun _ => rfl) (by assumption) ?ra2
    case ha2 =>
     intro w hSw
     try dsimp only at hSw
     go_simp
     try with_reducible rfl
    try simp only [Act.put, nD, nE, nF]
    refine wpAnyInL_take (i := 3) (v := ?va3) [4, 5, 6, 7] rfl rfl (by kernel_rfl) (by kernel_rfl) (by kernel_rfl) (by kernel_rfl) (by kernel_rfl) (by kernel_rfl) (fun _ _ _ h => h) (Or.inl ⟨by rfl, ?ha3⟩) (fun _ => rfl) (by assumption) ?ra3
    case ha3 =>
     intro w hSw
     try dsimp only at hSw
     go_simp
     try with_reducible rfl
    try simp only [Act.put, nD, nE, nF]
    refine wpAnyInL_take (i := 4) (v := ?va4) [5, 6, 7] rfl rfl (by kernel_rfl) (by kernel_rfl) (by kernel_rfl) (by kernel_rfl) (by kernel_rfl) (by kernel_rfl) (fun _ _ _ h => h) (Or.inl ⟨by rfl, ?ha4⟩) (fun _ => rfl) (by assumption) ?ra4
    case ha4 =>
     intro w hSw
     try dsimp only at hSw
     go_simp
     try with_reducible rfl
    try simp only [Act.put, nD, nE, nF]
    refine wpAnyInL_take (i := 5) (v := ?va5) [6, 7] rfl rfl (by kernel_rfl) (by kernel_rfl) (by kernel_rfl) (by kernel_rfl) (by kernel_rfl) (by kernel_rfl) (fun _ _ _ h => h) (Or.inl ⟨by rfl, ?ha5⟩) (fun _ => rfl) (by assumption) ?ra5
    case ha5 =>
     intro w hSw
     try dsimp only at hSw
     go_simp
     try with_reducible rfl
    try simp only [Act.put, nD, nE, nF]
    refine wpAnyInL_one (i := 6) (by kernel_rfl) rfl (fun K hK => ?sb6)
    go_simp
    refine ⟨(fun h => by cases h), hR.mono ?_⟩
    rintro e W3 (⟨rfl, hJ3, hk3⟩ | ⟨rfl, hJx3⟩)
    · refine hK.out _ _ (fun h => absurd (by decide) h) (fun _ => ?mb6)
      clear hK K
      try simp only [Act.put, nD, nE, nF]
      refine wpAnyInL_one (i := 7) (by kernel_rfl) rfl (fun K hK => ?sb7)
      go_simp
      refine hK.out _ _ (fun h => absurd (by decide) h) (fun _ => ?mb7)
      clear hK K
      try simp only [Act.put, nD, nE, nF]
      refine wpAnyInL_done (by kernel_rfl) ?_ _
      gi_wp2
      go_roundw
      case rel => exact ⟨k + 1, _, by omega, by go_num, hup.snoc hlt, hJ3, hnx2.trans hk3⟩
      case measure => simp [intOf]; omega
    · refine hK.out _ _ (fun h => absurd (by decide) h) (fun _ => ?mc6)
      clear hK K
      try simp only [Act.put, nD, nE, nF]
      refine wpAnyInL_one (i := 7) (by kernel_rfl) rfl (fun K hK => ?sc7)
      go_simp
      refine hK.out _ _ (fun h => absurd (by decide) h) (fun _ => ?mc7)
      clear hK K
      try simp only [Act.put, nD, nE, nF]
      refine wpAnyInL_done (by kernel_rfl) ?_ _
      gi_wp2
      refine bodyPost_ret (results_none rfl _ _ _) rfl ?_
      exact ⟨⟨_, rfl⟩, .inr ⟨_, ⟨k + 1, by omega, hup.snoc hlt⟩, hJx3⟩⟩
  · obtain rfl : k = es.length := by omega
    gi_wp2
    go_end0
    exact ⟨⟨_, rfl⟩, .inl ⟨_, hup, hJs⟩⟩
theorem besideQ_stops (n Bs n₀ : Nat) (a1 a2 : Option Addr) (es fs : List E3) (cap1 cap2 : Nat) (hm : es.length ≤ 1000000000000) (hlen : fs.length = es.length) (w : World) (hn₀ : Bs + 1 < w.heap.size) (hw : n₀ ≤ w.heap.size)
 (hB1 : w.cell? ⟨Bs, 0, none⟩ = some (.slice a1 es.length cap1)) (hB2 : w.cell? ⟨Bs + 1, 0, none⟩ = some (.slice a2 fs.length cap2)) (hl1 : LimE w a1 es n₀) (hl2 : LimE w a2 fs n₀) (hsh1 : ShE es) (hsh2 : ShE fs) :
 SeqStopsK Fence.wide n Tryz.prog 105 #[.pointer (some ⟨Bs, 0, none⟩), .pointer (some ⟨Bs + 1, 0, none⟩)] (ratsAt es fs (n := es.length)) (KpS n₀ (Bs + 1)) (fun ys => Upto ys es.length) (fun pre => ∃ k, k ≤ es.length ∧ Upto pre k) es.length w := fun l J Jx W hW hJ _ hY h0 =>
 besideQ_in n l Bs n₀ a1 a2 es fs cap1 cap2 hm hlen J Jx (fun pre A B hj hb => hJ pre A B none hj ⟨hb.os, hb.tape, hb.output, hb.size, fun k hk _ => hb.block k hk⟩ (fun _ h => by cases h)) hY W (Nat.lt_of_lt_of_le hn₀ hW.size) (Nat.le_trans hw hW.size) ((hW.cell (p := ⟨Bs, 0, none⟩) (by show Bs < w.heap.size; omega)).trans hB1) ((hW.cell (p := ⟨Bs + 1, 0, none⟩) (by show Bs + 1 < w.heap.size; omega)).trans hB2) (hl1.below (hW.mono hw)) (hl2.below (hW.mono hw)) hsh1 hsh2 h0
end
section
open Go.RowKit Go.Shelf
attribute [local go_sem] Oper.semAt_some
theorem sgR_same (x y : Rat) : (sgR (x - y) == 0) = decide (x = y) := by
 by_cases h : x = y
 · subst h
   rw [decide_eq_true rfl, show x - x = 0 by grind]
   rfl
 · rw [decide_eq_false h]
   have : sgR (x - y) ≠ 0 := fun e => h (by have := (sgR_zero _).1 e; grind)
   simpa using this
theorem sameX_any {n : Nat} {w : World} {u v : Value} {p q : Q3} (hu : RawQ w u p) (hv : RawQ w v q) (h1 : p.num.length ≤ n ∧ p.den.length ≤ n) (h2 : q.num.length ≤ n ∧ q.den.length ≤ n) (hn : n ≤ 16777000) :
 Calls Tryz.prog 66 #[u, v] w fun e w' => e = .returned (.bool (decide (p.rat = q.rat))) ∧ Below w.heap.size w w' := by
 have h := sameQ_any (hu.arg h1.1 h1.2) (hv.arg h2.1 h2.2) hn
 rw [sgR_same] at h
 exact h
theorem sameT7_any {n : Nat} {w : World} {u v : Value} {s1 s2 : List Int} {q1 q2 : List Q3} {a1 b1 a2 b2 : Option Addr} {ca1 cb1 ca2 cb2 : Nat} (T1 : TensQ w u s1 q1 a1 ca1 b1 cb1) (T2 : TensQ w v s2 q2 a2 ca2 b2 cb2) (hs1 : s1.length ≤ 1048576) (hs2 : s2.length ≤ 1048576) (hq1 : q1.length ≤ 1048576) (hq2 : q2.length ≤ 1048576) (hl1 : lensQ q1 n) (hl2 : lensQ q2 n) (hn : n ≤ 4000000) :
 Calls Tryz.prog 26 #[u, v] w fun e w' => e = .returned (.bool (allBC (fun (p q : Q3) => decide (p.rat = q.rat)) s1 s2 q1 q2)) ∧ Below w.heap.size w w' := by
 obtain rfl := T1.is
 obtain rfl := T2.is
 obtain ⟨B, hB⟩ : ∃ B, w.heap.size = B := ⟨_, rfl⟩
 obtain ⟨W1, hW1⟩ : ∃ W1, w.alloc (.cells #[.slice a1 s1.length ca1, .slice b1 q1.length cb1] 26) = W1 := ⟨_, rfl⟩
 obtain ⟨W2, hW2⟩ : ∃ W2, W1.alloc (.cells #[.slice a2 s2.length ca2, .slice b2 q2.length cb2] 26) = W2 := ⟨_, rfl⟩
 obtain ⟨W3, hW3⟩ : ∃ W3, W2.alloc (.cells #[.bool false] 4) = W3 := ⟨_, rfl⟩
 have s1' : W1.heap.size = B + 1 := by rw [← hW1, ← hB]; simp
 have s2' : W2.heap.size = B + 1 + 1 := by rw [← hW2, World.size_alloc, s1']
 have s3' : W3.heap.size = B + 1 + 1 + 1 := by rw [← hW3, World.size_alloc, s2']
 have R0 : Row W3 B 26 #[.slice a1 s1.length ca1, .slice b1 q1.length cb1] := by rw [← hW3, ← hW2, ← hW1, ← hB]; exact ((Row.new _ _ _).alloc _).alloc _
 have R1 : Row W3 (B + 1) 26 #[.slice a2 s2.length ca2, .slice b2 q2.length cb2] := by rw [← hW3, ← hW2, ← s1']; exact (Row.new _ _ _).alloc _
 have R2 : Row W3 (B + 1 + 1) 4 #[.bool false] := by rw [← hW3, ← s2']; exact Row.new _ _ _
 have hb2 : Below B w W3 := by rw [← hW3, ← hW2, ← hW1]; exact (((Below.refl _ w).alloc (by omega) _).alloc (by simp; omega) _).alloc (by simp; omega) _
 have U1 := T1.later (by rw [hB]; exact hb2)
 have U2 := T2.later (by rw [hB]; exact hb2)
 have hsame := sameS_any U1.sh U2.sh T1.nila T2.nila (by omega) (by omega)
 obtain ⟨t, ht⟩ : ∃ t, decide (s1 = s2) = t := ⟨_, rfl⟩
 rw [ht] at hsame
 obtain ⟨dd, hdd⟩ : ∃ d, allBC (fun (p q : Q3) => decide (p.rat = q.rat)) s1 s2 q1 q2 = d := ⟨_, rfl⟩
 rw [hdd]
 have HD := Lib.hid hdd
 have HT1 := Lib.hid T1
 have HT2 := Lib.hid T2
 have HL1 := Lib.hid hl1
 have HL2 := Lib.hid hl2
 obtain ⟨c0, c1, _, _⟩ := R0.two
 obtain ⟨c2, c3, _, _⟩ := R1.two
 clear T1 T2 U1 U2 hl1 hl2 hdd
 by_cases hgo : s1 = s2 ∧ q1.length = q2.length
 · obtain ⟨hs, hlen⟩ := hgo
   have htt : t = true := by rw [← ht]; exact decide_eq_true hs
   subst htt
   obtain ⟨es, hlim1, hall1⟩ := HT1.out.el.limE
   obtain ⟨fs, hlim2, hall2⟩ := HT2.out.el.limE
   have hsh1 : ShE es := shE_of hall1 (fun v x h => h.form)
   have hsh2 : ShE fs := shE_of hall2 (fun v x h => h.form)
   have hel1 : es.length = q1.length := hall1.1
   have hel2 : fs.length = es.length := by rw [hall2.1, ← hlen, hall1.1]
   have HA1 := Lib.hid hall1
   have HA2 := Lib.hid hall2
   have HS := Lib.hid hs
   have HLEN := Lib.hid hlen
   have HEL1 := Lib.hid hel1
   have HEL2 := Lib.hid hel2
   rw [hB] at hlim1 hlim2
   rw [← hlen, ← hel1] at R1 c3 hW2
   rw [← hel1] at R0 c1 hW1 hq1
   have hW2' := Lib.hid hW2
   rw [← hlen, ← hel1]
   clear hall1 hall2 hs hlen hel1 hel2 ht
   obtain ⟨n', hn'⟩ : ∃ n' : Nat, Hid (3 ≤ n') := ⟨3, Nat.le_refl 3⟩
   refine (callsIn_wide (n := n')).1 ?_
   refine callsIn_of_wp_marks Tryz.func26 rfl trivial ?_ rfl
   simp only [Tryz.ntmps26, List.size_toArray, List.length_cons, List.length_nil, Nat.reduceAdd, Nat.reduceSub, Array.replicate_succ, Array.replicate_zero, List.push_toArray, List.append_toArray, List.nil_append, List.cons_append]
   gi_wp2_with fail
   refine wideCall (hsame.mono ?_)
   rintro e w4 ⟨rfl, b4⟩
   have b0 : Below W3.heap.size W3 w4.drew := b4.drew
   have s4 := b4.size
   obtain ⟨k0, k1, _, _⟩ := (R0.later b4).two
   obtain ⟨k2, k3, _, _⟩ := (R1.later b4).two
   gi_wp2_with fail
   have mkS : ∀ Y, Below W3.heap.size W3 Y → Y.cell? ⟨B, 0, none⟩ = some (.slice a1 s1.length ca1) ∧ Y.cell? ⟨B, 1, none⟩ = some (.slice b1 es.length cb1) ∧ Y.cell? ⟨B + 1, 0, none⟩ = some (.slice a2 s2.length ca2) ∧ Y.cell? ⟨B + 1, 1, none⟩ = some (.slice b2 es.length cb2) := fun Y hb => by
    obtain ⟨x0, x1, _⟩ := (R0.later hb).two
    obtain ⟨x2, x3, _⟩ := (R1.later hb).two
    exact ⟨x0, x1, x2, x3⟩
   refine region_wide (fun Y => Y.cell? ⟨B, 0, none⟩ = some (.slice a1 s1.length ca1) ∧ Y.cell? ⟨B, 1, none⟩ = some (.slice b1 es.length cb1) ∧ Y.cell? ⟨B + 1, 0, none⟩ = some (.slice a2 s2.length ca2) ∧ Y.cell? ⟨B + 1, 1, none⟩ = some (.slice b2 es.length cb2)) (by kernel_rfl) (by kernel_rfl) (mkS _ b0) (fun hHeld => ?_)
   refine todo [0, 2] ?_
   iterate 2
    refine todoH (v := ?_) rfl (by kernel_rfl) (fun _ _ _ h => h) (by assumption) (Or.inl ⟨by rfl, ?_⟩) ?_
    rotate_left
    · intro w hSw; (try dsimp only at hSw); go_simp; (try with_reducible rfl)
    try simp only [Act.put, nA, nB, nC, nD, nE, nF]
   refine todone ?_
   refine wpAnyH_ready (rs := [1]) (by kernel_rfl) (by simp) ?_
   refine AllReadyH.cons rfl (fun K hK => ?sc1) AllReadyH.nil
   go_simp
   refine (elements_any _ _ _ _ _ _ _).mono ?_
   rintro e w5 ⟨rfl, b5⟩
   go_simp
   have b05 : Below W3.heap.size W3 w5 := b0.trans (b5.mono (by show W3.heap.size ≤ w4.heap.size; omega))
   have s5 := b05.size
   refine hK.out _ _ ?kc1 (fun hHeld => ?mc1)
   case kc1 =>
    try dsimp only
    exact mkS _ b05
   clear hK K
   try simp only [Act.put, nD, nE, nF]
   refine wpAnyH_ready (rs := [3]) (by kernel_rfl) (by simp) ?_
   refine AllReadyH.cons rfl (fun K hK => ?sc3) AllReadyH.nil
   go_simp
   refine (elements_any _ _ _ _ _ _ _).mono ?_
   rintro e w6 ⟨rfl, b6⟩
   go_simp
   have b06 : Below W3.heap.size W3 w6 := b05.trans (b6.mono (by omega))
   have s6 := b06.size
   refine hK.out _ _ ?kc3 (fun hHeld => ?mc3)
   case kc3 =>
    try dsimp only
    exact mkS _ b06
   clear hK K
   try simp only [Act.put, nD, nE, nF]
   refine wpAnyH_ready (rs := [4]) (by kernel_rfl) (by simp) ?_
   refine AllReadyH.cons rfl (fun K hK => ?sc4) AllReadyH.nil
   go_simp
   refine (besideQ_any _ _ _ _ _ _ _).mono ?_
   rintro e w7 ⟨rfl, rfl⟩
   go_simp
   have b07 : Below W3.heap.size W3 ((w6.alloc (.cells #[.slice b1 es.length cb1] 96)).alloc (.cells #[.slice b2 es.length cb2] 96)) := (b06.alloc (by omega) _).alloc (by simp; omega) _
   refine hK.out _ _ ?kc4 (fun hHeld => ?mc4)
   case kc4 =>
    try dsimp only
    exact mkS _ b07
   clear hK K
   try simp only [Act.put, nD, nE, nF]
   refine wpAnyH_done (by kernel_rfl) ?_ _
   dsimp only [Straight]
   gi_wp2_with fail
   obtain ⟨I, hI⟩ : ∃ I, w6.heap.size = I := ⟨_, rfl⟩
   obtain ⟨V1, hV1⟩ : ∃ V1, w6.alloc (.cells #[.slice b1 es.length cb1] 96) = V1 := ⟨_, rfl⟩
   obtain ⟨V, hV⟩ : ∃ V, V1.alloc (.cells #[.slice b2 es.length cb2] 96) = V := ⟨_, rfl⟩
   rw [hV1, hV] at b07
   have sV1 : V1.heap.size = I + 1 := by rw [← hV1, World.size_alloc, hI]
   have sV : V.heap.size = I + 1 + 1 := by rw [← hV, World.size_alloc, sV1]
   have d5 : Boxed V I 96 (.slice b1 es.length cb1) := by rw [← hV, ← hV1, ← hI]; exact (Boxed.new _ _ _).alloc _
   have d6 : Boxed V (I + 1) 96 (.slice b2 fs.length cb2) := by
    have h := Boxed.new V1 96 (.slice b2 es.length cb2)
    rw [sV1, hV] at h
    rw [HEL2.out]; exact h
   have e2 := R2.later b07
   have hbV : Below B w V := hb2.trans (b07.mono (by omega))
   simp only [hI, hV1, hV]
   have h3 : 3 ≤ n' := hn'
   have hI3 : B + 1 + 1 + 1 ≤ I := by have : W3.heap.size ≤ w6.heap.size := b06.size; omega
   clear hV hV1
   refine wpIn_rangeFunc_ownH (F := Fence.wide) (n := n') rfl (by omega) (gf := 105) (lb := #[.pointer (some ⟨I, 0, none⟩), .pointer (some ⟨I + 1, 0, none⟩)]) rfl trivial (enters_of Tryz.func105 (by kernel_rfl) rfl)
    (besideQ_stops (n' - 1) I B b1 b2 es fs cb1 cb2 (by omega) HEL2.out V (by omega) (by omega) d5.cell d6.cell (hlim1.below hbV) (hlim2.below hbV) hsh1 hsh2) KpS.trans (KpS.b (by omega) (by omega)) (Below.refl _ _) (fun _ => rfl)
    (fun (pre : List (Fin es.length)) X => Row X (B + 1 + 1) 4 #[.bool false] ∧ (∀ x ∈ pre, (q1[x.val]?.getD ⟨false, [], []⟩).rat = (q2[x.val]?.getD ⟨false, [], []⟩).rat) ∧ Below B w X ∧ I + 1 + 1 ≤ X.heap.size)
    (fun c pre X => c = .ret ∧ Row X (B + 1 + 1) 4 #[.bool false] ∧ (∃ x ∈ pre, (q1[x.val]?.getD ⟨false, [], []⟩).rat ≠ (q2[x.val]?.getD ⟨false, [], []⟩).rat) ∧ Below B w X)
    (fun pre X Y row ⟨h1, h2, h3, h4⟩ hg hr => ⟨h1.keepC (KeepC.grown hg (fun r e => (hr r e).2)), h2, h3.grown hg (by have := h3.size; omega) (fun k e => by have := (hr k e).1; omega), Nat.le_trans h4 hg.size⟩)
    (fun c pre X Y row ⟨h0, h1, h2, h3⟩ hg hr => ⟨h0, h1.keepC (KeepC.grown hg (fun r e => (hr r e).2)), h2, h3.grown hg (by have := h3.size; omega) (fun k e => by have := (hr k e).1; omega)⟩)
    ⟨e2, (fun x h => by cases h), hbV, by omega⟩
    (fun (x : Fin es.length) a' X => ∃ p1 p2, I + 1 + 1 ≤ p1 ∧ I + 1 + 1 ≤ p2 ∧ Row X p1 54 #[(es[x.val]?.getD dfE).a, (es[x.val]?.getD dfE).b, (es[x.val]?.getD dfE).c] ∧ Row X p2 54 #[(fs[x.val]?.getD dfE).a, (fs[x.val]?.getD dfE).b, (fs[x.val]?.getD dfE).c] ∧
     a' = { tmps := #[.agg #[.slice a1 s1.length ca1, .slice b1 es.length cb1], .agg #[.slice a2 s2.length ca2, .slice b2 es.length cb2], .pointer (some ⟨B, 0, none⟩), .pointer (some ⟨B + 1, 0, none⟩), .pointer (some ⟨B + 1 + 1, 0, none⟩), .pointer (some ⟨p1, 0, none⟩), .pointer (some ⟨p2, 0, none⟩),
      .pointer (some ⟨B, 0, none⟩), .slice a1 s1.length ca1, .pointer (some ⟨B + 1, 0, none⟩), .slice a2 s2.length ca2, .bool true, .bool false, .bool false, .pointer (some ⟨B, 1, none⟩), .slice b1 es.length cb1, .int .i64 es.length, .pointer (some ⟨B + 1, 1, none⟩), .slice b2 es.length cb2, .int .i64 es.length, .bool false, .bool false,
      .agg #[.slice a1 s1.length ca1, .slice b1 es.length cb1], .slice b1 es.length cb1, .agg #[.slice a2 s2.length ca2, .slice b2 es.length cb2], .slice b2 es.length cb2,
      .func (.func 105) #[] #[.pointer (some ⟨I, 0, none⟩), .pointer (some ⟨I + 1, 0, none⟩)], .agg #[(es[x.val]?.getD dfE).a, (es[x.val]?.getD dfE).b, (es[x.val]?.getD dfE).c], .agg #[(fs[x.val]?.getD dfE).a, (fs[x.val]?.getD dfE).b, (fs[x.val]?.getD dfE).c], undef, undef, undef, undef], defers := [] })
    (fun x a' _ X Y row ⟨p1, p2, g1, g2, h1, h2, h3⟩ hg hr => ⟨p1, p2, g1, g2, h1.keepC (KeepC.grown hg (fun r e => (hr r e).2)), h2.keepC (KeepC.grown hg (fun r e => (hr r e).2)), h3⟩)
    ?assign ?body ?done ?stop
   case assign =>
    rintro l pre ⟨k, hk⟩ X K ⟨h1, h2, h3, h4⟩ hK
    obtain ⟨z1, z2, z3, z4, z5, z6, z7, he⟩ := hsh1 k hk
    obtain ⟨y1, y2, y3, y4, y5, y6, y7, hf⟩ := hsh2 k (by rw [HEL2.out]; exact hk)
    have hs3 := h3.size
    have hbX1 : Below X.heap.size X (X.alloc (.cells #[.bool z1, .slice z2 z3 z4, .slice z5 z6 z7] 54)) := (Below.refl _ _).alloc (Nat.le_refl _) _
    have hbX : Below X.heap.size X ((X.alloc (.cells #[.bool z1, .slice z2 z3 z4, .slice z5 z6 z7] 54)).alloc (.cells #[.bool y1, .slice y2 y3 y4, .slice y5 y6 y7] 54)) := hbX1.alloc (by simp) _
    have kk := KeepC.below hbX
    have HK := Lib.hid hK
    simp only [ratsAt]
    rw [he, hf]
    simp only
    clear hK
    gi_wp2
    refine HK.out _ _ (keepsFrom_below hbX) ⟨hbX.mono (by omega), hbX.block (I + 1) (by omega)⟩ ⟨h1.keepC kk, h2, h3.trans (hbX.mono (by omega)), by simp; omega⟩ ⟨X.heap.size, X.heap.size + 1, h4, by omega, ?_, ?_, ?_⟩
    · simp only [he]; exact (Row.new _ _ _).alloc _
    · simp only [hf]
      have h := Row.new (X.alloc (.cells #[.bool z1, .slice z2 z3 z4, .slice z5 z6 z7] 54)) 54 #[.bool y1, .slice y2 y3 y4, .slice y5 y6 y7]
      simp only [World.size_alloc] at h
      exact h
    · simp only [he, hf]
   case body =>
    rintro l pre ⟨k, hk⟩ a' X hl hrec ⟨h1, h2, h3, h4⟩ ⟨p1, p2, hp1, hp2, hR, hR', rfl⟩ hlt
    have hkf : k < fs.length := by rw [HEL2.out]; exact hk
    obtain ⟨z1, z2, z3, z4, z5, z6, z7, he⟩ := hsh1 k hk
    obtain ⟨y1, y2, y3, y4, y5, y6, y7, hf⟩ := hsh2 k hkf
    simp only at hR hR' ⊢
    rw [he] at hR ⊢
    rw [hf] at hR' ⊢
    simp only at hR hR' ⊢
    have hkq : k < q1.length := by rw [← HEL1.out]; exact hk
    have hkq2 : k < q2.length := by rw [← HLEN.out]; exact hkq
    have hqk : q1[k]? = some q1[k] := List.getElem?_eq_getElem hkq
    have hqk2 : q2[k]? = some q2[k] := List.getElem?_eq_getElem hkq2
    obtain ⟨p, hpe⟩ : ∃ q, q1[k] = q := ⟨_, rfl⟩
    obtain ⟨q, hqe⟩ : ∃ q, q2[k] = q := ⟨_, rfl⟩
    rw [hpe] at hqk
    rw [hqe] at hqk2
    have hek : es[k]? = some es[k] := List.getElem?_eq_getElem hk
    have hfk : fs[k]? = some fs[k] := List.getElem?_eq_getElem hkf
    have hraw := HA1.out.2 k _ _ hek hqk
    have hraw2 := HA2.out.2 k _ _ hfk hqk2
    have e2 : es[k] = ⟨.bool z1, .slice z2 z3 z4, .slice z5 z6 z7⟩ := by rw [hek] at he; exact he
    have f2 : fs[k] = ⟨.bool y1, .slice y2 y3 y4, .slice y5 y6 y7⟩ := by rw [hfk] at hf; exact hf
    rw [e2] at hraw
    rw [f2] at hraw2
    have hlq := HL1.out p (List.mem_of_getElem? hqk)
    have hlq2 := HL2.out q (List.mem_of_getElem? hqk2)
    have hgd : q1[k]?.getD ⟨false, [], []⟩ = p := by rw [hqk]; rfl
    have hgd2 : q2[k]?.getD ⟨false, [], []⟩ = q := by rw [hqk2]; rfl
    obtain ⟨g0, g1, g2, _, _, _⟩ := hR.three
    obtain ⟨j0, j1, j2, _, _, _⟩ := hR'.three
    have hs3 := h3.size
    have hrX := hraw.later (hB.symm ▸ h3 : Below w.heap.size w X)
    have hrX2 := hraw2.later (hB.symm ▸ h3 : Below w.heap.size w X)
    gi_wp2_with fail
    refine roundCall ((sameX_any hrX hrX2 hlq hlq2 (by omega)).mono ?_)
    rintro e w8 ⟨rfl, b8⟩
    have s8 := b8.size
    have R8 := h1.later b8
    have f8 := R8.free 0
    have d8 := R8.cell 0
    by_cases hok : p.rat = q.rat
    · rw [decide_eq_true hok]
      gi_wp2
      refine ⟨keepsFrom_below b8, ⟨b8.mono (by omega), b8.block (I + 1) (by omega)⟩, R8, fun x hx => ?_, h3.trans (b8.mono (by omega)), by omega⟩
      rcases List.mem_append.1 hx with hx | hx
      · exact h2 x hx
      · simp at hx
        subst hx
        simp only
        rw [hgd, hgd2]
        exact hok
    · rw [decide_eq_false hok]
      have R9 : Row (w8.setCell ⟨B + 1 + 1, 0, none⟩ (.bool false)) (B + 1 + 1) 4 #[.bool false] := R8.set 0 _
      gi_wp2
      refine ⟨keepsFrom_set (keepsFrom_below b8) _ _, rfl, R9, ⟨_, List.mem_append_right _ (List.mem_singleton.2 rfl), ?_⟩, (h3.trans (b8.mono (by omega))).setCell (by show B ≤ B + 1 + 1; omega) _⟩
      show (q1[k]?.getD ⟨false, [], []⟩).rat ≠ (q2[k]?.getD ⟨false, [], []⟩).rat
      rw [hgd, hgd2]
      exact hok
   case done =>
    rintro D ys X hD hup ⟨h1, h2, h3, h4⟩ hK
    have hd : dd = true := by
     rw [← HD.out]
     refine allBC_yes HS.out HLEN.out fun k x y hx hy => ?_
     have hk1 : k < q1.length := by
      rcases Nat.lt_or_ge k q1.length with g | g
      · exact g
      · rw [List.getElem?_eq_none g] at hx; cases hx
     have hk2 : k < es.length := by rw [HEL1.out]; exact hk1
     have hm : (⟨k, hk2⟩ : Fin es.length) ∈ ys := by
      have h5 : k ∈ ys.map Fin.val := by rw [show ys.map Fin.val = List.range es.length from hup]; exact List.mem_range.2 hk2
      obtain ⟨z, hz, hv⟩ := List.mem_map.1 h5
      have : z = ⟨k, hk2⟩ := Fin.ext hv
      rw [← this]
      exact hz
     have h5 := h2 _ hm
     simp only at h5
     rw [hx, hy] at h5
     exact decide_eq_true h5
    subst hd
    have c5 := h1.cell 0
    have f5 := h1.free 0
    gi_wp2
    have hK' := (KeepsOthers.setCell X ⟨B + 1 + 1, 0, none⟩ (.bool true)).same D _ hK rfl
    refine ⟨by simp, .inl ⟨_, _, rfl, run_takeDeferred hK', ?_⟩⟩
    have hc5 := cell_kept ((h1.set 0 (.bool true)).cell 0) (grownBy_putObj' _ D (.deferred none)) (fun r e => by cases e; exact ⟨_, hK', rfl⟩)
    simp at hc5
    refine ⟨.bool true, by simp [results, Tryz.f26, go_sem, hc5], rfl, ?_⟩
    rw [hB]
    exact (h3.setCell (p := ⟨B + 1 + 1, 0, none⟩) (by show B ≤ B + 1 + 1; omega) _).trans (belowK_b (n₀ := B) (w := w) (by omega) _ D _ _ (by omega) hK' rfl rfl)
   case stop =>
    rintro D c pre X hD ⟨k, hk, hup⟩ ⟨rfl, h1, ⟨x, hx, hbad⟩, h3⟩ hK
    have hd : dd = false := by
     rw [← HD.out]
     refine allBC_no fun ⟨_, _, h⟩ => hbad ?_
     have hk1 : x.val < q1.length := by rw [← HEL1.out]; exact x.isLt
     have hk2 : x.val < q2.length := by rw [← HLEN.out]; exact hk1
     rw [List.getElem?_eq_getElem hk1, List.getElem?_eq_getElem hk2]
     exact of_decide_eq_true (h x.val _ _ (List.getElem?_eq_getElem hk1) (List.getElem?_eq_getElem hk2))
    subst hd
    gi_wp2
    refine ⟨by simp, .inl ⟨_, _, rfl, run_takeDeferred hK, ?_⟩⟩
    have hc5 := cell_kept (h1.cell 0) (grownBy_putObj' _ D (.deferred none)) (fun r e => by cases e; exact ⟨_, hK, rfl⟩)
    simp at hc5
    refine ⟨.bool false, by simp [results, Tryz.f26, go_sem, hc5], rfl, ?_⟩
    rw [hB]
    exact h3.trans (belowK_b (n₀ := B) (w := w) (by omega) _ D _ _ (by omega) hK rfl rfl)
 · have hd : dd = false := by
    rw [← HD.out]
    exact allBC_no fun ⟨h1, h2, _⟩ => hgo ⟨h1, h2⟩
   subst hd
   by_cases hs : s1 = s2
   · have htt : t = true := by rw [← ht]; exact decide_eq_true hs
     have hne : q1.length ≠ q2.length := fun e => hgo ⟨hs, e⟩
     have hn1 : ((q1.length : Int) != (q2.length : Int)) = true := by simp; omega
     subst htt
     clear hs ht hgo
     go_enter Tryz.func26, Tryz.ntmps26
     go_wp2_with fail
     refine hsame.mono ?_
     rintro e w4 ⟨rfl, b4⟩
     obtain ⟨k0, k1, _, _⟩ := (R0.later b4).two
     obtain ⟨k2, k3, _, _⟩ := (R1.later b4).two
     have R4 := R2.later b4
     have f4 := R4.free 0
     have x4 := R4.cell 0
     have R5 : Row (w4.setCell ⟨B + 1 + 1, 0, none⟩ (.bool false)) (B + 1 + 1) 4 #[.bool false] := R4.set 0 _
     have y4 := R5.cell 0
     simp at y4
     clear R5
     go_wp2_with fail
     refine bodyPost_ret (v := .bool false) (by simp [results, Tryz.results26, go_sem, y4]) rfl ⟨rfl, ?_⟩
     rw [hB]
     exact (hb2.trans (b4.mono (by omega))).setCell (p := ⟨B + 1 + 1, 0, none⟩) (by show B ≤ B + 1 + 1; omega) _
   · have htt : t = false := by rw [← ht]; exact decide_eq_false hs
     subst htt
     go_enter Tryz.func26, Tryz.ntmps26
     go_wp2_with fail
     refine hsame.mono ?_
     rintro e w4 ⟨rfl, b4⟩
     have R4 := R2.later b4
     have f4 := R4.free 0
     have x4 := R4.cell 0
     have R5 : Row (w4.setCell ⟨B + 1 + 1, 0, none⟩ (.bool false)) (B + 1 + 1) 4 #[.bool false] := R4.set 0 _
     have y4 := R5.cell 0
     simp at y4
     clear R5
     go_wp2_with fail
     refine bodyPost_ret (v := .bool false) (by simp [results, Tryz.results26, go_sem, y4]) rfl ⟨rfl, ?_⟩
     rw [hB]
     exact (hb2.trans (b4.mono (by omega))).setCell (p := ⟨B + 1 + 1, 0, none⟩) (by show B ≤ B + 1 + 1; omega) _
end
section
open Go.RowKit
theorem orL_three (x y z : Int) : orL [x, y, z] = if x ≠ 0 then x else if y ≠ 0 then y else z := by
 unfold orL
 by_cases h : x = 0
 · rw [if_pos h, if_neg (by simp [h]), orL_two]
 · rw [if_neg h, if_pos h]
def twoC (c : Int) (ok : Bool) : Int := if c ≠ 0 then c else if ok = true then 0 else 17
theorem dotC_parts {s1 s2 : List Int} {q1 q2 : List Q3} (h : dotC s1 s2 q1 q2 = 0) : mayT s1 q1 = 0 ∧ mayT s2 q2 = 0 ∧ s1 = s2 := by
 unfold dotC at h
 split at h
 · rename_i h1; exact absurd h h1
 · rename_i h1
   split at h
   · rename_i h2; exact absurd h h2
   · rename_i h2
     split at h
     · cases h
     · rename_i h3
       exact ⟨by simpa using h1, by simpa using h2, by simpa using h3⟩
theorem ofTwo_any {F : Nat} {cap : Array Value} {ok : Rat → Rat → Bool} {f : Rat → Rat → Rat} {n N : Nat} {w : World} {u v : Value} {s1 s2 : List Int} {q1 q2 : List Q3} {a1 b1 a2 b2 : Option Addr} {ca1 cb1 ca2 cb2 : Nat} (T1 : TensQ w u s1 q1 a1 ca1 b1 cb1) (T2 : TensQ w v s2 q2 a2 ca2 b2 cb2) (hs1 : s1.length ≤ 17592186044416) (hs2 : s2.length ≤ 17592186044416) (hq1 : q1.length ≤ 1000000) (hq2 : q2.length ≤ 1000000) (hl1 : lensQ q1 n) (hl2 : lensQ q2 n) (hn : n ≤ 1000000)
 (heF : ∀ args w, (callFunc F args).run Tryz.prog w = .ok (.enter F args) w)
 (hdo : ∀ (W : World) (x y : Value) (p q : Q3), p ∈ q1 → q ∈ q2 → Below w.heap.size w W → RawQ W x p → RawQ W y q → Calls Tryz.prog F (#[x, y] ++ cap) W fun e w' => Op2 W.heap.size w' e (ok p.rat q.rat) (f p.rat q.rat) N ∧ Below W.heap.size W w') :
 Calls Tryz.prog 73 #[u, v, .func (.func F) #[] cap] w fun e w' => One w.heap.size w' e (twoC (dotC s1 s2 q1 q2) (zipOk ok q1 q2)) s1 (zipQ f q1 q2) N ∧ Below w.heap.size w w' := by
 have HT1 := Lib.hid T1
 have HT2 := Lib.hid T2
 have HL1 := Lib.hid hl1
 have HL2 := Lib.hid hl2
 have HDO := Lib.hid hdo
 obtain rfl := T1.is
 obtain rfl := T2.is
 obtain ⟨W, hW⟩ : ∃ W, (((w.alloc (.cells #[.slice a1 s1.length ca1, .slice b1 q1.length cb1] 26)).alloc (.cells #[.slice a2 s2.length ca2, .slice b2 q2.length cb2] 26)).alloc (.cells #[.slice none 0 0, .slice none 0 0] 26)) = W := ⟨_, rfl⟩
 have R0 : Row W (w.heap.size) 26 #[.slice a1 s1.length ca1, .slice b1 q1.length cb1] := by rw [← hW]; have h := Row.new w 26 #[.slice a1 s1.length ca1, .slice b1 q1.length cb1]; (try simp only [World.size_alloc] at h); exact ((h.alloc _).alloc _)
 have R1 : Row W (w.heap.size + 1) 26 #[.slice a2 s2.length ca2, .slice b2 q2.length cb2] := by rw [← hW]; have h := Row.new (w.alloc (.cells #[.slice a1 s1.length ca1, .slice b1 q1.length cb1] 26)) 26 #[.slice a2 s2.length ca2, .slice b2 q2.length cb2]; (try simp only [World.size_alloc] at h); exact (h.alloc _)
 have R2 : Row W (w.heap.size + 1 + 1) 26 #[.slice none 0 0, .slice none 0 0] := by rw [← hW]; have h := Row.new ((w.alloc (.cells #[.slice a1 s1.length ca1, .slice b1 q1.length cb1] 26)).alloc (.cells #[.slice a2 s2.length ca2, .slice b2 q2.length cb2] 26)) 26 #[.slice none 0 0, .slice none 0 0]; (try simp only [World.size_alloc] at h); exact h
 have hBW : Below w.heap.size w W := by rw [← hW]; exact ((((Below.refl _ _).alloc (by (try simp) <;> omega) _).alloc (by (try simp) <;> omega) _).alloc (by (try simp) <;> omega) _)
 have hsW : W.heap.size = w.heap.size + 1 + 1 + 1 := by rw [← hW]; simp
 have hm1 := fun (X : World) (hX : Below W.heap.size W X) => mayT7_big (HT1.out.later (hBW.trans (hX.mono (by omega)))) (by omega) HL1.out (by omega)
 have hm2 := fun (X : World) (hX : Below W.heap.size W X) => mayT7_big (HT2.out.later (hBW.trans (hX.mono (by omega)))) (by omega) HL2.out (by omega)
 have hmp := fun (X : World) (hX : Below W.heap.size W X) => mayPair_any (HT1.out.later (hBW.trans (hX.mono (by omega)))) (HT2.out.later (hBW.trans (hX.mono (by omega)))) hs1 hs2
 obtain ⟨m1, hm1e⟩ : ∃ m, mayT s1 q1 = m := ⟨_, rfl⟩
 obtain ⟨m2, hm2e⟩ : ∃ m, mayT s2 q2 = m := ⟨_, rfl⟩
 obtain ⟨m3, hm3e⟩ : ∃ m : Int, (if s1 = s2 then 0 else 13) = m := ⟨_, rfl⟩
 rw [hm1e] at hm1
 rw [hm2e] at hm2
 rw [hm3e] at hmp
 have hcode : dotC s1 s2 q1 q2 = orL [m1, m2, m3] := by
  rw [orL_three]
  unfold dotC
  rw [hm1e, hm2e, ← hm3e]
  by_cases h : s1 = s2
  · simp [h]
  · simp [h]
 have mkS : ∀ X, Below W.heap.size W X → X.cell? ⟨w.heap.size, 0, none⟩ = some (.slice a1 s1.length ca1) ∧ X.cell? ⟨w.heap.size, 1, none⟩ = some (.slice b1 q1.length cb1) ∧ X.cell? ⟨w.heap.size + 1, 0, none⟩ = some (.slice a2 s2.length ca2) ∧ X.cell? ⟨w.heap.size + 1, 1, none⟩ = some (.slice b2 q2.length cb2) := fun X h => by
  obtain ⟨x0, x1, _⟩ := (R0.later h).two
  obtain ⟨x2, x3, _⟩ := (R1.later h).two
  exact ⟨x0, x1, x2, x3⟩
 have B0 : Below W.heap.size W W.drew := (Below.refl _ W).drew
 obtain ⟨c, hc⟩ : ∃ c, orL [m1, m2, m3] = c := ⟨_, rfl⟩
 have HC := Lib.hid (hcode.trans hc)
 have HC2 := Lib.hid hc
 rw [hcode, hc]
 obtain ⟨L, hL⟩ : ∃ L, zipQ f q1 q2 = L := ⟨_, rfl⟩
 obtain ⟨t, ht⟩ : ∃ t, zipOk ok q1 q2 = t := ⟨_, rfl⟩
 obtain ⟨d, hd⟩ : ∃ d, twoC c t = d := ⟨_, rfl⟩
 rw [hL, ht, hd]
 have HLE := Lib.hid hL
 have HTE := Lib.hid ht
 have HDE := Lib.hid hd
 clear hL ht hd
 clear T1 T2 hm1e hm2e hm3e hcode hc hl1 hl2 hdo
 go_enter Tryz.func73, Tryz.ntmps73
 go_wp2_with fail
 (try rw [hW])
 clear hW
 refine wp_region_held (S := fun X => X.cell? ⟨w.heap.size, 0, none⟩ = some (.slice a1 s1.length ca1) ∧ X.cell? ⟨w.heap.size, 1, none⟩ = some (.slice b1 q1.length cb1) ∧ X.cell? ⟨w.heap.size + 1, 0, none⟩ = some (.slice a2 s2.length ca2) ∧ X.cell? ⟨w.heap.size + 1, 1, none⟩ = some (.slice b2 q2.length cb2)) (by kernel_rfl) ?_
 have hHeld := mkS _ B0
 refine todo [0, 2, 4, 5] ?_
 iterate 4
  refine todoH (v := ?_) rfl (by kernel_rfl) (fun _ _ _ h => h) (by assumption) (Or.inl ⟨by rfl, ?_⟩) ?_
  rotate_left
  · intro w hSw; (try dsimp only at hSw); go_simp; (try with_reducible rfl)
  try simp only [Act.put, nA, nB, nC, nD, nE, nF]
 refine todone ?_
 refine wpAnyH_ready (rs := [1]) (by kernel_rfl) (by simp) ?_
 refine AllReadyH.cons rfl (fun K hK => ?sq1c1) AllReadyH.nil
 go_simp
 refine (hm1 _ B0).mono ?_
 rintro e y1 ⟨rfl, hy⟩
 have B1 : Below W.heap.size W y1 := B0.trans (hy.mono B0.size)
 have D1 := hy
 clear hy
 go_simp
 refine hK.out _ _ ?kq1c1 (fun hHeld => ?mq1c1)
 case kq1c1 =>
  try dsimp only
  exact mkS _ B1
 clear hK K
 try simp only [Act.put, nD, nE, nF]
 refine wpAnyH_ready (rs := [3]) (by kernel_rfl) (by simp) ?_
 refine AllReadyH.cons rfl (fun K hK => ?sq2c3) AllReadyH.nil
 go_simp
 refine (hm2 _ B1).mono ?_
 rintro e y2 ⟨rfl, hy⟩
 have B2 : Below W.heap.size W y2 := B1.trans (hy.mono B1.size)
 have D2 := hy
 clear hy
 go_simp
 refine hK.out _ _ ?kq2c3 (fun hHeld => ?mq2c3)
 case kq2c3 =>
  try dsimp only
  exact mkS _ B2
 clear hK K
 try simp only [Act.put, nD, nE, nF]
 refine wpAnyH_ready (rs := [6]) (by kernel_rfl) (by simp) ?_
 refine AllReadyH.cons rfl (fun K hK => ?sq3c6) AllReadyH.nil
 go_simp
 refine (hmp _ B2).mono ?_
 rintro e y3 ⟨rfl, hy⟩
 have B3 : Below W.heap.size W y3 := B2.trans (hy.mono B2.size)
 have D3 := hy
 clear hy
 go_simp
 refine hK.out _ _ ?kq3c6 (fun hHeld => ?mq3c6)
 case kq3c6 =>
  try dsimp only
  exact mkS _ B3
 clear hK K
 try simp only [Act.put, nD, nE, nF]
 have z3 := B3.size
 have A3 : Below W.heap.size W (y3.alloc (.cells #[.int .i64 m1, .int .i64 m2, .int .i64 m3] 29)) := B3.alloc (by omega) _
 refine wpAnyH_ready (rs := [7]) (by kernel_rfl) (by simp) ?_
 refine AllReadyH.cons rfl (fun K hK => ?sal3) AllReadyH.nil
 go_simp
 refine hK.out _ _ ?kal3 (fun hHeld => ?mal3)
 case kal3 =>
  try dsimp only
  exact mkS _ A3
 clear hK K
 try simp only [Act.put, nD, nE, nF]
 refine wpAnyH_ready (rs := [8]) (by kernel_rfl) (by simp) ?_
 refine AllReadyH.cons rfl (fun K hK => ?sor3) AllReadyH.nil
 go_simp
 refine (or_any (xs := [m1, m2, m3]) (b := y3.heap.size) (fun k hk => by
  have R := Row.new y3 29 #[.int .i64 m1, .int .i64 m2, .int .i64 m3]
  simp only [List.length_cons, List.length_nil] at hk
  by_cases h0 : k = 0
  · subst h0; exact R.cell 0
  by_cases h1 : k = 1
  · subst h1; exact R.cell 1
  by_cases h2 : k = 2
  · subst h2; exact R.cell 2
  · omega) (by simp)).mono ?_
 rintro e y4 ⟨rfl, rfl⟩
 have B4 := A3
 go_simp
 refine hK.out _ _ ?kor3 (fun hHeld => ?mor3)
 case kor3 =>
  try dsimp only
  exact mkS _ A3
 clear hK K
 try simp only [Act.put, nD, nE, nF]
 rw [HC2.out]
 refine wpAnyH_ready (rs := [9]) (by kernel_rfl) (by simp) ?_
 refine AllReadyH.cons rfl (fun K hK => ?sas) AllReadyH.nil
 go_simp
 refine hK.out _ _ ?kas (fun hHeld => ?mas)
 case kas =>
  try dsimp only
  exact mkS _ A3
 clear hK K
 try simp only [Act.put, nD, nE, nF]
 refine wpAnyH_done (by kernel_rfl) ?_ _
 (try dsimp only [Straight])
 obtain ⟨y4, hy4⟩ : ∃ y4, y3.alloc (.cells #[.int .i64 m1, .int .i64 m2, .int .i64 m3] 29) = y4 := ⟨_, rfl⟩
 rw [hy4] at A3 ⊢
 obtain ⟨x0, x1, x2, x3⟩ := mkS _ A3
 have P1 := R2.later A3
 have Q0 := R0.later A3
 have s4 := A3.size
 have hB4 : Below w.heap.size w y4 := hBW.trans (A3.mono (by omega))
 have H1 := Lib.hid hm1
 clear hy4 hm1 hm2 hmp D1 D2 D3 B1 B2 B3 z3
 by_cases h0 : c = 0
 · subst h0
   obtain ⟨hv1, hv2, hs⟩ := dotC_parts HC.out
   have hlen : q2.length = q1.length := by
    have g1 := (mayT_valid hv1).1
    have g2 := (mayT_valid hv2).1
    rw [← hs] at g2
    omega
   have hj := joined_any (ok := ok) (f := f) (N := N) (HT1.out.later hB4).el (HT2.out.later hB4).el hlen hq1 heF (fun X x y p q hp hq hX hx hy => HDO.out X x y p q hp hq (hB4.trans (hX.mono (by omega))) hx hy)
   rw [HLE.out, HTE.out] at hj
   have HJ := Lib.hid hj
   clear hj hv1 hv2 hs hlen mkS
   go_wp2_with fail
   refine HJ.out.mono ?_
   rintro e y5 ⟨⟨ht, r, rfl, RO⟩ | ⟨ht, rfl⟩, hb5⟩
   · have hd0 : d = 0 := by rw [← HDE.out, ht]; rfl
     obtain ⟨b', cb', rfl⟩ := rowO_slice RO
     have s5 := hb5.size
     obtain ⟨k0, k1, _, _⟩ := (Q0.later hb5).two
     have P5 := P1.later hb5
     have HO := Lib.hid RO
     have hsh := shaped_any (b := b') (n := L.length) (cb := cb') ((HT1.out.later hB4).later hb5).sh HT1.out.nila hs1
     have HSH := Lib.hid hsh
     obtain ⟨l, hl⟩ : ∃ l, L.length = l := ⟨_, rfl⟩
     rw [hl] at hsh ⊢
     have HLL := Lib.hid hl
     have hSH := Lib.hid hsh
     clear hsh hl RO HSH
     go_wp2_with fail
     refine hSH.out.mono ?_
     rintro e y6 ⟨a', ca', rfl, RS, hb6⟩
     have s6 := hb6.size
     have P6 := P5.later hb6
     obtain ⟨u0, u1, g0, g1⟩ := P6.two
     have HR := Lib.hid RS
     clear RS
     go_wp2_with fail
     have P7 := P6.set2 (.slice a' s1.length ca') (.slice b' l cb')
     obtain ⟨z0, z1, _, _⟩ := P7.two
     have hR : ResT w.heap.size y6 (.agg #[.slice a' s1.length ca', .slice b' l cb']) s1 L N := ⟨a', b', ca', cb', by rw [HLL.out], HR.out.mono (by omega), (HO.out.later hb6 (fun v x h => h.later hb6)).mono (by omega) (fun v x h => h.mono (by omega))⟩
     refine bodyPost_ret (v := .tuple #[.agg #[.slice a' s1.length ca', .slice b' l cb'], .int .i64 0]) (by simp [results, Tryz.results73, go_sem, z0, z1]) rfl ⟨.inl ⟨hd0, _, rfl, hR.far P6 (by decide) (by decide) (by decide) (kept2 _ _)⟩, below_set2 ((hB4.trans (hb5.mono (by omega))).trans (hb6.mono (by omega))) (by omega) _ _⟩
   · have hd0 : d = 17 := by rw [← HDE.out, ht]; rfl
     have s5 := hb5.size
     have P5 := P1.later hb5
     obtain ⟨u0, u1, g0, g1⟩ := P5.two
     go_wp2_with fail
     have P7 := P5.set2 (.slice none 0 0) (.slice none 0 0)
     obtain ⟨z0, z1, _, _⟩ := P7.two
     refine bodyPost_ret (v := .tuple #[noTensor, .int .i64 17]) (by simp [results, Tryz.results73, go_sem, z0, z1, noTensor]) rfl ⟨.inr ⟨by rw [hd0]; decide, by rw [hd0]⟩, below_set2 (hB4.trans (hb5.mono (by omega))) (by omega) _ _⟩
 · have hne : (c != 0) = true := by simp [h0]
   have H0 := Lib.hid h0
   have htw : d = c := by rw [← HDE.out]; unfold twoC; rw [if_pos h0]
   subst htw
   obtain ⟨u0, u1, g0, g1⟩ := P1.two
   clear h0 mkS
   go_wp2_with fail
   have P3 := P1.set2 (.slice none 0 0) (.slice none 0 0)
   obtain ⟨z0, z1, _, _⟩ := P3.two
   refine bodyPost_ret (v := .tuple #[noTensor, .int .i64 d]) (by simp [results, Tryz.results73, go_sem, z0, z1, noTensor]) rfl ⟨.inr ⟨H0.out, rfl⟩, below_set2 hB4 (by omega) _ _⟩
end
section
open Go.RowKit
theorem addP_any {n : Nat} {w : World} {u v : Value} {s1 s2 : List Int} {q1 q2 : List Q3} {a1 b1 a2 b2 : Option Addr} {ca1 cb1 ca2 cb2 : Nat} (T1 : TensQ w u s1 q1 a1 ca1 b1 cb1) (T2 : TensQ w v s2 q2 a2 ca2 b2 cb2) (hs1 : s1.length ≤ 17592186044416) (hs2 : s2.length ≤ 17592186044416) (hq1 : q1.length ≤ 1000000) (hq2 : q2.length ≤ 1000000) (hl1 : lensQ q1 n) (hl2 : lensQ q2 n) (hn : n ≤ 1000000) :
 Calls Tryz.prog 30 #[u, v] w fun e w' => One w.heap.size w' e (twoC (dotC s1 s2 q1 q2) (zipOk (fun _ _ => true) q1 q2)) s1 (zipQ (fun x y => x + y) q1 q2) (2 * n + 10) ∧ Below w.heap.size w w' := by
 have HT1 := Lib.hid T1
 have HT2 := Lib.hid T2
 have HL1 := Lib.hid hl1
 have HL2 := Lib.hid hl2
 obtain rfl := T1.is
 obtain rfl := T2.is
 obtain ⟨W, hW⟩ : ∃ W, (((w.alloc (.cells #[.slice a1 s1.length ca1, .slice b1 q1.length cb1] 26)).alloc (.cells #[.slice a2 s2.length ca2, .slice b2 q2.length cb2] 26)).alloc (.cells #[.slice none 0 0, .slice none 0 0] 26)) = W := ⟨_, rfl⟩
 have R0 : Row W (w.heap.size) 26 #[.slice a1 s1.length ca1, .slice b1 q1.length cb1] := by rw [← hW]; have h := Row.new w 26 #[.slice a1 s1.length ca1, .slice b1 q1.length cb1]; (try simp only [World.size_alloc] at h); exact ((h.alloc _).alloc _)
 have R1 : Row W (w.heap.size + 1) 26 #[.slice a2 s2.length ca2, .slice b2 q2.length cb2] := by rw [← hW]; have h := Row.new (w.alloc (.cells #[.slice a1 s1.length ca1, .slice b1 q1.length cb1] 26)) 26 #[.slice a2 s2.length ca2, .slice b2 q2.length cb2]; (try simp only [World.size_alloc] at h); exact (h.alloc _)
 have R2 : Row W (w.heap.size + 1 + 1) 26 #[.slice none 0 0, .slice none 0 0] := by rw [← hW]; have h := Row.new ((w.alloc (.cells #[.slice a1 s1.length ca1, .slice b1 q1.length cb1] 26)).alloc (.cells #[.slice a2 s2.length ca2, .slice b2 q2.length cb2] 26)) 26 #[.slice none 0 0, .slice none 0 0]; (try simp only [World.size_alloc] at h); exact h
 have hBW : Below w.heap.size w W := by rw [← hW]; exact ((((Below.refl _ _).alloc (by (try simp) <;> omega) _).alloc (by (try simp) <;> omega) _).alloc (by (try simp) <;> omega) _)
 have hsW : W.heap.size = w.heap.size + 1 + 1 + 1 := by rw [← hW]; simp
 have hcall := fun (y : World) (hy : Below W.heap.size W y) (g : Nat) (hg : y.cell? ⟨g, 0, none⟩ = some (.func (.func 75) #[] #[])) =>
  ofTwo_any (F := 117) (cap := #[.pointer (some ⟨g, 0, none⟩)]) (ok := fun _ _ => true) (f := fun x y => x + y) (N := (2 * n + 10)) (HT1.out.later (hBW.trans (hy.mono (by omega)))) (HT2.out.later (hBW.trans (hy.mono (by omega)))) hs1 hs2 hq1 hq2 HL1.out HL2.out hn (enters_of Tryz.func117 (by kernel_rfl) rfl)
   (fun X x y' p q hp hq hX hx hy' => (total1_any (n := 0) (F := 75) hx hy' ((hX.cell (World.block_lt_of_cell? _ _ hg)).trans hg) (enters_of Tryz.func75 (by kernel_rfl) rfl) (fun Y x' y'' hY hx2 hy2 => addQ_any (hx2.arg (HL1.out p hp).1 (HL1.out p hp).2) (hy2.arg (HL2.out q hq).1 (HL2.out q hq).2) (by omega))).mono fun e w' ⟨r, e1, e2, e3⟩ => ⟨.inl ⟨rfl, r, e1, e2⟩, e3⟩)
 obtain ⟨L, hL⟩ : ∃ L, zipQ (fun x y => x + y) q1 q2 = L := ⟨_, rfl⟩
 obtain ⟨c, hc⟩ : ∃ c, twoC (dotC s1 s2 q1 q2) (zipOk (fun _ _ => true) q1 q2) = c := ⟨_, rfl⟩
 simp only [hL, hc] at hcall
 rw [hL, hc]
 have HC := Lib.hid hcall
 have mkS : ∀ X, Below W.heap.size W X → X.cell? ⟨w.heap.size, 0, none⟩ = some (.slice a1 s1.length ca1) ∧ X.cell? ⟨w.heap.size, 1, none⟩ = some (.slice b1 q1.length cb1) ∧ X.cell? ⟨w.heap.size + 1, 0, none⟩ = some (.slice a2 s2.length ca2) ∧ X.cell? ⟨w.heap.size + 1, 1, none⟩ = some (.slice b2 q2.length cb2) := fun X h => by
  obtain ⟨x0, x1, _⟩ := (R0.later h).two
  obtain ⟨x2, x3, _⟩ := (R1.later h).two
  exact ⟨x0, x1, x2, x3⟩
 have B0 : Below W.heap.size W W.drew := (Below.refl _ W).drew
 clear T1 T2 hl1 hl2 hL hc hcall
 go_enter Tryz.func30, Tryz.ntmps30
 go_wp2_with fail
 (try rw [hW])
 clear hW
 refine wp_region_held (S := fun X => X.cell? ⟨w.heap.size, 0, none⟩ = some (.slice a1 s1.length ca1) ∧ X.cell? ⟨w.heap.size, 1, none⟩ = some (.slice b1 q1.length cb1) ∧ X.cell? ⟨w.heap.size + 1, 0, none⟩ = some (.slice a2 s2.length ca2) ∧ X.cell? ⟨w.heap.size + 1, 1, none⟩ = some (.slice b2 q2.length cb2)) (by kernel_rfl) ?_
 have hHeld := mkS _ B0
 refine todo [0, 1] ?_
 iterate 2
  refine todoH (v := ?_) rfl (by kernel_rfl) (fun _ _ _ h => h) (by assumption) (Or.inl ⟨by rfl, ?_⟩) ?_
  rotate_left
  · intro w hSw; (try dsimp only at hSw); go_simp; (try with_reducible rfl)
  try simp only [Act.put, nA, nB, nC, nD, nE, nF]
 refine todone ?_
 refine wpAnyH_ready (rs := [2]) (by kernel_rfl) (by simp) ?_
 refine AllReadyH.cons rfl (fun K hK => ?stot) AllReadyH.nil
 go_simp
 refine (total_any 75 _).mono ?_
 rintro e yy ⟨rfl, rfl⟩
 obtain ⟨y1, hy1⟩ : ∃ y1, W.drew = y1 := ⟨_, rfl⟩
 rw [hy1] at B0 ⊢
 have A1 : Below W.heap.size W (y1.alloc (.cells #[.func (.func 75) #[] #[]] 112)) := B0.alloc (by have := B0.size; omega) _
 go_simp
 refine hK.out _ _ ?ktot (fun hHeld => ?mtot)
 case ktot =>
  try dsimp only
  exact mkS _ A1
 clear hK K
 try simp only [Act.put, nD, nE, nF]
 refine wpAnyH_ready (rs := [3]) (by kernel_rfl) (by simp) ?_
 refine AllReadyH.cons rfl (fun K hK => ?stwo) AllReadyH.nil
 go_simp
 refine (HC.out _ A1 y1.heap.size (by simp)).mono ?_
 rintro e w2 ⟨h, hb2⟩
 have A2 : Below W.heap.size W w2 := A1.trans (hb2.mono A1.size)
 have A1s := A1.size
 have P2 := R2.later A2
 obtain ⟨g1, g2, l1, l2, g3, g4, rfl, hr⟩ := h.shape
 go_simp
 refine hK.out _ _ ?ktwo (fun hHeld => ?mtwo)
 case ktwo =>
  try dsimp only
  exact mkS _ A2
 clear hK K
 try simp only [Act.put, nD, nE, nF]
 refine todo [4, 5] ?_
 iterate 2
  refine todoH (v := ?_) rfl (by kernel_rfl) (fun _ _ _ h => h) (by assumption) (Or.inl ⟨by rfl, ?_⟩) ?_
  rotate_left
  · intro w hSw; (try dsimp only at hSw); go_simp; (try with_reducible rfl)
  try simp only [Act.put, nA, nB, nC, nD, nE, nF]
 refine todone ?_
 obtain ⟨k0, k1, k2, k3⟩ := P2.two
 refine wpAnyH_ready (rs := [6]) (by kernel_rfl) (by simp) ?_
 refine AllReadyH.cons rfl (fun K hK => ?sst6) AllReadyH.nil
 go_simp
 refine afterSet2 P2 (fun X6 o6 zs6 => ?_)
 skip
 refine hK.out _ _ ?kst6 (fun hHeld => ?mst6)
 case kst6 =>
  try dsimp only
  exact ⟨((R0.later A2).only o6 (by omega)).cell 0, ((R0.later A2).only o6 (by omega)).cell 1, ((R1.later A2).only o6 (by omega)).cell 0, ((R1.later A2).only o6 (by omega)).cell 1⟩
 clear hK K
 try simp only [Act.put, nD, nE, nF]
 refine wpAnyH_ready (rs := [7]) (by kernel_rfl) (by simp) ?_
 refine AllReadyH.cons rfl (fun K hK => ?sas7) AllReadyH.nil
 go_simp
 refine hK.out _ _ ?kas7 (fun hHeld => ?mas7)
 case kas7 =>
  try dsimp only
  exact ⟨((R0.later A2).only o6 (by omega)).cell 0, ((R0.later A2).only o6 (by omega)).cell 1, ((R1.later A2).only o6 (by omega)).cell 0, ((R1.later A2).only o6 (by omega)).cell 1⟩
 clear hK K
 try simp only [Act.put, nD, nE, nF]
 refine wpAnyH_done (by kernel_rfl) ?_ _
 (try dsimp only [Straight])
 obtain ⟨z0, z1, _, _⟩ := zs6.two
 have s2 := A2.size
 have hB6 : Below w.heap.size w X6 := (hBW.trans (A2.mono (by omega))).trans (o6.below (by omega))
 have HRR := Lib.hid hr
 clear hr
 go_wp2_with fail
 refine bodyPost_ret (v := .tuple #[.agg #[.slice g1 l1 g3, .slice g2 l2 g4], .int .i64 c]) (by simp [results, Tryz.results30, go_sem, z0, z1]) rfl ⟨One.of ?_, hB6⟩
 rcases HRR.out with ⟨h0, h⟩ | ⟨h0, h⟩
 · exact .inl ⟨h0, (h.mono (by omega)).far P2 (by decide) (by decide) (by decide) (fun k hk => o6.block k hk)⟩
 · exact .inr ⟨h0, h⟩
end
section
open Go.RowKit
theorem zipQ_eq {f : Rat → Rat → Rat} {q1 q2 : List Q3} {L1 L2 : List Rat} (h1 : q1.map Q3.rat = L1) (h2 : q2.map Q3.rat = L2) : zipQ f q1 q2 = List.zipWith f L1 L2 := by
 subst h1
 subst h2
 unfold zipQ
 rw [List.zipWith_map]
theorem zipOk_true {q1 q2 : List Q3} : zipOk (fun _ _ => true) q1 q2 = true := by
 unfold zipOk
 rw [List.all_eq_true]
 intro x hx
 obtain ⟨i, hi, rfl⟩ := List.mem_iff_getElem.1 hx
 simp
theorem two_zero {s : List Int} {q1 q2 : List Q3} {ok : Bool} (h1 : mayT s q1 = 0) (h2 : mayT s q2 = 0) (h : ok = true) : twoC (dotC s s q1 q2) ok = 0 := by
 unfold twoC dotC
 simp [h1, h2, h]
end
section
open Go.RowKit
theorem orL_zero4 {x y z u : Int} (h : orL [x, y, z, u] = 0) : x = 0 ∧ y = 0 ∧ z = 0 ∧ u = 0 := by
 unfold orL at h
 split at h
 · rename_i h1
   exact ⟨h1, orL_zero3 h⟩
 · rename_i h1; exact absurd h h1
theorem ArgQ.more10 {w : World} {v : Value} {x : Rat} {n m : Nat} (h : ArgQ w v x n) (hm : n ≤ m) : ArgQ w v x m := by
 obtain ⟨neg, xs, ys, ad, bd, ca, cb, rfl, A, B, e, h1, h2⟩ := h
 exact ⟨neg, xs, ys, ad, bd, ca, cb, rfl, A, B, e, by omega, by omega⟩
def gemC (s t f : List Int) (q1 q2 q3 : List Q3) : Int := if orL [mayT s q1, mayT t q2, mayT f q3, mmC s t] = 0 then fitC f (mmS s t) else orL [mayT s q1, mayT t q2, mayT f q3, mmC s t]
theorem gemm_any (kb : Nat) {n : Nat} {w : World} {u v z : Value} {s t f : List Int} {q1 q2 q3 : List Q3} {a1 b1 a2 b2 a3 b3 : Option Addr} {ca1 cb1 ca2 cb2 ca3 cb3 : Nat} (T1 : TensQ w u s q1 a1 ca1 b1 cb1) (T2 : TensQ w v t q2 a2 ca2 b2 cb2) (T3 : TensQ w z f q3 a3 ca3 b3 cb3) (hs : s.length ≤ 17592186044416) (ht : t.length ≤ 17592186044416) (hf : f.length ≤ 17592186044416) (hl1 : lensQ q1 n) (hl2 : lensQ q2 n) (hl3 : lensQ q3 n) (hn : (2 * n + 4 + 10) * 2 ^ kb ≤ 16000000) (hkb : q1.length ≤ 2 ^ kb) (hq1 : q1.length ≤ 1000000) (hq2 : q2.length ≤ 1000000) (hq3 : q3.length ≤ 1000000) (hn4 : n ≤ 4000000) :
 Calls Tryz.prog 23 #[u, v, z] w fun e w' => One w.heap.size w' e (gemC s t f q1 q2 q3) (mmS s t) (plusF (mmS s t) f (mmV s t (q1.map Q3.rat) (q2.map Q3.rat)) (q3.map Q3.rat)) (2 * ((2 * n + 4 + 10) * 2 ^ kb) + 10) ∧ Below w.heap.size w w' := by
 have HT1 := Lib.hid T1
 have HT2 := Lib.hid T2
 have HT3 := Lib.hid T3
 have HL1 := Lib.hid hl1
 have HL2 := Lib.hid hl2
 have HL3 := Lib.hid hl3
 obtain rfl := T1.is
 obtain rfl := T2.is
 obtain rfl := T3.is
 obtain ⟨W, hW⟩ : ∃ W, ((((w.alloc (.cells #[.slice a1 s.length ca1, .slice b1 q1.length cb1] 26)).alloc (.cells #[.slice a2 t.length ca2, .slice b2 q2.length cb2] 26)).alloc (.cells #[.slice a3 f.length ca3, .slice b3 q3.length cb3] 26)).alloc (.cells #[.slice none 0 0, .slice none 0 0] 26)) = W := ⟨_, rfl⟩
 have R0 : Row W (w.heap.size) 26 #[.slice a1 s.length ca1, .slice b1 q1.length cb1] := by rw [← hW]; have h := Row.new w 26 #[.slice a1 s.length ca1, .slice b1 q1.length cb1]; (try simp only [World.size_alloc] at h); exact (((h.alloc _).alloc _).alloc _)
 have R1 : Row W (w.heap.size + 1) 26 #[.slice a2 t.length ca2, .slice b2 q2.length cb2] := by rw [← hW]; have h := Row.new (w.alloc (.cells #[.slice a1 s.length ca1, .slice b1 q1.length cb1] 26)) 26 #[.slice a2 t.length ca2, .slice b2 q2.length cb2]; (try simp only [World.size_alloc] at h); exact ((h.alloc _).alloc _)
 have R2 : Row W (w.heap.size + 1 + 1) 26 #[.slice a3 f.length ca3, .slice b3 q3.length cb3] := by rw [← hW]; have h := Row.new ((w.alloc (.cells #[.slice a1 s.length ca1, .slice b1 q1.length cb1] 26)).alloc (.cells #[.slice a2 t.length ca2, .slice b2 q2.length cb2] 26)) 26 #[.slice a3 f.length ca3, .slice b3 q3.length cb3]; (try simp only [World.size_alloc] at h); exact (h.alloc _)
 have R3 : Row W (w.heap.size + 1 + 1 + 1) 26 #[.slice none 0 0, .slice none 0 0] := by rw [← hW]; have h := Row.new (((w.alloc (.cells #[.slice a1 s.length ca1, .slice b1 q1.length cb1] 26)).alloc (.cells #[.slice a2 t.length ca2, .slice b2 q2.length cb2] 26)).alloc (.cells #[.slice a3 f.length ca3, .slice b3 q3.length cb3] 26)) 26 #[.slice none 0 0, .slice none 0 0]; (try simp only [World.size_alloc] at h); exact h
 have hBW : Below w.heap.size w W := by rw [← hW]; exact (((((Below.refl _ _).alloc (by (try simp) <;> omega) _).alloc (by (try simp) <;> omega) _).alloc (by (try simp) <;> omega) _).alloc (by (try simp) <;> omega) _)
 have hsW : W.heap.size = w.heap.size + 1 + 1 + 1 + 1 := by rw [← hW]; simp
 have hm1 := fun (X : World) (hX : Below W.heap.size W X) => mayT7_big (HT1.out.later (hBW.trans (hX.mono (by omega)))) (by omega) HL1.out (by omega)
 have hm2 := fun (X : World) (hX : Below W.heap.size W X) => mayT7_big (HT2.out.later (hBW.trans (hX.mono (by omega)))) (by omega) HL2.out (by omega)
 have hm3 := fun (X : World) (hX : Below W.heap.size W X) => mayT7_big (HT3.out.later (hBW.trans (hX.mono (by omega)))) (by omega) HL3.out (by omega)
 have hp := fun (X : World) (hX : Below W.heap.size W X) => mayProduct_any (HT1.out.sh.later (hBW.trans (hX.mono (by omega)))) (HT2.out.sh.later (hBW.trans (hX.mono (by omega)))) hs ht
 have hpr := fun (X : World) (hX : Below w.heap.size w X) (h1 : mayT s q1 = 0) (h2 : mayT t q2 = 0) (h3 : mmC s t = 0) => productT_any kb (HT1.out.later hX) (HT2.out.later hX) h1 h2 h3 HL1.out HL2.out hn hkb hn4
 have hpp9 := fun (h1 : mayT s q1 = 0) (h2 : mayT t q2 = 0) (h3 : mmC s t = 0) => mm_parts h1 h2 h3
 unfold gemC
 obtain ⟨m1, hmm1⟩ : ∃ m, mayT s q1 = m := ⟨_, rfl⟩
 obtain ⟨m2, hmm2⟩ : ∃ m, mayT t q2 = m := ⟨_, rfl⟩
 obtain ⟨m3, hmm3⟩ : ∃ m, mayT f q3 = m := ⟨_, rfl⟩
 obtain ⟨p, hpp⟩ : ∃ p, mmC s t = p := ⟨_, rfl⟩
 rw [hmm1] at hm1
 rw [hmm2] at hm2
 rw [hmm3] at hm3
 rw [hpp] at hp
 obtain ⟨BB, hBB⟩ : ∃ BB, (2 * n + 4 + 10) * 2 ^ kb = BB := ⟨_, rfl⟩
 have hnB : n ≤ BB := by rw [← hBB]; have := Nat.le_mul_of_pos_right (2 * n + 4 + 10) (show 0 < 2 ^ kb from Nat.two_pow_pos kb); omega
 obtain ⟨L, hL⟩ : ∃ L, mmV s t (q1.map Q3.rat) (q2.map Q3.rat) = L := ⟨_, rfl⟩
 obtain ⟨tt, htt⟩ : ∃ t', mmS s t = t' := ⟨_, rfl⟩
 rw [hBB, hmm1, hmm2, hpp, hL, htt] at hpr
 rw [hmm1, hmm2, hpp] at hpp9
 rw [hmm1, hmm2, hmm3, hpp, hL, hBB, htt]
 obtain ⟨c, hc⟩ : ∃ c, orL [m1, m2, m3, p] = c := ⟨_, rfl⟩
 have HC := Lib.hid hc
 have HPR := Lib.hid hpr
 have HPP := Lib.hid hpp9
 have HM3 := Lib.hid hmm3
 have HTT := Lib.hid htt
 have HLL := Lib.hid hL
 rw [hc]
 obtain ⟨g, hg⟩ : ∃ g, (if c = 0 then fitC f tt else c) = g := ⟨_, rfl⟩
 rw [hg]
 have HG := Lib.hid hg
 clear hg
 obtain ⟨Z, hZ⟩ : ∃ Z, q3.map Q3.rat = Z := ⟨_, rfl⟩
 have HZ := Lib.hid hZ
 rw [hZ]
 rw [hBB] at hn
 have mkS : ∀ X, Below W.heap.size W X → X.cell? ⟨w.heap.size, 0, none⟩ = some (.slice a1 s.length ca1) ∧ X.cell? ⟨w.heap.size, 1, none⟩ = some (.slice b1 q1.length cb1) ∧ X.cell? ⟨w.heap.size + 1, 0, none⟩ = some (.slice a2 t.length ca2) ∧ X.cell? ⟨w.heap.size + 1, 1, none⟩ = some (.slice b2 q2.length cb2) ∧ X.cell? ⟨w.heap.size + 1 + 1, 0, none⟩ = some (.slice a3 f.length ca3) ∧ X.cell? ⟨w.heap.size + 1 + 1, 1, none⟩ = some (.slice b3 q3.length cb3) ∧ Below W.heap.size W X := fun X h => by
  obtain ⟨x0, x1, _⟩ := (R0.later h).two
  obtain ⟨x2, x3, _⟩ := (R1.later h).two
  obtain ⟨x4, x5, _⟩ := (R2.later h).two
  exact ⟨x0, x1, x2, x3, x4, x5, h⟩
 have B0 : Below W.heap.size W W.drew := (Below.refl _ W).drew
 clear T1 T2 T3 hmm1 hmm2 hmm3 hpp hpp9 hL hc hl1 hl2 hl3 htt hBB hkb hpr hZ
 go_enter Tryz.func23, Tryz.ntmps23
 go_wp2_with fail
 (try rw [hW])
 clear hW
 refine wp_region_held (S := fun X => X.cell? ⟨w.heap.size, 0, none⟩ = some (.slice a1 s.length ca1) ∧ X.cell? ⟨w.heap.size, 1, none⟩ = some (.slice b1 q1.length cb1) ∧ X.cell? ⟨w.heap.size + 1, 0, none⟩ = some (.slice a2 t.length ca2) ∧ X.cell? ⟨w.heap.size + 1, 1, none⟩ = some (.slice b2 q2.length cb2) ∧ X.cell? ⟨w.heap.size + 1 + 1, 0, none⟩ = some (.slice a3 f.length ca3) ∧ X.cell? ⟨w.heap.size + 1 + 1, 1, none⟩ = some (.slice b3 q3.length cb3) ∧ Below W.heap.size W X) (by kernel_rfl) ?_
 have hHeld := mkS _ B0
 refine todo [0, 2, 4, 6, 7, 8, 9] ?_
 iterate 7
  refine todoH (v := ?_) rfl (by kernel_rfl) (fun _ _ _ h => h) (by assumption) (Or.inl ⟨by rfl, ?_⟩) ?_
  rotate_left
  · intro w hSw; (try dsimp only at hSw); go_simp; (try with_reducible rfl)
  try simp only [Act.put, nA, nB, nC, nD, nE, nF]
 refine todone ?_
 refine wpAnyH_ready (rs := [1]) (by kernel_rfl) (by simp) ?_
 refine AllReadyH.cons rfl (fun K hK => ?sh_1) AllReadyH.nil
 go_simp
 refine (hm1 _ B0).mono ?_
 rintro e y1 ⟨rfl, hy⟩
 have B1 : Below W.heap.size W y1 := B0.trans (hy.mono B0.size)
 have Dh1 := hy
 clear hy
 go_simp
 refine hK.out _ _ (mkS _ B1) (fun hHeld2 => ?mh_1)
 clear hK K hHeld
 have hHeld := hHeld2
 clear hHeld2
 try simp only [Act.put, nA, nB, nC, nD, nE, nF]
 refine wpAnyH_ready (rs := [3]) (by kernel_rfl) (by simp) ?_
 refine AllReadyH.cons rfl (fun K hK => ?sh_3) AllReadyH.nil
 go_simp
 refine (hm2 _ B1).mono ?_
 rintro e y2 ⟨rfl, hy⟩
 have B2 : Below W.heap.size W y2 := B1.trans (hy.mono B1.size)
 have Dh2 := hy
 clear hy
 go_simp
 refine hK.out _ _ (mkS _ B2) (fun hHeld2 => ?mh_3)
 clear hK K hHeld
 have hHeld := hHeld2
 clear hHeld2
 try simp only [Act.put, nA, nB, nC, nD, nE, nF]
 refine wpAnyH_ready (rs := [5]) (by kernel_rfl) (by simp) ?_
 refine AllReadyH.cons rfl (fun K hK => ?sh_5) AllReadyH.nil
 go_simp
 refine (hm3 _ B2).mono ?_
 rintro e y3 ⟨rfl, hy⟩
 have B3 : Below W.heap.size W y3 := B2.trans (hy.mono B2.size)
 have Dh3 := hy
 clear hy
 go_simp
 refine hK.out _ _ (mkS _ B3) (fun hHeld2 => ?mh_5)
 clear hK K hHeld
 have hHeld := hHeld2
 clear hHeld2
 try simp only [Act.put, nA, nB, nC, nD, nE, nF]
 refine wpAnyH_ready (rs := [10]) (by kernel_rfl) (by simp) ?_
 refine AllReadyH.cons rfl (fun K hK => ?sh_10) AllReadyH.nil
 go_simp
 refine (hp _ B3).mono ?_
 rintro e y4 ⟨rfl, hy⟩
 have B4 : Below W.heap.size W y4 := B3.trans (hy.mono B3.size)
 have Dh4 := hy
 clear hy
 go_simp
 refine hK.out _ _ (mkS _ B4) (fun hHeld2 => ?mh_10)
 clear hK K hHeld
 have hHeld := hHeld2
 clear hHeld2
 try simp only [Act.put, nA, nB, nC, nD, nE, nF]
 obtain ⟨y5, hh5⟩ : ∃ Y, y4.alloc (.cells #[.int .i64 m1, .int .i64 m2, .int .i64 m3, .int .i64 p] 29) = Y := ⟨_, rfl⟩
 have B5 : Below W.heap.size W y5 := by rw [← hh5]; exact B4.alloc B4.size _
 have Rh5 : Row y5 y4.heap.size 29 #[.int .i64 m1, .int .i64 m2, .int .i64 m3, .int .i64 p] := by rw [← hh5]; exact Row.new _ _ _
 refine wpAnyH_ready (rs := [11]) (by kernel_rfl) (by simp) ?_
 refine AllReadyH.cons rfl (fun K hK => ?sh_11) AllReadyH.nil
 go_simp
 (try rw [hh5])
 clear hh5
 refine hK.out _ _ (mkS _ B5) (fun hHeld2 => ?mh_11)
 clear hK K hHeld
 have hHeld := hHeld2
 clear hHeld2
 try simp only [Act.put, nA, nB, nC, nD, nE, nF]
 refine wpAnyH_ready (rs := [12]) (by kernel_rfl) (by simp) ?_
 refine AllReadyH.cons rfl (fun K hK => ?sh_12) AllReadyH.nil
 go_simp
 refine (or_any (xs := [m1, m2, m3, p]) (b := y4.heap.size) (fun k hk => by
  simp only [List.length_cons, List.length_nil] at hk
  by_cases h0 : k = 0
  · subst h0; exact Rh5.cell 0
  by_cases h1 : k = 1
  · subst h1; exact Rh5.cell 1
  by_cases h2 : k = 2
  · subst h2; exact Rh5.cell 2
  by_cases h3 : k = 3
  · subst h3; exact Rh5.cell 3
  omega) (by simp)).mono ?_
 rintro e yy ⟨rfl, rfl⟩
 go_simp
 rw [HC.out]
 refine hK.out _ _ (mkS _ B5) (fun hHeld2 => ?mh_12)
 clear hK K hHeld
 have hHeld := hHeld2
 clear hHeld2
 try simp only [Act.put, nA, nB, nC, nD, nE, nF]
 refine todo [13] ?_
 iterate 1
  refine todoH (v := ?_) rfl (by kernel_rfl) (fun _ _ _ h => h) (by assumption) (Or.inl ⟨by rfl, ?_⟩) ?_
  rotate_left
  · intro w hSw; (try dsimp only at hSw); go_simp; (try with_reducible rfl)
  try simp only [Act.put, nA, nB, nC, nD, nE, nF]
 refine todone ?_
 refine wpAnyH_done (by kernel_rfl) ?_ _
 (try dsimp only [Straight])
 have P3' := R3.later B5
 obtain ⟨x0, x1, x2, x3, x4, x5, _⟩ := mkS _ B5
 have s2 := B5.size
 have hB2 : Below w.heap.size w y5 := hBW.trans (B5.mono (by omega))
 by_cases h0 : c = 0
 · subst h0
   have hgf : fitC f tt = g := by have h := HG.out; rw [if_pos rfl] at h; exact h
   obtain ⟨k1, k2, k3, k4⟩ := orL_zero4 HC.out
   obtain ⟨l1, l2, okt, hLl⟩ : 1 ≤ s.length ∧ 2 ≤ t.length ∧ OkS tt ∧ L.length = cntF tt := by
    obtain ⟨R, b, C, e5, e6, hR, hb, hC, e1, e2, m1', m2', m3', ok3⟩ := HPP.out k1 k2 k4
    have e7 : tt = [(R : Int), (C : Int)] := by rw [← HTT.out, e5, e6]; rfl
    rw [e7]
    refine ⟨by rw [e5]; simp, by rw [e6]; simp, ok3, ?_⟩
    rw [← HLL.out, e5, e6]
    have hc := ok3.cnt
    have e8 : (cntF [(R : Int), (C : Int)] : Int) = ((R * C : Nat) : Int) := by rw [hc.1]; simp [prodS]
    have e9 : (mmV [(R : Int), (b : Int)] [(b : Int), (C : Int)] (q1.map Q3.rat) (q2.map Q3.rat)).length = R * C := by simp [mmV, mmF]
    omega
   have hrk := okt.rank
   have hsh := fun (X : World) (hX : Below w.heap.size w X) => by
    have h := shapeM_any (HT1.out.sh.later hX) (HT2.out.sh.later hX) l1 l2
    rw [HTT.out] at h
    exact h
   have hea := HPR.out
   have HPR2 := Lib.hid (fun (X : World) (hX : Below w.heap.size w X) => hea X hX k1 k2 k4)
   have HK3 := Lib.hid (HM3.out.trans k3)
   have HGF := Lib.hid hgf
   have mkT : ∀ X, Below y5.heap.size y5 X → X.cell? ⟨w.heap.size, 0, none⟩ = some (.slice a1 s.length ca1) ∧ X.cell? ⟨w.heap.size, 1, none⟩ = some (.slice b1 q1.length cb1) ∧ X.cell? ⟨w.heap.size + 1, 0, none⟩ = some (.slice a2 t.length ca2) ∧ X.cell? ⟨w.heap.size + 1, 1, none⟩ = some (.slice b2 q2.length cb2) ∧ X.cell? ⟨w.heap.size + 1 + 1, 0, none⟩ = some (.slice a3 f.length ca3) ∧ X.cell? ⟨w.heap.size + 1 + 1, 1, none⟩ = some (.slice b3 q3.length cb3) ∧ Below y5.heap.size y5 X := fun X h => by
    obtain ⟨x0, x1, x2, x3, x4, x5, _⟩ := mkS _ (B5.trans (h.mono B5.size))
    exact ⟨x0, x1, x2, x3, x4, x5, h⟩
   have D0 : Below y5.heap.size y5 y5.drew := (Below.refl _ y5).drew
   clear hea k1 k2 k3 k4 mkS hgf
   go_wp2_with fail
   refine wp_region_held (S := fun X => X.cell? ⟨w.heap.size, 0, none⟩ = some (.slice a1 s.length ca1) ∧ X.cell? ⟨w.heap.size, 1, none⟩ = some (.slice b1 q1.length cb1) ∧ X.cell? ⟨w.heap.size + 1, 0, none⟩ = some (.slice a2 t.length ca2) ∧ X.cell? ⟨w.heap.size + 1, 1, none⟩ = some (.slice b2 q2.length cb2) ∧ X.cell? ⟨w.heap.size + 1 + 1, 0, none⟩ = some (.slice a3 f.length ca3) ∧ X.cell? ⟨w.heap.size + 1 + 1, 1, none⟩ = some (.slice b3 q3.length cb3) ∧ Below y5.heap.size y5 X) (by kernel_rfl) ?_
   have hHeld := mkT _ D0
   refine todo [0, 1, 2, 3, 4, 5] ?_
   iterate 6
    refine todoH (v := ?_) rfl (by kernel_rfl) (fun _ _ _ h => h) (by assumption) (Or.inl ⟨by rfl, ?_⟩) ?_
    rotate_left
    · intro w hSw; (try dsimp only at hSw); go_simp; (try with_reducible rfl)
    try simp only [Act.put, nA, nB, nC, nD, nE, nF]
   refine todone ?_
   refine wpAnyH_ready (rs := [6]) (by kernel_rfl) (by simp) ?_
   refine AllReadyH.cons rfl (fun K hK => ?sr_6) AllReadyH.nil
   go_simp
   refine (hsh _ (hB2.trans (D0.mono hB2.size))).mono ?_
   rintro e z1 ⟨rs, rfl, RS, hy⟩
   have D1 : Below y5.heap.size y5 z1 := D0.trans (hy.mono D0.size)
   have Dr1 := hy
   clear hy
   obtain ⟨ds, cs, AS, ns⟩ := RS.arg2
   obtain rfl := AS.is
   clear RS
   go_simp
   refine hK.out _ _ (mkT _ D1) (fun hHeld2 => ?mr_6)
   clear hK K hHeld
   have hHeld := hHeld2
   clear hHeld2
   try simp only [Act.put, nA, nB, nC, nD, nE, nF]
   refine wpAnyH_ready (rs := [7]) (by kernel_rfl) (by simp) ?_
   refine AllReadyH.cons rfl (fun K hK => ?sr_7) AllReadyH.nil
   go_simp
   refine (fitsS_any (HT3.out.sh.later (hB2.trans (D1.mono hB2.size))) AS HT3.out.nila ns hf (by omega)).mono ?_
   rintro e z2 ⟨rfl, hy⟩
   have D2 : Below y5.heap.size y5 z2 := D1.trans (hy.mono D1.size)
   have Dr2 := hy
   clear hy
   rw [HGF.out]
   go_simp
   refine hK.out _ _ (mkT _ D2) (fun hHeld2 => ?mr_7)
   clear hK K hHeld
   have hHeld := hHeld2
   clear hHeld2
   try simp only [Act.put, nA, nB, nC, nD, nE, nF]
   refine todo [8] ?_
   iterate 1
    refine todoH (v := ?_) rfl (by kernel_rfl) (fun _ _ _ h => h) (by assumption) (Or.inl ⟨by rfl, ?_⟩) ?_
    rotate_left
    · intro w hSw; (try dsimp only at hSw); go_simp; (try with_reducible rfl)
    try simp only [Act.put, nA, nB, nC, nD, nE, nF]
   refine todone ?_
   refine wpAnyH_done (by kernel_rfl) ?_ _
   (try dsimp only [Straight])
   have Q3' := P3'.later D2
   have hB3 : Below w.heap.size w z2 := hB2.trans (D2.mono hB2.size)
   obtain ⟨x0', x1', x2', x3', x4', x5', _⟩ := mkT _ D2
   have s3 := D2.size
   clear x0 x1 x2 x3 x4 x5
   by_cases hg0 : g = 0
   · subst hg0
     have okf : OkS f := mayC_zero.1 (mayT_rank HK3.out)
     have hzc : q3.length = cntF f := by
      have h := (mayT_valid HK3.out).1
      rw [okf.count] at h
      have := okf.cnt
      omega
     have hZl : Z.length = q3.length := by rw [← HZ.out]; simp
     have mkG : ∀ X, Below z2.heap.size z2 X → X.cell? ⟨w.heap.size, 0, none⟩ = some (.slice a1 s.length ca1) ∧ X.cell? ⟨w.heap.size, 1, none⟩ = some (.slice b1 q1.length cb1) ∧ X.cell? ⟨w.heap.size + 1, 0, none⟩ = some (.slice a2 t.length ca2) ∧ X.cell? ⟨w.heap.size + 1, 1, none⟩ = some (.slice b2 q2.length cb2) ∧ X.cell? ⟨w.heap.size + 1 + 1, 0, none⟩ = some (.slice a3 f.length ca3) ∧ X.cell? ⟨w.heap.size + 1 + 1, 1, none⟩ = some (.slice b3 q3.length cb3) := fun X h => by
      obtain ⟨x0, x1, x2, x3, x4, x5, _⟩ := mkT _ (D2.trans (h.mono D2.size))
      exact ⟨x0, x1, x2, x3, x4, x5⟩
     have E0 : Below z2.heap.size z2 z2.drew := (Below.refl _ z2).drew
     have R0z := (R0.later B5).later D2
     have R1z := (R1.later B5).later D2
     have R2z := (R2.later B5).later D2
     have HZL := Lib.hid hZl
     have HZC := Lib.hid hzc
     have OKF := Lib.hid okf
     have OKT := Lib.hid okt
     have HLL2 := Lib.hid hLl
     clear hzc okf okt hLl hZl mkT x0' x1' x2' x3' x4' x5'
     go_wp2_with fail
     refine wp_region_L (S := fun X => X.cell? ⟨w.heap.size, 0, none⟩ = some (.slice a1 s.length ca1) ∧ X.cell? ⟨w.heap.size, 1, none⟩ = some (.slice b1 q1.length cb1) ∧ X.cell? ⟨w.heap.size + 1, 0, none⟩ = some (.slice a2 t.length ca2) ∧ X.cell? ⟨w.heap.size + 1, 1, none⟩ = some (.slice b2 q2.length cb2) ∧ X.cell? ⟨w.heap.size + 1 + 1, 0, none⟩ = some (.slice a3 f.length ca3) ∧ X.cell? ⟨w.heap.size + 1 + 1, 1, none⟩ = some (.slice b3 q3.length cb3)) (z := 6) (by kernel_rfl) (mkG _ E0) (fun hHeld => ?_)
     refine todo [0, 1, 3] ?_
     iterate 3
      refine todoL (v := ?_) rfl (by kernel_rfl) (fun _ _ _ h => h) (by assumption) (Or.inl ⟨by rfl, ?_⟩) ?_
      rotate_left
      · intro w hSw; (try dsimp only at hSw); go_simp; (try with_reducible rfl)
      try simp only [Act.put, nA, nB, nC, nD, nE, nF]
     refine todone ?_
     refine wpAnyL_one (i := 2) (by kernel_rfl) rfl (fun K hK => ?sbg_2)
     go_simp
     refine (HPR2.out _ (hB3.trans (E0.mono hB3.size))).mono ?_
     rintro e v1 ⟨r1, rfl, hT1, hb1⟩
     have E1 : Below z2.heap.size z2 v1 := E0.trans (hb1.mono (by simp))
     have F1 : Below w.heap.size w v1 := hB3.trans (E1.mono hB3.size)
     obtain ⟨a', b', ca', cb', rfl, RS, RO⟩ := hT1
     obtain ⟨_, AS', ns'⟩ := RS.at_
     obtain ⟨_, RA, _⟩ := RO.at_
     go_simp
     refine hK.out _ _ (fun _ => mkG _ E1) (fun hHeld2 => ?mbg_2)
     clear hK K hHeld
     have hHeld := hHeld2 (by decide)
     clear hHeld2
     try simp only [Act.put, nA, nB, nC, nD, nE, nF]
     have EA : RowA (fun Y v x => ArgQ Y v x BB) v1 (.slice b' L.length cb') L b' cb' := ⟨RA.is, RA.le, RA.els.imp id fun ⟨c1, c2, c3, c4, c5, c6⟩ => ⟨c1, c2, c3, c4, c5, c6.imp fun _ _ _ h => h.arg⟩⟩
     have EB : RowA (fun Y v x => ArgQ Y v x BB) v1 (.slice b3 Z.length cb3) Z b3 cb3 := by
      have h := (HT3.out.el.later F1 (fun _ _ _ k => k.later F1)).ratsQ HL3.out
      rw [HZ.out, ← HZL.out] at h
      exact ⟨h.is, h.le, h.els.imp id fun ⟨c1, c2, c3, c4, c5, c6⟩ => ⟨c1, c2, c3, c4, c5, c6.imp fun _ _ _ h => h.more10 hnB⟩⟩
     have hpl := plusQ_any AS' ns' EA (HT3.out.sh.later F1) HT3.out.nila EB OKT.out HLL2.out (by rw [HZL.out]; exact HZC.out) HGF.out (by omega)
     rw [HZL.out] at hpl
     refine wpAnyL_one (i := 4) (by kernel_rfl) rfl (fun K hK => ?sbg_4)
     go_simp
     refine (hpl).mono ?_
     rintro e v2 ⟨r2, rfl, hT2, hb2⟩
     have E2 : Below z2.heap.size z2 v2 := E1.trans (hb2.mono E1.size)
     have F2 : Below w.heap.size w v2 := hB3.trans (E2.mono hB3.size)
     obtain ⟨a5, b5, ca5, cb5, rfl, RS5, RO5⟩ := hT2
     have HR := Lib.hid RS5
     have HO := Lib.hid RO5
     clear RS5 RO5 hpl
     go_simp
     refine hK.out _ _ (fun _ => mkG _ E2) (fun hHeld2 => ?mbg_4)
     clear hK K hHeld
     have hHeld := hHeld2 (by decide)
     clear hHeld2
     try simp only [Act.put, nA, nB, nC, nD, nE, nF]
     have P5 := Q3'.later E2
     obtain ⟨u0, u1, g0, g1⟩ := P5.two
     have K0 := R0z.later E2
     have K1 := R1z.later E2
     have K2 := R2z.later E2
     obtain ⟨l, hl⟩ : ∃ l, (plusF tt f L Z).length = l := ⟨_, rfl⟩
     obtain ⟨l2, hl2⟩ : ∃ l, tt.length = l := ⟨_, rfl⟩
     have HL2' := Lib.hid hl
     have HL3' := Lib.hid hl2
     rw [hl, hl2]
     clear hl hl2
     have mkF : ((v2.setCell ⟨w.heap.size + 1 + 1 + 1, 0, none⟩ (.slice a5 l2 ca5)).setCell ⟨w.heap.size + 1 + 1 + 1, 1, none⟩ (.slice b5 l cb5)).cell? ⟨w.heap.size, 0, none⟩ = some (.slice a1 s.length ca1) ∧ ((v2.setCell ⟨w.heap.size + 1 + 1 + 1, 0, none⟩ (.slice a5 l2 ca5)).setCell ⟨w.heap.size + 1 + 1 + 1, 1, none⟩ (.slice b5 l cb5)).cell? ⟨w.heap.size, 1, none⟩ = some (.slice b1 q1.length cb1) ∧ ((v2.setCell ⟨w.heap.size + 1 + 1 + 1, 0, none⟩ (.slice a5 l2 ca5)).setCell ⟨w.heap.size + 1 + 1 + 1, 1, none⟩ (.slice b5 l cb5)).cell? ⟨w.heap.size + 1, 0, none⟩ = some (.slice a2 t.length ca2) ∧ ((v2.setCell ⟨w.heap.size + 1 + 1 + 1, 0, none⟩ (.slice a5 l2 ca5)).setCell ⟨w.heap.size + 1 + 1 + 1, 1, none⟩ (.slice b5 l cb5)).cell? ⟨w.heap.size + 1, 1, none⟩ = some (.slice b2 q2.length cb2) ∧ ((v2.setCell ⟨w.heap.size + 1 + 1 + 1, 0, none⟩ (.slice a5 l2 ca5)).setCell ⟨w.heap.size + 1 + 1 + 1, 1, none⟩ (.slice b5 l cb5)).cell? ⟨w.heap.size + 1 + 1, 0, none⟩ = some (.slice a3 f.length ca3) ∧ ((v2.setCell ⟨w.heap.size + 1 + 1 + 1, 0, none⟩ (.slice a5 l2 ca5)).setCell ⟨w.heap.size + 1 + 1 + 1, 1, none⟩ (.slice b5 l cb5)).cell? ⟨w.heap.size + 1 + 1, 1, none⟩ = some (.slice b3 q3.length cb3) := by
      obtain ⟨j0, j1, _, _⟩ := (((K0.far (p := ⟨w.heap.size + 1 + 1 + 1, 0, none⟩) (by show w.heap.size ≠ w.heap.size + 1 + 1 + 1; omega) (.slice a5 l2 ca5))).far (p := ⟨w.heap.size + 1 + 1 + 1, 1, none⟩) (by show w.heap.size ≠ w.heap.size + 1 + 1 + 1; omega) (.slice b5 l cb5)).two
      obtain ⟨j2, j3, _, _⟩ := (((K1.far (p := ⟨w.heap.size + 1 + 1 + 1, 0, none⟩) (by show w.heap.size + 1 ≠ w.heap.size + 1 + 1 + 1; omega) (.slice a5 l2 ca5))).far (p := ⟨w.heap.size + 1 + 1 + 1, 1, none⟩) (by show w.heap.size + 1 ≠ w.heap.size + 1 + 1 + 1; omega) (.slice b5 l cb5)).two
      obtain ⟨j4, j5, _, _⟩ := (((K2.far (p := ⟨w.heap.size + 1 + 1 + 1, 0, none⟩) (by show w.heap.size + 1 + 1 ≠ w.heap.size + 1 + 1 + 1; omega) (.slice a5 l2 ca5))).far (p := ⟨w.heap.size + 1 + 1 + 1, 1, none⟩) (by show w.heap.size + 1 + 1 ≠ w.heap.size + 1 + 1 + 1; omega) (.slice b5 l cb5)).two
      exact ⟨j0, j1, j2, j3, j4, j5⟩
     refine wpAnyL_one (i := 5) (by kernel_rfl) rfl (fun K hK => ?sbg_5)
     go_simp
     refine hK.out _ _ (fun _ => mkF) (fun hHeld2 => ?mbg_5)
     clear hK K hHeld
     have hHeld := hHeld2 (by decide)
     clear hHeld2
     try simp only [Act.put, nA, nB, nC, nD, nE, nF]
     refine wpAnyL_one (i := 6) (by kernel_rfl) rfl (fun K hK => ?sbg_6)
     go_simp
     refine hK.out _ _ (fun h => absurd rfl h) (fun _ => ?mbg_6)
     clear hK K
     try simp only [Act.put, nA, nB, nC, nD, nE, nF]
     refine wpAnyL_done (by kernel_rfl) ?_ _
     have P6 := P5.set2 (.slice a5 l2 ca5) (.slice b5 l cb5)
     obtain ⟨z0', z1', _, _⟩ := P6.two
     go_wp2
     refine bodyPost_ret (v := .tuple #[.agg #[.slice a5 l2 ca5, .slice b5 l cb5], .int .i64 0]) (by simp [results, Tryz.results23, go_sem, z0', z1']) rfl ⟨.inl ⟨rfl, _, rfl, ?_⟩, below_set2 F2 (by omega) _ _⟩
     have hR : ResT w.heap.size v2 (.agg #[.slice a5 l2 ca5, .slice b5 l cb5]) tt (plusF tt f L Z) (2 * BB + 10) := ResT.mono ⟨a5, b5, ca5, cb5, by rw [HL2'.out, HL3'.out], HR.out, HO.out⟩ F1.size
     exact hR.far P5 (by decide) (by decide) (by decide) (kept2 _ _)
   · have hne : (g != 0) = true := by simp [hg0]
     have H0 := Lib.hid hg0
     obtain ⟨u0, u1, g0, g1⟩ := Q3'.two
     clear hg0 mkT
     go_wp2_with fail
     have P4 := Q3'.set2 (.slice none 0 0) (.slice none 0 0)
     obtain ⟨z0, z1, _, _⟩ := P4.two
     refine bodyPost_ret (v := .tuple #[noTensor, .int .i64 g]) (by simp [results, Tryz.results23, go_sem, z0, z1, noTensor]) rfl ⟨.inr ⟨H0.out, rfl⟩, below_set2 hB3 (by omega) _ _⟩
 · have hne : (c != 0) = true := by simp [h0]
   have H0 := Lib.hid h0
   obtain ⟨u0, u1, g0, g1⟩ := P3'.two
   have hgc : c = g := by have h := HG.out; rw [if_neg h0] at h; exact h
   subst hgc
   clear h0 mkS
   go_wp2_with fail
   have P4 := P3'.set2 (.slice none 0 0) (.slice none 0 0)
   obtain ⟨z0, z1, _, _⟩ := P4.two
   refine bodyPost_ret (v := .tuple #[noTensor, .int .i64 c]) (by simp [results, Tryz.results23, go_sem, z0, z1, noTensor]) rfl ⟨.inr ⟨H0.out, rfl⟩, below_set2 hB2 (by omega) _ _⟩
end
section
open Go.RowKit
theorem sameL10 {s : List Int} {p q : List Q3} (h : p.map Q3.rat = q.map Q3.rat) : allBC (fun (p q : Q3) => decide (p.rat = q.rat)) s s p q = true :=
 allBC_yes rfl (by have := congrArg List.length h; simpa using this) fun i x y hx hy => by
  have h1 := congrArg (fun l => l[i]?) h
  simp only [List.getElem?_map, hx, hy, Option.map_some, Option.some.injEq] at h1
  exact decide_eq_true h1
theorem lensQ.more10 {qs : List Q3} {n m : Nat} (h : lensQ qs n) (hm : n ≤ m) : lensQ qs m := fun q hq => ⟨Nat.le_trans (h q hq).1 hm, Nat.le_trans (h q hq).2 hm⟩
theorem sameA10 {b1 b2 n m : Nat} {w : World} {u v : Value} {s t : List Int} {L M : List Rat} (h1 : ResT b1 w u s L n) (h2 : ResT b2 w v t M m) (hs : Ok10 s L) (est : s = t) (eLM : L = M) (hn : n ≤ 4000000) (hm : m ≤ 4000000) :
 Calls Tryz.prog 26 #[u, v] w fun e w' => e = .returned (.bool true) ∧ Below w.heap.size w w' := by
 subst est; subst eLM
 obtain ⟨f1, f2⟩ := hs.few
 obtain ⟨q1, a1, c1, ca1, cc1, T1, e1, l1, k1⟩ := h1.tens
 obtain ⟨q2, a2, c2, ca2, cc2, T2, e2, l2, k2⟩ := h2.tens
 have g1 : q1.length = L.length := by rw [← e1]; simp
 have g2 : q2.length = L.length := by rw [← e2]; simp
 have h := sameT7_any (n := max n m) T1 T2 (by omega) (by omega) (by omega) (by omega) (l1.more10 (by omega)) (l2.more10 (by omega)) (by omega)
 rwa [sameL10 (e1.trans e2.symm)] at h
end
section
open Go.RowKit
theorem fit_self10 {a : List Int} (h : OkS a) : fitC a a = 0 := fitC_ok (mayC_ok h) (mayC_ok h) fun j j1 j2 => ⟨by have := back_pos h j1 j2; omega, .inr rfl⟩
theorem fit_nil10 {a : List Int} (h : OkS a) : fitC [] a = 0 := fitC_ok (by decide) (mayC_ok h) fun j j1 j2 => by simp at j2; omega
theorem ResQ.more10 {base n m : Nat} {w : World} {v : Value} {x : Rat} (h : ResQ base w v x n) (hm : n ≤ m) : ResQ base w v x m := by
 obtain ⟨zs, ys, ad, bd, ca, cb, hv, A, B, h1, h2⟩ := h
 exact ⟨zs, ys, ad, bd, ca, cb, hv, A, B, by omega, by omega⟩
theorem ResT.more10 {base n m : Nat} {w : World} {v : Value} {s : List Int} {L : List Rat} (h : ResT base w v s L n) (hm : n ≤ m) : ResT base w v s L m := by
 obtain ⟨a, b, ca, cb, hv, h1, es, h2, h3⟩ := h
 exact ⟨a, b, ca, cb, hv, h1, es, h2, h3.imp fun v x _ h => h.more10 hm⟩
theorem cnt_two10 (a b : Nat) : cntF [(a : Int), (b : Int)] = a * b := by
 unfold cntF
 have : prodS [(a : Int), (b : Int)] = ((a * b : Nat) : Int) := by
  simp only [prodS, Int.mul_one]
  exact (Int.natCast_mul a b).symm
 rw [this]
 rfl
theorem Few10.mat {a b : Nat} (h : Few10 a b) {L : List Rat} (hL : L.length = a * b) : Ok10 [(a : Int), (b : Int)] L := ⟨h.ok, by rw [cnt_two10]; exact hL⟩
theorem mmC_few10 {a b c : Nat} (h : Few10 a c) : mmC [(a : Int), (b : Int)] [(b : Int), (c : Int)] = 0 := by
 unfold mmC
 rw [if_pos ⟨rfl, rfl, rfl⟩]
 exact mayC_ok h.ok
theorem mmR10 {b1 b2 n a b c : Nat} {w : World} {u v : Value} {L M : List Rat} (h1 : ResT b1 w u [(a : Int), (b : Int)] L n) (h2 : ResT b2 w v [(b : Int), (c : Int)] M n) (f1 : Few10 a b) (f2 : Few10 b c) (hL : L.length = a * b) (hM : M.length = b * c) (hn : n ≤ 200000) :
 Calls Tryz.prog 20 #[u, v] w fun e w' => Go10 w.heap.size w' e [(a : Int), (c : Int)] (mmF a b c L M) ((2 * n + 4 + 10) * 2 ^ 5) ∧ Below w.heap.size w w' := by
 obtain ⟨q1, a1, c1, ca1, cb1, T1, e1, l1, k1⟩ := h1.tens
 obtain ⟨q2, a2, c2, ca2, cb2, T2, e2, l2, k2⟩ := h2.tens
 have g1 : q1.length = L.length := by rw [← e1]; simp
 have g2 : q2.length = M.length := by rw [← e2]; simp
 have p1 := f1.prod
 have p2 := f2.prod
 have h := matMul_any 5 (n := n) T1 T2 (by simp) (by simp) l1 l2 (by omega) (by omega) (by omega) (by omega) (by omega)
 rw [(f1.mat hL).may e1 k1, (f2.mat hM).may e2 k2, mmC_few10 ⟨f1.a1, f1.a5, f2.b1, f2.b5⟩, e1, e2] at h
 exact h.mono fun e w' ⟨h, hb⟩ => ⟨h.go10 (c := 0) rfl, hb⟩
theorem gemR10 {b1 b2 b3 n a b c : Nat} {w : World} {u v z : Value} {f : List Int} {L M Z : List Rat} (h1 : ResT b1 w u [(a : Int), (b : Int)] L n) (h2 : ResT b2 w v [(b : Int), (c : Int)] M n) (h3 : ResT b3 w z f Z n) (f1 : Few10 a b) (f2 : Few10 b c) (hL : L.length = a * b) (hM : M.length = b * c) (hZ : Ok10 f Z) (hf : fitC f [(a : Int), (c : Int)] = 0) (hn : n ≤ 200000) :
 Calls Tryz.prog 23 #[u, v, z] w fun e w' => Go10 w.heap.size w' e [(a : Int), (c : Int)] (plusF [(a : Int), (c : Int)] f (mmF a b c L M) Z) (2 * ((2 * n + 4 + 10) * 2 ^ 5) + 10) ∧ Below w.heap.size w w' := by
 obtain ⟨q1, a1, c1, ca1, cb1, T1, e1, l1, k1⟩ := h1.tens
 obtain ⟨q2, a2, c2, ca2, cb2, T2, e2, l2, k2⟩ := h2.tens
 obtain ⟨q3, a3, c3, ca3, cb3, T3, e3, l3, k3⟩ := h3.tens
 have g1 : q1.length = L.length := by rw [← e1]; simp
 have g2 : q2.length = M.length := by rw [← e2]; simp
 have g3 : q3.length = Z.length := by rw [← e3]; simp
 have p1 := f1.prod
 have p2 := f2.prod
 obtain ⟨r1, r2⟩ := hZ.few
 have h := gemm_any 5 (n := n) T1 T2 T3 (by simp) (by simp) (by omega) l1 l2 l3 (by omega) (by omega) (by omega) (by omega) (by omega) (by omega)
 have hc : gemC [(a : Int), (b : Int)] [(b : Int), (c : Int)] f q1 q2 q3 = 0 := by
  unfold gemC
  rw [(f1.mat hL).may e1 k1, (f2.mat hM).may e2 k2, hZ.may e3 k3, mmC_few10 ⟨f1.a1, f1.a5, f2.b1, f2.b5⟩]
  exact hf
 rw [hc, e1, e2, e3] at h
 exact h.mono fun e w' ⟨h, hb⟩ => ⟨h.go10 (c := 0) rfl, hb⟩
theorem addR10 {b1 b2 n : Nat} {w : World} {u v : Value} {s : List Int} {L M : List Rat} (h1 : ResT b1 w u s L n) (h2 : ResT b2 w v s M n) (hs : Ok10 s L) (hl : M.length = L.length) (hn : n ≤ 900000) :
 Calls Tryz.prog 30 #[u, v] w fun e w' => Go10 w.heap.size w' e s (List.zipWith (fun x y => x + y) L M) (2 * n + 10) ∧ Below w.heap.size w w' := by
 obtain ⟨q1, a1, c1, ca1, cb1, T1, e1, l1, k1⟩ := h1.tens
 obtain ⟨q2, a2, c2, ca2, cb2, T2, e2, l2, k2⟩ := h2.tens
 obtain ⟨r1, r2⟩ := hs.few
 have g1 : q1.length = L.length := by rw [← e1]; simp
 have g2 : q2.length = M.length := by rw [← e2]; simp
 have h := addP_any (n := n) T1 T2 (by omega) (by omega) (by omega) (by omega) l1 l2 (by omega)
 have hm : Ok10 s M := ⟨hs.ok, hl.trans hs.len⟩
 rw [two_zero (hs.may e1 k1) (hm.may e2 k2) zipOk_true, zipQ_eq e1 e2] at h
 exact h.mono fun e w' ⟨h, hb⟩ => ⟨h.go10 (c := 0) rfl, hb⟩
end
section
open Go.RowKit
theorem intQ_one10 : intQ 1 = 1 := by decide +kernel
def oneK (n k : Nat) : List Rat := (List.range k).map fun p => if p / n = p % n then (1 : Rat) else 0
theorem oneK_len (n k : Nat) : (oneK n k).length = k := by unfold oneK; simp
theorem oneK_next (n k : Nat) {c : Int} (h : c = if k / n = k % n then 1 else 0) : oneK n (k + 1) = oneK n k ++ [intQ c] := by
 unfold oneK
 rw [List.range_succ, List.map_append, List.map_cons, List.map_nil, h]
 split
 · rw [intQ_one10]
 · rw [intQ_zero]
theorem oneK_all (n : Nat) : oneK n (n * n) = oneF n := rfl
theorem one_tens10 {base g n : Nat} {w : World} {v0 v1 v2 : Value} {x : Rat} (R : Row w g 54 #[v0, v1, v2]) (hg : base ≤ g) (h : ResQ base w (.agg #[v0, v1, v2]) x n) : ResT base w (.agg #[.slice none 0 0, .slice (some ⟨g, 0, none⟩) 1 1]) [] [x] n := by
 refine ⟨none, some ⟨g, 0, none⟩, 0, 1, rfl, ⟨World.ownsRow_nil _ _ _ _, Wid.nil⟩, [⟨v0, v1, v2⟩], ⟨rfl, .inr ⟨g, 1, #[v0, v1, v2], rfl, hg, R, Nat.le_refl _, by unfold maxLen; omega, by simp, by simp [flat3]⟩⟩, rfl, fun i e y h1 h2 => ?_⟩
 cases i with
 | zero =>
  simp only [List.getElem?_cons_zero, Option.some.injEq] at h1 h2
  subst h1
  subst h2
  exact h
 | succ i => simp at h1
theorem foldOne_walk {A B : Int} {qs : List Q3} {b : Option Addr} {cb : Nat} (w : World) (E : RowA RawQ w (.slice b qs.length cb) qs b cb) (lq : qs.length ≤ 17592186044416) :
 Calls Tryz.prog 9 #[.int .i64 A, .int .i64 B, .slice b qs.length cb] w fun e W' => e = .returned (.bool true) ∧ Below w.heap.size w W' := by
 obtain ⟨i0, hi, hz0, hz1, hz2⟩ := info_parts infoQ
 have HE := Lib.hid E
 clear E
 by_cases g0 : A < 1
 case pos =>
  go_enter Tryz.func9, Tryz.ntmps9
  go_wp2_with fail
  refine (known10_any _).mono ?_
  rintro e y9 ⟨rfl, hb9⟩
  go_wp2_with fail
  go_ret
  exact ⟨rfl, hb9⟩
 case neg =>
  by_cases g1 : A > 5
  case pos =>
   go_enter Tryz.func9, Tryz.ntmps9
   go_wp2_with fail
   refine (known10_any _).mono ?_
   rintro e y9 ⟨rfl, hb9⟩
   go_wp2_with fail
   go_ret
   exact ⟨rfl, hb9⟩
  case neg =>
   by_cases g2 : B < 1
   case pos =>
    go_enter Tryz.func9, Tryz.ntmps9
    go_wp2_with fail
    refine (known10_any _).mono ?_
    rintro e y9 ⟨rfl, hb9⟩
    go_wp2_with fail
    go_ret
    exact ⟨rfl, hb9⟩
   case neg =>
    by_cases g3 : B > 5
    case pos =>
     go_enter Tryz.func9, Tryz.ntmps9
     go_wp2_with fail
     refine (known10_any _).mono ?_
     rintro e y9 ⟨rfl, hb9⟩
     go_wp2_with fail
     go_ret
     exact ⟨rfl, hb9⟩
    case neg =>
     obtain ⟨t, ht⟩ : ∃ t, short10 qs = t := ⟨_, rfl⟩
     have hsh := fun X h => short10_any (w := X) (HE.out.later (w' := X) h (fun _ _ _ k => k.later h)) lq
     rw [ht] at hsh
     have HT := Lib.hid ht
     clear ht
     cases t with
     | false =>
      go_enter Tryz.func9, Tryz.ntmps9
      go_wp2_with fail
      refine (hsh _ (Below.refl _ _)).mono ?_
      rintro e y1 ⟨rfl, hb1⟩
      go_wp2_with fail
      refine (known10_any _).mono ?_
      rintro e y9 ⟨rfl, hb9⟩
      go_wp2_with fail
      go_ret
      exact ⟨rfl, hb1.trans (hb9.mono hb1.size)⟩
     | true =>
      obtain ⟨hl3, h0, h40⟩ := short10_true HT.out
      have HL := Lib.hid hl3
      obtain ⟨m, rfl⟩ : ∃ m : Nat, A = (m : Int) := ⟨A.toNat, by omega⟩
      obtain ⟨n, rfl⟩ : ∃ n : Nat, B = (n : Int) := ⟨B.toNat, by omega⟩
      have f1 := Lib.hid (Few10.mk (a := m) (b := n) (by omega) (by omega) (by omega) (by omega))
      have f2 := Lib.hid (Few10.mk (a := n) (b := n) (by omega) (by omega) (by omega) (by omega))
      have hm5 : m ≤ 5 := by omega
      have hn5 : n ≤ 5 := by omega
      have hn1 : 1 ≤ n := by omega
      obtain ⟨X0, hX0⟩ : ∃ X, turn10 qs (m * n) = X := ⟨_, rfl⟩
      have hXl : X0.length = m * n := by rw [← hX0]; exact turn10_len _ _
      have HX0 := Lib.hid hX0
      have HXl := Lib.hid hXl
      obtain ⟨N, hN⟩ : ∃ N, n * n = N := ⟨_, rfl⟩
      have hmul : (n : Int) * (n : Int) = (N : Int) := by rw [← hN]; exact (Int.natCast_mul n n).symm
      have hN25 : N ≤ 25 := by rw [← hN]; exact Nat.mul_le_mul hn5 hn5
      have HN := Lib.hid hN
      clear hl3 hX0 hXl hN
      go_enter Tryz.func9, Tryz.ntmps9
      go_wp2_with fail
      refine (hsh _ (Below.refl _ _)).mono ?_
      rintro e y1 ⟨rfl, hb1⟩
      have HB1 := Lib.hid hb1
      go_wp2_with fail
      refine (matrix10_any (HE.out.later HB1.out (fun _ _ _ k => k.later HB1.out)) HL.out h0 h40 hm5 hn5).mono ?_
      rintro e z ⟨r, rfl, TX, hy⟩
      rw [HX0.out] at TX
      obtain ⟨ra, rb, rca, rcb, rfl, _⟩ := id TX
      clear hsh
      obtain ⟨y2, hV⟩ : ∃ X, z.alloc (.cells #[.slice ra 2 rca, .slice rb X0.length rcb] 26) = X := ⟨_, rfl⟩
      have bz : Below z.heap.size z y2 := by rw [← hV]; exact (Below.refl _ _).alloc (Nat.le_refl _) _
      have NX : Row y2 z.heap.size 26 #[.slice ra 2 rca, .slice rb X0.length rcb] := by rw [← hV]; exact Row.new _ _ _
      have hyz := hy.trans (bz.mono hy.size)
      have hb2 : Below w.heap.size w y2 := hb1.trans (hyz.mono hb1.size)
      replace TX := Lib.hid (TX.later bz)
      have HB2 := Lib.hid hb2
      obtain ⟨G, hG⟩ : ∃ G, y2.heap.size = G := ⟨_, rfl⟩
      obtain ⟨W2, hW2⟩ : ∃ W, y2.alloc (.cells #[.int .i64 (n : Int), .int .i64 (n : Int)] 3) = W := ⟨_, rfl⟩
      obtain ⟨W3, hW3⟩ : ∃ W, W2.alloc (.cells #[.slice (some ⟨G, 0, none⟩) 2 2, .slice none 0 0] 26) = W := ⟨_, rfl⟩
      have s2 : W2.heap.size = G + 1 := by rw [← hW2, World.size_alloc, hG]
      have b12 : Below y2.heap.size y2 W2 := by rw [← hW2]; exact (Below.refl _ _).alloc (Nat.le_refl _) _
      have b23 : Below W2.heap.size W2 W3 := by rw [← hW3]; exact (Below.refl _ _).alloc (Nat.le_refl _) _
      have b13 : Below y2.heap.size y2 W3 := b12.trans (b23.mono b12.size)
      have R1 : Row W3 (G + 1) 26 #[.slice (some ⟨G, 0, none⟩) 2 2, .slice none 0 0] := by rw [← s2, ← hW3]; exact Row.new _ _ _
      have rs : ResS G W3 (.slice (some ⟨G, 0, none⟩) 2 2) [(n : Int), (n : Int)] := by
       have h : ResS y2.heap.size W2 (.slice (some ⟨y2.heap.size, 0, none⟩) 2 2) [(n : Int), (n : Int)] := by
        rw [← hW2]
        exact ⟨⟨rfl, .inr ⟨y2.heap.size, 2, #[.int .i64 (n : Int), .int .i64 (n : Int)], rfl, Nat.le_refl _, heap_alloc_new y2 _, Nat.le_refl _, by unfold maxLen; omega, by simp, by simp⟩⟩, wid2_10 (by omega) (by omega)⟩
       rw [hG] at h
       exact h.later b23
      have H1 := Lib.hid R1
      have HS := Lib.hid rs
      have hbw := b13
      rw [hG] at hbw
      have HBW := Lib.hid hbw
      have HG := Lib.hid hG
      have HNX := Lib.hid NX
      have hW2' := Lib.hid hW2
      have hW3' := Lib.hid hW3
      have s2' := Lib.hid s2
      clear hW2 hW3 s2 hG NX R1 rs b12 b23 b13 hbw bz hyz hy hb1 hb2
      go_wp2_with fail
      have hG := HG.out
      have hW2 := hW2'.out
      have hW3 := hW3'.out
      have s2 := s2'.out
      (try simp only [hV, hG, hW2, s2, hW3])
      clear hW2 hW3 s2 hG hV
      go_loopw [9] (fun i wr => ∃ (k : Nat) (v : Value), i = .int .i64 (k : Int) ∧ k ≤ N ∧ Row wr (G + 1) 26 #[.slice (some ⟨G, 0, none⟩) 2 2, v] ∧ ResS G wr (.slice (some ⟨G, 0, none⟩) 2 2) [(n : Int), (n : Int)] ∧ RowO G 54 (fun W v x => ResQ G W v x 6) wr v (oneK n k) ∧ Below G y2 wr) (fun i _ => N - (intOf i).toNat)
      case atStart => exact ⟨0, _, rfl, Nat.zero_le _, H1.out, HS.out, RowO.nil _ _ _ _, HBW.out⟩
      case round =>
       obtain ⟨k, v, rfl, hk, rg, rs, ⟨es, hown, hall⟩, hb⟩ := hrel
       have hsz := hb.size
       rw [HG.out] at hsz
       have hle : es.length = k := by rw [hall.1, oneK_len]
       have HR := Lib.hid rg
       have HRS := Lib.hid rs
       have HOWN := Lib.hid hown
       have HALL := Lib.hid hall
       have HLE := Lib.hid hle
       have HB := Lib.hid hb
       clear rg rs hown hall hle hb
       by_cases hlt : k < N
       · have hltI : (k : Int) < (N : Int) := by omega
         obtain ⟨i, hi'⟩ : ∃ i, k / n = i := ⟨_, rfl⟩
         obtain ⟨j, hj⟩ : ∃ j, k % n = j := ⟨_, rfl⟩
         have hd : Int.tdiv (k : Int) (n : Int) = (i : Int) := by rw [Int.tdiv_eq_ediv_of_nonneg (by omega), ← hi']; exact (Int.natCast_ediv k n).symm
         have hm : Int.tmod (k : Int) (n : Int) = (j : Int) := by rw [Int.tmod_eq_emod_of_nonneg (by omega), ← hj]; exact (Int.natCast_emod k n).symm
         have hi25 : i ≤ 25 := by rw [← hi']; exact Nat.le_trans (Nat.div_le_self _ _) (by omega)
         have hiI : (i : Int) ≤ 25 := by omega
         have hi0 : (0 : Int) ≤ (i : Int) := by omega
         have hiw : IntKind.i64.wrap (i : Int) = (i : Int) := IntWalk.i64_in _ (by omega)
         have hnN : ¬ n = 0 := by omega
         have hnI : ¬ (n : Int) = 0 := by omega
         obtain ⟨c, hc⟩ : ∃ c : Int, (if k / n = k % n then 1 else 0) = c := ⟨_, rfl⟩
         have HC := Lib.hid hc
         have hc01 : 0 ≤ c ∧ c ≤ 1 := by rw [← hc]; split <;> decide
         have HC01 := Lib.hid hc01
         obtain ⟨tt, htt⟩ : ∃ tt, decide (i = j) = tt := ⟨_, rfl⟩
         rw [hi', hj] at hc
         have hct : c = if tt = true then 1 else 0 := by rw [← hc, ← htt]; simp only [decide_eq_true_eq]
         have HCT := Lib.hid hct
         have ht1 : decide ((i : Int) = (j : Int)) = tt := by rw [← htt]; exact decide_eq_decide.2 (by omega)
         have ht2 : ((i : Int) == (j : Int)) = tt := by rw [← ht1]; rfl
         clear hi' hj hc hc01 hct
         go_wp2_with fail
         refine wp_region_held_drew (S := fun X => Below wr.heap.size wr X) (by kernel_rfl) ((Below.refl _ _).drew) (fun hHeld => ?_)
         refine todo [0, 1, 2, 3, 4, 5, 6] ?_
         iterate 7
          refine todoH (v := ?_) rfl (by kernel_rfl) (fun _ _ _ h => h) (by assumption) (Or.inl ⟨by rfl, ?_⟩) ?_
          rotate_left
          · intro w hSw; (try dsimp only at hSw); go_simp; (try with_reducible rfl)
          try simp only [Act.put, nA, nB, nC, nD, nE, nF]
         refine todone ?_
         refine wpAnyH_done (by kernel_rfl) ?_ _
         (try dsimp only [Straight])
         clear htt ht1 ht2
         go_upto_if 60 with fail
         go_cut [10] (fun s10 wx => s10 = .int .i64 c ∧ Below wr.heap.size wr wx)
         case first =>
          have hct := HCT.out
          cases tt
          · rw [if_neg (by decide)] at hct
            go_wp2_with fail
            go_meet
            exact ⟨by rw [hct], hHeld⟩
          · rw [if_pos rfl] at hct
            go_wp2_with fail
            go_meet
            exact ⟨by rw [hct], hHeld⟩
         case rest =>
          obtain ⟨rfl, hbc⟩ := hcut
          obtain ⟨y, hyc⟩ : ∃ y, wc = y := ⟨_, rfl⟩
          rw [hyc] at hbc ⊢
          clear hyc
          clear hd hm hiI hi0 hiw hnN hnI hi25 hmul
          have hb : Below G y2 y := HB.out.trans (hbc.mono hsz)
          have rg := HR.out.later hbc
          have rs := HRS.out.later hbc
          have hown := HOWN.out.later hbc
          have hall : AllE (fun v x => ResQ G y v x 6) es (oneK n k) := HALL.out.imp fun u x _ h => h.later hbc
          have hszy : G ≤ y.heap.size := Nat.le_trans hsz hbc.size
          have cg1 := rg.cell 1
          obtain ⟨r, hrv, hrb, hrne, hrA⟩ := hown.hits10 hszy
          have ng := hrne _ _ _ rg (by decide)
          have mkA : ∀ Y, Kept r y Y → Y.cell? ⟨G + 1, 1, none⟩ = some v ∧ Kept r y Y := fun Y h => ⟨h.cell cg1 ng, h⟩
          have k0 : Kept r y y.drew := (Kept.refl r y).drew
          have hk25 : es.length ≤ 25 := by rw [HLE.out]; omega
          have hc01 := HC01.out
          clear hown hall
          replace HOWN := Lib.hid (HOWN.out.later hbc)
          have hall : AllE (fun v x => ResQ G y v x 6) es (oneK n k) := HALL.out.imp fun u x _ h => h.later hbc
          replace HALL := Lib.hid hall
          clear hall
          go_wp2_with fail
          refine wp_region_L (S := fun Y => Y.cell? ⟨G + 1, 1, none⟩ = some v ∧ Kept r y Y) (z := 8) (by kernel_rfl) (mkA _ k0) (fun hHeld => ?_)
          have bd : Below y.heap.size y y.drew := (Below.refl _ _).drew
          refine todo [0, 1, 2] ?_
          iterate 3
           refine todoL (v := ?_) rfl (by kernel_rfl) (fun _ _ _ h => h) (by assumption) (Or.inl ⟨by rfl, ?_⟩) ?_
           rotate_left
           · intro w hSw; (try dsimp only at hSw); go_simp; (try with_reducible rfl)
           try simp only [Act.put, nA, nB, nC, nD, nE, nF]
          refine todone ?_
          refine wpAnyL_one (i := 3) (by kernel_rfl) rfl (fun K hK => ?sbm_3)
          go_simp
          refine (intRR_any c _ (by omega) (by omega)).mono ?_
          rintro e w5 ⟨r5, rfl, q5, hb5⟩
          have b5 : Below y.heap.size y w5 := bd.trans (hb5.mono bd.size)
          have k5 : Kept r y w5 := (Kept.refl r y).below b5
          have Q5 := Lib.hid q5
          clear q5
          go_simp
          refine hK.out _ _ (fun _ => mkA _ k5) (fun hHeld2 => ?mbm_3)
          clear hK K hHeld
          have hHeld := hHeld2 (by decide)
          clear hHeld2
          try simp only [Act.put, nA, nB, nC, nD, nE, nF]
          refine wpAnyL_one (i := 4) (by kernel_rfl) rfl (fun K hK => ?sbm_4)
          go_simp
          refine (backR_any Q5.out.arg (by decide)).mono ?_
          rintro e w6 ⟨r6, rfl, q6, hb6⟩
          have b6 : Below y.heap.size y w6 := b5.trans (hb6.mono b5.size)
          have k6 : Kept r y w6 := (Kept.refl r y).below b6
          have z6 := b6.size
          have bw6 : Below G y2 w6 := hb.trans (b6.mono hszy)
          have Q6 := Lib.hid q6
          obtain ⟨m5, p1, p2, p3, p4, p5, p6, rfl⟩ := q6.shape
          clear q6
          go_simp
          refine hK.out _ _ (fun _ => mkA _ k6) (fun hHeld2 => ?mbm_4)
          clear hK K hHeld
          have hHeld := hHeld2 (by decide)
          clear hHeld2
          try simp only [Act.put, nA, nB, nC, nD, nE, nF]
          refine wpAnyL_one (i := 5) (by kernel_rfl) rfl (fun K hK => ?sbm_5)
          go_simp
          refine hK.out _ _ (fun _ => mkA _ (k6.alloc _)) (fun hHeld2 => ?mbm_5)
          clear hK K hHeld
          have hHeld := hHeld2 (by decide)
          clear hHeld2
          try simp only [Act.put, nA, nB, nC, nD, nE, nF]
          refine wpAnyL_one (i := 6) (by kernel_rfl) rfl (fun K hK => ?sbm_6)
          refine step_append_lies _ rfl _ _ 24 rfl G 54 i0 _ 3 56 Tryz.underlying24 hi hz0 hz1 hz2 rfl (by decide) _ es.length (flat3 es) rfl ((HOWN.out.later b6).later ((Below.refl _ _).alloc (Nat.le_refl _) _)) ⟨w6.heap.size, 0, none⟩ 1 1 [.bool m5, .slice p1 p2 p3, .slice p4 p5 p6] rfl rfl (cell_three_new _ _ _ _ _) (by simp [Value.oneCell']) (by omega) (by unfold maxLen; omega) (by omega) (by simp; omega) _ rfl ?_
          intro g7 cp w7 hown' hgrow hg' hlt'
          have hk7 : Kept r y w7 := (k6.alloc _).grown hgrow hrv
          refine hK.out _ _ (fun _ => mkA _ hk7) (fun hHeld2 => ?mbm_6)
          clear hK K hHeld
          have hHeld := hHeld2 (by decide)
          clear hHeld2
          try simp only [Act.put, nA, nB, nC, nD, nE, nF]
          refine todo [7] ?_
          iterate 1
           refine todoL (v := ?_) rfl (by kernel_rfl) (fun _ _ _ h => h) (by assumption) (Or.inl ⟨by rfl, ?_⟩) ?_
           rotate_left
           · intro w hSw; (try dsimp only at hSw); go_simp; (try with_reducible rfl)
           try simp only [Act.put, nA, nB, nC, nD, nE, nF]
          refine todone ?_
          have R7 : Row w7 (G + 1) 26 #[.slice (some ⟨G, 0, none⟩) 2 2, v] := rg.kept hk7 ng
          have f7 := R7.free 1
          have c7 := R7.cell 1
          refine wpAnyL_one (i := 8) (by kernel_rfl) rfl (fun K hK => ?sbm_8)
          go_simp
          refine hK.out _ _ (fun h => absurd rfl h) (fun _ => ?mbm_8)
          clear hK K
          try simp only [Act.put, nA, nB, nC, nD, nE, nF]
          refine wpAnyL_done (by kernel_rfl) ?_ _
          go_wp2
          go_roundw
          case rel =>
           have Q6' : ResQ G w6 (E3.agg ⟨.bool m5, .slice p1 p2 p3, .slice p4 p5 p6⟩) (intQ c) 6 := ResQ.mono Q6.out (by have := b5.size; omega)
           obtain ⟨hrow7, hb7⟩ := pushE (P := fun Y v x => ResQ G Y v x 6) (e := ⟨.bool m5, .slice p1 p2 p3, .slice p4 p5 p6⟩) (base := G) (w := y2) (wr := w6) bw6 (by omega) (HOWN.out.later b6) (HALL.out.imp fun u x _ h => h.later b6) Q6' (fun u y h => h.apart (HOWN.out.later b6) hgrow (by decide)) hown' hgrow
           have rs7 : ResS G w7 (.slice (some ⟨G, 0, none⟩) 2 2) [(n : Int), (n : Int)] := ResS.apart (HOWN.out.later b6) hgrow (by decide) (rs.later b6)
           refine ⟨k + 1, _, by go_num, by omega, R7.set21 _, rs7.far R7 (by decide) (kept1 _), ?_, hb7.setCell (by show G ≤ G + 1; omega) _⟩
           rw [oneK_next n k HC.out.symm]
           exact hrow7.far R7 (by decide) (kept1 _) (fun u y h => h.far R7 (by decide) (kept1 _))
          case measure => simp [intOf]; omega
       · obtain rfl : k = N := by omega
         have hltI : ¬ (k : Int) < (k : Int) := by omega
         have hown := HOWN.out
         obtain ⟨av, cv, rfl⟩ := ownT_slice hown
         have hbr := HB.out
         rw [← HG.out] at hbr
         have TO : ResT G wr (.agg #[.slice (some ⟨G, 0, none⟩) 2 2, .slice av es.length cv]) [(n : Int), (n : Int)] (oneF n) 6 := by
          have h1 := HLE.out
          have h2 := HALL.out
          have h3 := HRS.out
          rw [← oneK_all, HN.out]
          exact ⟨_, av, 2, cv, by rw [oneK_len, h1]; rfl, h3, by rw [oneK_len, ← h1]; exact ⟨es, hown, by rw [h1]; exact h2⟩⟩
         replace TO := Lib.hid TO
         have T0 := Lib.hid (TX.out.later hbr)
         have R0 := HNX.out.later hbr
         have R1 := HR.out
         have hb0 : Below w.heap.size w wr := HB2.out.trans (hbr.mono HB2.out.size)
         have ok0 := Lib.hid (f1.out.mat HXl.out)
         have hOl : (oneF n).length = n * n := by rw [← oneK_all, oneK_len]
         have HOl := Lib.hid hOl
         obtain ⟨OF, hOF⟩ : ∃ O, oneF n = O := ⟨_, rfl⟩
         rw [hOF] at TO HOl
         have HOF := Lib.hid hOF
         have hMM : mmF m n n X0 OF = X0 := by rw [← hOF]; exact mmF_one HXl.out
         have HMM := Lib.hid hMM
         obtain ⟨S2, hS2⟩ : ∃ S, List.zipWith (fun x y => x + y) X0 X0 = S := ⟨_, rfl⟩
         have HS2 := Lib.hid hS2
         have ok2 : Ok10 [(m : Int), (n : Int)] S2 := f1.out.mat (by rw [← hS2, List.length_zipWith, Nat.min_self]; exact HXl.out)
         have OK2 := Lib.hid ok2
         clear hown hOl hOF hMM hS2 hsz hbr hlt hk ok2
         have B0 : Below wr.heap.size wr wr := Below.refl _ _
         obtain ⟨xc0, xc1, _, _⟩ := R0.two
         obtain ⟨oc0, oc1, _, _⟩ := R1.two
         go_wp2_with fail
         refine (mmR10 T0.out (TO.out.more10 (by decide)) f1.out f2.out HXl.out HOl.out (by decide)).mono ?_
         rintro e zP ⟨hg, hy⟩
         rw [HMM.out] at hg
         obtain ⟨raP, rbP, rcaP, rcbP, rfl, TP⟩ := hg
         obtain ⟨y3, hV⟩ : ∃ X, zP.alloc (.cells #[.slice raP 2 rcaP, .slice rbP X0.length rcbP] 26) = X := ⟨_, rfl⟩
         have bz : Below zP.heap.size zP y3 := by rw [← hV]; exact (Below.refl _ _).alloc (Nat.le_refl _) _
         have NP : Row y3 zP.heap.size 26 #[.slice raP 2 rcaP, .slice rbP X0.length rcbP] := by rw [← hV]; exact Row.new _ _ _
         have hyz := hy.trans (bz.mono hy.size)
         replace TP := Lib.hid (TP.later bz)
         clear hy bz
         have B1 : Below wr.heap.size wr y3 := B0.trans (hyz.mono B0.size)
         clear xc0 xc1 oc0 oc1
         replace R0 := R0.later hyz
         replace R1 := R1.later hyz
         replace T0 := Lib.hid (T0.out.later hyz)
         replace TO := Lib.hid (TO.out.later hyz)
         obtain ⟨xc0, xc1, _, _⟩ := R0.two
         obtain ⟨oc0, oc1, _, _⟩ := R1.two
         clear hyz
         obtain ⟨Pc0, Pc1, _, _⟩ := NP.two
         go_wp2_with fail
         (try rw [hV])
         (try clear hV)
         have mkX : ∀ X, Below y3.heap.size y3 X → X.cell? ⟨z.heap.size, 0, none⟩ = some (.slice ra 2 rca) ∧ X.cell? ⟨z.heap.size, 1, none⟩ = some (.slice rb X0.length rcb) ∧ X.cell? ⟨G + 1, 0, none⟩ = some (.slice (some ⟨G, 0, none⟩) 2 2) ∧ X.cell? ⟨G + 1, 1, none⟩ = some (.slice av es.length cv) := fun X h => by
          obtain ⟨g0, g1, _⟩ := (R0.later h).two
          obtain ⟨g2, g3, _⟩ := (R1.later h).two
          exact ⟨g0, g1, g2, g3⟩
         have MKX := Lib.hid mkX
         clear mkX
         clear xc0 xc1 oc0 oc1 Pc0 Pc1
         go_cut [13, 14] (fun sa sb wx => ∃ (gp : Nat) (ra rb : Option Addr) (rca rcb bs : Nat), sa = .pointer (some ⟨gp, 0, none⟩) ∧ sb = .int .i64 0 ∧ Row wx gp 26 #[.slice ra 2 rca, .slice rb X0.length rcb] ∧ ResT bs wx (.agg #[.slice ra 2 rca, .slice rb X0.length rcb]) [(m : Int), (n : Int)] X0 (2 * ((2 * 16 + 4 + 10) * 2 ^ 5) + 10) ∧ Below y3.heap.size y3 wx)
         case first =>
          refine wp_region_held_drew (S := fun X => X.cell? ⟨z.heap.size, 0, none⟩ = some (.slice ra 2 rca) ∧ X.cell? ⟨z.heap.size, 1, none⟩ = some (.slice rb X0.length rcb) ∧ X.cell? ⟨G + 1, 0, none⟩ = some (.slice (some ⟨G, 0, none⟩) 2 2) ∧ X.cell? ⟨G + 1, 1, none⟩ = some (.slice av es.length cv)) (by kernel_rfl) (MKX.out _ ((Below.refl _ _).drew)) (fun hHeld => ?_)
          obtain ⟨pn, hp⟩ : ∃ Y, y3.drew = Y := ⟨_, rfl⟩
          have bn : Below y3.heap.size y3 pn := by rw [← hp]; exact (Below.refl _ _).drew
          rw [hp] at hHeld ⊢
          clear hp
          refine todo [0, 1] ?_
          iterate 2
           refine todoH (v := ?_) rfl (by kernel_rfl) (fun _ _ _ h => h) (by assumption) (Or.inl ⟨by rfl, ?_⟩) ?_
           rotate_left
           · intro w hSw; (try dsimp only at hSw); go_simp; (try with_reducible rfl)
           try simp only [Act.put, nA, nB, nC, nD, nE, nF]
          refine todone ?_
          have HPn := Lib.hid (fun (X : World) (h : Below pn.heap.size pn X) => (show X.cell? ⟨z.heap.size, 0, none⟩ = some (.slice ra 2 rca) ∧ X.cell? ⟨z.heap.size, 1, none⟩ = some (.slice rb X0.length rcb) ∧ X.cell? ⟨G + 1, 0, none⟩ = some (.slice (some ⟨G, 0, none⟩) 2 2) ∧ X.cell? ⟨G + 1, 1, none⟩ = some (.slice av es.length cv) from MKX.out _ (bn.trans (h.mono bn.size))))
          refine pool_start (fs := [⟨10, 13, 26, #[.slice none 0 0, .slice none 0 0], fun g => .pointer (some ⟨g, 0, none⟩)⟩]) (us := [undef]) (n := 10) (F := fun _ => True) (by kernel_rfl) (by simp only [putF, Act.put, nA, nB, nC, nD, nE, nF]) rfl trivial ?_
          refine pool_step (α := Value × Nat) (fun p => p.1) (c := 2) (dc := 78) (need := []) (F' := fun p X => ResR p.2 X p.1 (intQ 0) 6) rfl ?fln2 (by decide) (by decide) (by decide) (by decide) (by kernel_rfl) HPn.out (fun _ _ _ _ => trivial) ?stn2 ?nxn2
          case fln2 =>
           intro f hf
           simp only [List.mem_cons, List.not_mem_nil, or_false] at hf
           rcases hf with rfl
           all_goals exact ⟨fun g g' e => by simpa using e, _, rfl, fun a X K h => by unfold StepH; go_simp; exact h⟩
          case stn2 =>
           intro us X K hus _ hb _ hK
           obtain ⟨q1, rfl⟩ := len_one10 hus
           simp only [putF, Act.put, nA, nB, nC, nD, nE, nF]
           unfold StepH
           go_simp
           refine (intRR_any 0 _ (by decide) (by decide)).mono ?_
           rintro e X' ⟨r, rfl, q, hy⟩
           go_simp
           exact hK (r, X.heap.size) _ hy q
          rintro ⟨v2, bs2⟩
          (try dsimp only)
          try simp only [Act.put, nA, nB, nC, nD, nE, nF]
          refine pool_step (α := Bool × Option Addr × Nat × Nat × Option Addr × Nat × Nat × Nat) (fun p => .agg #[.bool p.1, .slice p.2.1 p.2.2.1 p.2.2.2.1, .slice p.2.2.2.2.1 p.2.2.2.2.2.1 p.2.2.2.2.2.2.1]) (c := 3) (dc := 79) (need := []) (F' := fun p X => p.2.2.2.2.2.2.2 ≤ X.heap.size ∧ ResQ p.2.2.2.2.2.2.2 X (.agg #[.bool p.1, .slice p.2.1 p.2.2.1 p.2.2.2.1, .slice p.2.2.2.2.1 p.2.2.2.2.2.1 p.2.2.2.2.2.2.1]) (intQ 0) 6) rfl ?fln3 (by decide) (by decide) (by decide) (by decide) (by kernel_rfl) HPn.out (fun X Y h hF => ResR.later hF h) ?stn3 ?nxn3
          case fln3 =>
           intro f hf
           simp only [List.mem_cons, List.not_mem_nil, or_false] at hf
           rcases hf with rfl
           all_goals exact ⟨fun g g' e => by simpa using e, _, rfl, fun a X K h => by unfold StepH; go_simp; exact h⟩
          case stn3 =>
           intro us X K hus _ hb hF hK
           obtain ⟨q1, rfl⟩ := len_one10 hus
           simp only [putF, Act.put, nA, nB, nC, nD, nE, nF]
           unfold StepH
           go_simp
           refine (backR_any hF.arg (by decide)).mono ?_
           rintro e X' ⟨r, rfl, q, hy⟩
           obtain ⟨m5, p1, p2, p3, p4, p5, p6, rfl⟩ := q.shape
           go_simp
           exact hK (m5, p1, p2, p3, p4, p5, p6, X.heap.size) _ hy ⟨hy.size, q⟩
          rintro ⟨m5, p1, p2, p3, p4, p5, p6, bs3⟩
          (try dsimp only)
          try simp only [Act.put, nA, nB, nC, nD, nE, nF]
          refine pool_step (α := Nat) (fun g => .slice (some ⟨g, 0, none⟩) 1 1) (c := 4) (dc := 80) (need := []) (F' := fun g X => bs3 ≤ g ∧ Row X g 54 #[.bool m5, .slice p1 p2 p3, .slice p4 p5 p6] ∧ ResQ bs3 X (.agg #[.bool m5, .slice p1 p2 p3, .slice p4 p5 p6]) (intQ 0) 6) rfl ?fln4 (by decide) (by decide) (by decide) (by decide) (by kernel_rfl) HPn.out (fun X Y h hF => ⟨Nat.le_trans hF.1 h.size, ResQ.later hF.2 h⟩) ?stn4 ?nxn4
          case fln4 =>
           intro f hf
           simp only [List.mem_cons, List.not_mem_nil, or_false] at hf
           rcases hf with rfl
           all_goals exact ⟨fun g g' e => by simpa using e, _, rfl, fun a X K h => by unfold StepH; go_simp; exact h⟩
          case stn4 =>
           intro us X K hus _ hb hF hK
           obtain ⟨q1, rfl⟩ := len_one10 hus
           simp only [putF, Act.put, nA, nB, nC, nD, nE, nF]
           unfold StepH
           go_simp
           have hal : Below X.heap.size X (X.alloc (.cells #[.bool m5, .slice p1 p2 p3, .slice p4 p5 p6] 54)) := (Below.refl _ _).alloc (Nat.le_refl _) _
           exact hK X.heap.size _ hal ⟨hF.1, Row.new _ _ _, hF.2.later hal⟩
          rintro g4
          (try dsimp only)
          try simp only [Act.put, nA, nB, nC, nD, nE, nF]
          refine pool_take (v := ?_) (i := 5) (di := 81) rfl rfl (by decide) (by decide) (by kernel_rfl) (fun _ _ _ h => h) HPn.out (fun us hus => ?_) ?_
          rotate_left
          · obtain ⟨q1, rfl⟩ := len_one10 hus
            simp only [putF, Act.put, nA, nB, nC, nD, nE, nF]
            refine Or.inl ⟨by rfl, ?_⟩
            intro w hSw; (try dsimp only at hSw); go_simp; (try with_reducible rfl)
          try simp only [Act.put, nA, nB, nC, nD, nE, nF]
          refine pool_step (α := Option Addr × Option Addr × Nat × Nat × Nat) (fun p => .tuple #[.agg #[.slice p.1 2 p.2.2.1, .slice p.2.1 X0.length p.2.2.2.1], .int .i64 0]) (c := 6) (dc := 82) (need := []) (F' := fun p X => ResT p.2.2.2.2 X (.agg #[.slice p.1 2 p.2.2.1, .slice p.2.1 X0.length p.2.2.2.1]) [(m : Int), (n : Int)] X0 (2 * ((2 * 16 + 4 + 10) * 2 ^ 5) + 10)) rfl ?fln6 (by decide) (by decide) (by decide) (by decide) (by kernel_rfl) HPn.out (fun X Y h hF => ⟨hF.1, Row.later hF.2.1 h, ResQ.later hF.2.2 h⟩) ?stn6 ?nxn6
          case fln6 =>
           intro f hf
           simp only [List.mem_cons, List.not_mem_nil, or_false] at hf
           rcases hf with rfl
           all_goals exact ⟨fun g g' e => by simpa using e, _, rfl, fun a X K h => by unfold StepH; go_simp; exact h⟩
          case stn6 =>
           intro us X K hus _ hb hF hK
           obtain ⟨q1, rfl⟩ := len_one10 hus
           simp only [putF, Act.put, nA, nB, nC, nD, nE, nF]
           unfold StepH
           go_simp
           have hz := (one_tens10 hF.2.1 hF.1 hF.2.2).more10 (m := 16) (by decide)
           have hbX := bn.trans (hb.mono bn.size)
           refine (gemR10 (T0.out.later hbX) ((TO.out.more10 (by decide)).later hbX) hz f1.out f2.out HXl.out HOl.out ⟨OkS.nil, rfl⟩ (fit_nil10 f1.out.ok) (by decide)).mono ?_
           rintro e X' ⟨hg, hy⟩
           rw [HMM.out, intQ_zero, plusF_zero f1.out.ok (by rw [cnt_two10]; exact HXl.out)] at hg
           obtain ⟨ra, rb, rca, rcb, rfl, T5⟩ := hg
           go_simp
           exact hK (ra, rb, rca, rcb, X.heap.size) _ hy T5
          rintro ⟨ra5, rb5, rca5, rcb5, bs5⟩
          (try dsimp only)
          try simp only [Act.put, nA, nB, nC, nD, nE, nF]
          refine pool_take (v := ?_) (i := 7) (di := 75) rfl rfl (by decide) (by decide) (by kernel_rfl) (fun _ _ _ h => h) HPn.out (fun us hus => ?_) ?_
          rotate_left
          · obtain ⟨q1, rfl⟩ := len_one10 hus
            simp only [putF, Act.put, nA, nB, nC, nD, nE, nF]
            refine Or.inl ⟨by rfl, ?_⟩
            intro w hSw; (try dsimp only at hSw); go_simp; (try with_reducible rfl)
          try simp only [Act.put, nA, nB, nC, nD, nE, nF]
          refine pool_take (v := ?_) (i := 8) (di := 83) rfl rfl (by decide) (by decide) (by kernel_rfl) (fun _ _ _ h => h) HPn.out (fun us hus => ?_) ?_
          rotate_left
          · obtain ⟨q1, rfl⟩ := len_one10 hus
            simp only [putF, Act.put, nA, nB, nC, nD, nE, nF]
            refine Or.inl ⟨by rfl, ?_⟩
            intro w hSw; (try dsimp only at hSw); go_simp; (try with_reducible rfl)
          try simp only [Act.put, nA, nB, nC, nD, nE, nF]
          refine pool_take (v := ?_) (i := 9) (di := 84) rfl rfl (by decide) (by decide) (by kernel_rfl) (fun _ _ _ h => h) HPn.out (fun us hus => ?_) ?_
          rotate_left
          · obtain ⟨q1, rfl⟩ := len_one10 hus
            simp only [putF, Act.put, nA, nB, nC, nD, nE, nF]
            refine Or.inl ⟨by rfl, ?_⟩
            intro w hSw; (try dsimp only at hSw); go_simp; (try with_reducible rfl)
          try simp only [Act.put, nA, nB, nC, nD, nE, nF]
          refine pool_end ?flne (by decide) (by decide) (by kernel_rfl) HPn.out (fun X Y h hF => ResT.later hF h) ?nxne
          case flne =>
           intro f hf
           simp only [List.mem_cons, List.not_mem_nil, or_false] at hf
           rcases hf with rfl
           all_goals exact ⟨fun g g' e => by simpa using e, _, rfl, fun a X K h => by unfold StepH; go_simp; exact h⟩
          intro us xn ok hb hF
          obtain ⟨gn, rfl, hgn, Rn⟩ := ok.one
          (try dsimp only at Rn hF)
          simp only [putF, Act.put, nA, nB, nC, nD, nE, nF]
          have Bn : Below y3.heap.size y3 xn := bn.trans (hb.mono bn.size)
          have hHeld := HPn.out xn hb
          clear ok
          obtain ⟨d0, d1, d2, d3⟩ := Rn.two
          refine wpAnyH_ready (rs := [11]) (by kernel_rfl) (by simp) ?_
          refine AllReadyH.cons rfl (fun K hK => ?sn1) AllReadyH.nil
          go_simp
          refine afterSet2 Rn (fun xn1 on1 zn1 => ?_)
          clear d0 d1 d2 d3
          have Bn1 : Below y3.heap.size y3 xn1 := Bn.trans (on1.below (Nat.le_trans bn.size hgn))
          replace hF := hF.far Rn (by decide) (by decide) (by decide) on1.block
          replace Rn := zn1
          refine hK.out _ _ (MKX.out _ Bn1) (fun hHeld2 => ?_)
          clear hK K hHeld
          have hHeld := hHeld2
          clear hHeld2
          try simp only [Act.put, nA, nB, nC, nD, nE, nF]
          refine wpAnyH_ready (rs := [12]) (by kernel_rfl) (by simp) ?_
          refine AllReadyH.cons rfl (fun K hK => ?snd12) AllReadyH.nil
          go_simp
          refine hK.out _ _ (MKX.out _ Bn1) (fun hHeld2 => ?_)
          clear hK K hHeld
          have hHeld := hHeld2
          clear hHeld2
          try simp only [Act.put, nA, nB, nC, nD, nE, nF]
          refine wpAnyH_done (by kernel_rfl) ?_ _
          (try dsimp only [Straight])
          go_wp2_with fail
          go_meet
          exact ⟨_, _, _, _, _, _, rfl, rfl, Rn, hF, Bn1⟩
         case rest =>
          obtain ⟨gq, ra2, rb2, rca2, rcb2, bs2, rfl, rfl, N2, T2, E2⟩ := hcut
          obtain ⟨y10, hy10⟩ : ∃ y, wc = y := ⟨_, rfl⟩
          rw [hy10] at N2 T2 E2 ⊢
          clear hy10
          replace T2 := Lib.hid T2
          have B2 : Below wr.heap.size wr y10 := B1.trans (E2.mono B1.size)
          replace R0 := R0.later E2
          replace R1 := R1.later E2
          replace NP := NP.later E2
          replace T0 := Lib.hid (T0.out.later E2)
          replace TO := Lib.hid (TO.out.later E2)
          replace TP := Lib.hid (TP.out.later E2)
          obtain ⟨xc0, xc1, _, _⟩ := R0.two
          obtain ⟨oc0, oc1, _, _⟩ := R1.two
          obtain ⟨Pc0, Pc1, _, _⟩ := NP.two
          clear E2 MKX
          obtain ⟨zc0, zc1, _, _⟩ := N2.two
          go_wp2_with fail
          refine (gemR10 T0.out (TO.out.more10 (by decide)) T0.out f1.out f2.out HXl.out HOl.out ok0.out (fit_self10 f1.out.ok) (by decide)).mono ?_
          rintro e zW ⟨hg, hy⟩
          rw [HMM.out, plusF_self f1.out.ok (by rw [cnt_two10]; exact HXl.out) (by rw [cnt_two10]; exact HXl.out), HS2.out] at hg
          obtain ⟨raW, rbW, rcaW, rcbW, rfl, TW⟩ := hg
          obtain ⟨y23, hV⟩ : ∃ X, zW.alloc (.cells #[.slice raW 2 rcaW, .slice rbW S2.length rcbW] 26) = X := ⟨_, rfl⟩
          have bz : Below zW.heap.size zW y23 := by rw [← hV]; exact (Below.refl _ _).alloc (Nat.le_refl _) _
          have NW : Row y23 zW.heap.size 26 #[.slice raW 2 rcaW, .slice rbW S2.length rcbW] := by rw [← hV]; exact Row.new _ _ _
          have hyz := hy.trans (bz.mono hy.size)
          replace TW := Lib.hid (TW.later bz)
          clear hy bz
          have B21 : Below wr.heap.size wr y23 := B2.trans (hyz.mono B2.size)
          clear xc0 xc1 oc0 oc1 Pc0 Pc1 zc0 zc1
          replace R0 := R0.later hyz
          replace R1 := R1.later hyz
          replace NP := NP.later hyz
          replace N2 := N2.later hyz
          replace T0 := Lib.hid (T0.out.later hyz)
          replace TO := Lib.hid (TO.out.later hyz)
          replace TP := Lib.hid (TP.out.later hyz)
          replace T2 := Lib.hid (T2.out.later hyz)
          obtain ⟨xc0, xc1, _, _⟩ := R0.two
          obtain ⟨oc0, oc1, _, _⟩ := R1.two
          obtain ⟨Pc0, Pc1, _, _⟩ := NP.two
          obtain ⟨zc0, zc1, _, _⟩ := N2.two
          clear hyz
          obtain ⟨Wc0, Wc1, _, _⟩ := NW.two
          go_wp2_with fail
          (try rw [hV])
          (try clear hV)
          refine (addR10 T0.out T0.out ok0.out rfl (by decide)).mono ?_
          rintro e zS ⟨hg, hy⟩
          rw [HS2.out] at hg
          obtain ⟨raS, rbS, rcaS, rcbS, rfl, TS⟩ := hg
          obtain ⟨y24, hV⟩ : ∃ X, zS.alloc (.cells #[.slice raS 2 rcaS, .slice rbS S2.length rcbS] 26) = X := ⟨_, rfl⟩
          have bz : Below zS.heap.size zS y24 := by rw [← hV]; exact (Below.refl _ _).alloc (Nat.le_refl _) _
          have NS : Row y24 zS.heap.size 26 #[.slice raS 2 rcaS, .slice rbS S2.length rcbS] := by rw [← hV]; exact Row.new _ _ _
          have hyz := hy.trans (bz.mono hy.size)
          replace TS := Lib.hid (TS.later bz)
          clear hy bz
          have B22 : Below wr.heap.size wr y24 := B21.trans (hyz.mono B21.size)
          clear xc0 xc1 oc0 oc1 Pc0 Pc1 zc0 zc1 Wc0 Wc1
          replace R0 := R0.later hyz
          replace R1 := R1.later hyz
          replace NP := NP.later hyz
          replace N2 := N2.later hyz
          replace NW := NW.later hyz
          replace T0 := Lib.hid (T0.out.later hyz)
          replace TO := Lib.hid (TO.out.later hyz)
          replace TP := Lib.hid (TP.out.later hyz)
          replace T2 := Lib.hid (T2.out.later hyz)
          replace TW := Lib.hid (TW.out.later hyz)
          obtain ⟨xc0, xc1, _, _⟩ := R0.two
          obtain ⟨oc0, oc1, _, _⟩ := R1.two
          obtain ⟨Pc0, Pc1, _, _⟩ := NP.two
          obtain ⟨zc0, zc1, _, _⟩ := N2.two
          obtain ⟨Wc0, Wc1, _, _⟩ := NW.two
          clear hyz
          obtain ⟨Sc0, Sc1, _, _⟩ := NS.two
          go_wp2_with fail
          (try rw [hV])
          (try clear hV)
          refine (sameA10 TP.out T0.out ok0.out rfl rfl (by decide) (by decide)).mono ?_
          rintro e y23 ⟨rfl, hy⟩
          have B23 : Below wr.heap.size wr y23 := B22.trans (hy.mono B22.size)
          clear xc0 xc1 oc0 oc1 Pc0 Pc1 zc0 zc1 Wc0 Wc1 Sc0 Sc1
          replace R0 := R0.later hy
          replace R1 := R1.later hy
          replace NP := NP.later hy
          replace N2 := N2.later hy
          replace NW := NW.later hy
          replace NS := NS.later hy
          replace T0 := Lib.hid (T0.out.later hy)
          replace TO := Lib.hid (TO.out.later hy)
          replace TP := Lib.hid (TP.out.later hy)
          replace T2 := Lib.hid (T2.out.later hy)
          replace TW := Lib.hid (TW.out.later hy)
          replace TS := Lib.hid (TS.out.later hy)
          obtain ⟨xc0, xc1, _, _⟩ := R0.two
          obtain ⟨oc0, oc1, _, _⟩ := R1.two
          obtain ⟨Pc0, Pc1, _, _⟩ := NP.two
          obtain ⟨zc0, zc1, _, _⟩ := N2.two
          obtain ⟨Wc0, Wc1, _, _⟩ := NW.two
          obtain ⟨Sc0, Sc1, _, _⟩ := NS.two
          clear hy
          go_wp2_with fail
          refine (sameA10 T2.out T0.out ok0.out rfl rfl (by decide) (by decide)).mono ?_
          rintro e y24 ⟨rfl, hy⟩
          have B24 : Below wr.heap.size wr y24 := B23.trans (hy.mono B23.size)
          clear xc0 xc1 oc0 oc1 Pc0 Pc1 zc0 zc1 Wc0 Wc1 Sc0 Sc1
          replace R0 := R0.later hy
          replace R1 := R1.later hy
          replace NP := NP.later hy
          replace N2 := N2.later hy
          replace NW := NW.later hy
          replace NS := NS.later hy
          replace T0 := Lib.hid (T0.out.later hy)
          replace TO := Lib.hid (TO.out.later hy)
          replace TP := Lib.hid (TP.out.later hy)
          replace T2 := Lib.hid (T2.out.later hy)
          replace TW := Lib.hid (TW.out.later hy)
          replace TS := Lib.hid (TS.out.later hy)
          obtain ⟨xc0, xc1, _, _⟩ := R0.two
          obtain ⟨oc0, oc1, _, _⟩ := R1.two
          obtain ⟨Pc0, Pc1, _, _⟩ := NP.two
          obtain ⟨zc0, zc1, _, _⟩ := N2.two
          obtain ⟨Wc0, Wc1, _, _⟩ := NW.two
          obtain ⟨Sc0, Sc1, _, _⟩ := NS.two
          clear hy
          go_wp2_with fail
          refine (sameA10 TW.out TS.out OK2.out rfl rfl (by decide) (by decide)).mono ?_
          rintro e y25 ⟨rfl, hy⟩
          have B25 : Below wr.heap.size wr y25 := B24.trans (hy.mono B24.size)
          clear xc0 xc1 oc0 oc1 Pc0 Pc1 zc0 zc1 Wc0 Wc1 Sc0 Sc1
          replace R0 := R0.later hy
          replace R1 := R1.later hy
          replace NP := NP.later hy
          replace N2 := N2.later hy
          replace NW := NW.later hy
          replace NS := NS.later hy
          replace T0 := Lib.hid (T0.out.later hy)
          replace TO := Lib.hid (TO.out.later hy)
          replace TP := Lib.hid (TP.out.later hy)
          replace T2 := Lib.hid (T2.out.later hy)
          replace TW := Lib.hid (TW.out.later hy)
          replace TS := Lib.hid (TS.out.later hy)
          obtain ⟨xc0, xc1, _, _⟩ := R0.two
          obtain ⟨oc0, oc1, _, _⟩ := R1.two
          obtain ⟨Pc0, Pc1, _, _⟩ := NP.two
          obtain ⟨zc0, zc1, _, _⟩ := N2.two
          obtain ⟨Wc0, Wc1, _, _⟩ := NW.two
          obtain ⟨Sc0, Sc1, _, _⟩ := NS.two
          clear hy
          go_wp2_with fail
          refine (known10_any _).mono ?_
          rintro e y99 ⟨rfl, hb9⟩
          go_wp2_with fail
          go_ret
          exact ⟨rfl, hb0.trans ((B25.trans (hb9.mono B25.size)).mono hb0.size)⟩
end
end Go.Proofs.YtengpgodmbfmkaaGreat
