/-
  Part 2 of 4: contracts and what they rest on (QLaw0, SCode1, TDef, TCode1, TCode5, PCode1, PCode2, POneB, FMath, FMat, FShort, FArr).
-/
import Derived.Test.YtengpgodmbfmkaaGreatC30
import Derived.Laws.IdiomArrays
namespace Go.Proofs.YtengpgodmbfmkaaGreat
set_option linter.unusedVariables false
set_option linter.unusedSimpArgs false
set_option maxRecDepth 100000
set_option maxHeartbeats 40000000
section
open Go.RowKit Go.ChangeShapes Go.WideShapes Go.ChangeAt
theorem lenD_pos {ds : List Int} (h : 0 < valD ds) : ((ds.length : Int) == 0) = false := by
 cases ds with
 | nil => simp [valD] at h
 | cons x l => simp; omega
theorem lenD_zero {ds : List Int} (h : WfD ds) (f : trimN ds ds.length = ds.length) (e : valD ds = 0) : ((ds.length : Int) == 0) = true := by rw [valD_zero h f e]; rfl
end
section
open Go.RowKit
theorem eqI_any {w : World} {xs ys : List Int} {a b : Option Addr} {c d : Nat} (A : ArgS w (.slice a xs.length c) xs a c) (B : ArgS w (.slice b ys.length d) ys b d) (hx : xs.length ≤ 70368744177664) (hy : ys.length ≤ 70368744177664) :
 Calls Tryz.prog 104 #[.slice a xs.length c, .slice b ys.length d] w fun e w' => e = .returned (.bool (decide (xs = ys))) ∧ Below w.heap.size w w' := by
 by_cases hl : xs.length = ys.length
 case neg =>
  have hne : decide (xs = ys) = false := decide_eq_false (fun h => hl (by rw [h]))
  have hn1 : ((xs.length : Int) != (ys.length : Int)) = true := by simp; omega
  rw [hne]
  clear hl hne
  go_enter Tryz.func104, Tryz.ntmps104
  go_wp2_with fail
  go_ret
  exact ⟨rfl, Below.refl _ _⟩
 obtain ⟨m, hm⟩ : ∃ m, xs.length = m := ⟨_, rfl⟩
 have hm2 : ys.length = m := by omega
 have la := A.lim
 have lb := B.lim
 have hext : (∀ j, j < m → xs.getD j 0 = ys.getD j 0) → xs = ys := by
  intro h
  apply List.ext_getElem (by omega)
  intro i h1 h2
  have := h i (by omega)
  simpa [h1, h2] using this
 have HX := Lib.hid hext
 have hmm : ((m : Int) != (m : Int)) = false := by simp
 have HL1 := Lib.hid hm
 have HL2 := Lib.hid hm2
 rw [hm] at hx ⊢
 rw [hm2]
 clear hl hm hm2 hext A B hy
 go_enter Tryz.func104, Tryz.ntmps104
 go_wp2_with fail
 go_loopw [5, 13] (fun _ i wr => ∃ k : Nat, i = .int .i64 k ∧ k ≤ m ∧ (∀ j, j < k → xs.getD j 0 = ys.getD j 0) ∧ Below w.heap.size w wr) (fun _ i _ => m - (intOf i).toNat)
 case atStart => exact ⟨0, rfl, Nat.zero_le _, fun j hj => by omega, Below.refl _ _⟩
 case round =>
  obtain ⟨k, rfl, hk, hall, hb⟩ := hrel
  have HA := Lib.hid hall
  clear hall
  by_cases hlt : k < m
  · have HK := Lib.hid hlt
    obtain ⟨p, o, rfl, c1⟩ : ∃ p o, a = some ⟨p, o, none⟩ ∧ wr.cell? ⟨p, o + k, none⟩ = some (.int .i64 (xs.getD k 0)) := by
     rcases la.later hb with e | ⟨p, o, e, hc⟩
     · rw [e] at HL1; have := HL1.out; simp at this; omega
     · exact ⟨p, o, e, hc k (by rw [HL1.out]; exact hlt)⟩
    obtain ⟨p2, o2, rfl, c2⟩ : ∃ p o, b = some ⟨p, o, none⟩ ∧ wr.cell? ⟨p, o + k, none⟩ = some (.int .i64 (ys.getD k 0)) := by
     rcases lb.later hb with e | ⟨p, o, e, hc⟩
     · rw [e] at HL2; have := HL2.out; simp at this; omega
     · exact ⟨p, o, e, hc k (by rw [HL2.out]; exact hlt)⟩
    obtain ⟨x, hxk⟩ : ∃ x, xs.getD k 0 = x := ⟨_, rfl⟩
    obtain ⟨y, hyk⟩ : ∃ y, ys.getD k 0 = y := ⟨_, rfl⟩
    rw [hxk] at c1
    rw [hyk] at c2
    have HXK := Lib.hid hxk
    have HYK := Lib.hid hyk
    have hk0 : (0 : Int) ≤ (k : Int) := Int.natCast_nonneg _
    have hk1 : (k : Int) < (m : Int) := by omega
    clear hxk hyk la lb
    by_cases e : x = y
    · have hne : (x != y) = false := by simp [e]
      have fin : ∃ j : Nat, Value.int .i64 ((k : Int) + 1) = .int .i64 j ∧ j ≤ m ∧ (∀ i, i < j → xs.getD i 0 = ys.getD i 0) :=
       ⟨k + 1, by go_num, HK.out, fun i hi => by
        by_cases h : i = k
        · subst h; rw [HXK.out, HYK.out]; exact e
        · exact HA.out i (by omega)⟩
      have FIN := Lib.hid fin
      clear fin e
      go_wp2_with fail
      go_quiet (fail)
      go_wp2_with fail
      go_roundw
      case rel =>
       obtain ⟨j, h1, h2, h3⟩ := FIN.out
       exact ⟨j, h1, h2, h3, ⟨hb.os, hb.tape, hb.output, hb.size, hb.block⟩⟩
      case measure => have := HK.out; simp [intOf]; omega
    · have hne : (x != y) = true := by simp [e]
      have hd : decide (xs = ys) = false := decide_eq_false (fun h => e (by rw [← HXK.out, ← HYK.out, h]))
      have HD := Lib.hid hd
      clear e hd
      go_wp2_with fail
      go_quiet (fail)
      go_wp2_with fail
      go_ret
      exact ⟨by rw [HD.out]; rfl, ⟨hb.os, hb.tape, hb.output, hb.size, hb.block⟩⟩
  · obtain rfl : k = m := by omega
    have hd : decide (xs = ys) = true := decide_eq_true (HX.out HA.out)
    have HD := Lib.hid hd
    clear hd
    go_wp2_with fail
    go_ret
    exact ⟨by rw [HD.out]; rfl, hb⟩
theorem sameS_any {u v : Value} {xs ys : List Int} {a b : Option Addr} {ca cb : Nat} {w : World} (A : ArgS w u xs a ca) (B : ArgS w v ys b cb) (ha : a = none → ca = 0) (hb : b = none → cb = 0) (hx : xs.length ≤ 17592186044416) (hy : ys.length ≤ 17592186044416) :
 Calls Tryz.prog 63 #[u, v] w fun e w' => e = .returned (.bool (decide (xs = ys))) ∧ Below w.heap.size w w' := by
 obtain rfl := A.is
 obtain rfl := B.is
 have h := eqI_any A B (by omega) (by omega)
 obtain ⟨t, ht⟩ : ∃ t, decide (xs = ys) = t := ⟨_, rfl⟩
 obtain ⟨n, hn⟩ : ∃ n, xs.length = n := ⟨_, rfl⟩
 obtain ⟨m, hm⟩ : ∃ n, ys.length = n := ⟨_, rfl⟩
 rw [ht, hn, hm] at h
 rw [ht, hn, hm]
 clear A B ha hb hx hy ht hn hm
 go_enter Tryz.func63, Tryz.ntmps63
 go_wp2_with (go_at_call 104; refine h.mono ?_; rintro e w1 ⟨rfl, hb⟩)
 go_ret
 exact ⟨rfl, hb⟩
end
section
open Go.RowKit
def dotC (s1 s2 : List Int) (q1 q2 : List Q3) : Int := if mayT s1 q1 ≠ 0 then mayT s1 q1 else if mayT s2 q2 ≠ 0 then mayT s2 q2 else if s1 ≠ s2 then 13 else 0
end
section
open Go.RowKit Go.Shelf
attribute [local go_sem] Oper.semAt_some
theorem besideQ_any (a b : Option Addr) (n m ca cb : Nat) (w : World) :
 Calls Tryz.prog 65 #[.slice a n ca, .slice b m cb] w fun e w' => e = .returned (.func (.func 105) #[] #[.pointer (some ⟨w.heap.size, 0, none⟩), .pointer (some ⟨w.heap.size + 1, 0, none⟩)]) ∧
  w' = (w.alloc (.cells #[.slice a n ca] 96)).alloc (.cells #[.slice b m cb] 96) := by
 go_enter Tryz.func65, Tryz.ntmps65
 go_wp2
 go_ret
 simp
end
section
open Go.RowKit Go.Shelf
attribute [local go_sem] Oper.semAt_some
theorem mayT7_any {n : Nat} {w : World} {v : Value} {s : List Int} {qs : List Q3} {a b : Option Addr} {ca cb : Nat} (T : TensQ w v s qs a ca b cb) (hs : s.length ≤ 1048576) (hq : qs.length ≤ 1048576) (hl : lensQ qs n) (hn : n ≤ 4000000) :
 Calls Tryz.prog 27 #[v] w fun e w' => e = .returned (.int .i64 (mayT s qs)) ∧ Below w.heap.size w w' := mayT7_big T hq hl hn
end
section
open Go.RowKit
theorem mayPair_any {u v : Value} {s1 s2 : List Int} {q1 q2 : List Q3} {a1 b1 a2 b2 : Option Addr} {ca1 cb1 ca2 cb2 : Nat} {w : World} (T1 : TensQ w u s1 q1 a1 ca1 b1 cb1) (T2 : TensQ w v s2 q2 a2 ca2 b2 cb2) (h1 : s1.length ≤ 17592186044416) (h2 : s2.length ≤ 17592186044416) :
 Calls Tryz.prog 114 #[u, v] w fun e w' => e = .returned (.int .i64 (if s1 = s2 then 0 else 13)) ∧ Below w.heap.size w w' := by
 obtain rfl := T1.is
 obtain rfl := T2.is
 obtain ⟨W, hW⟩ : ∃ W, (w.alloc (.cells #[.slice a1 s1.length ca1, .slice b1 q1.length cb1] 26)).alloc (.cells #[.slice a2 s2.length ca2, .slice b2 q2.length cb2] 26) = W := ⟨_, rfl⟩
 have R0 : Row W w.heap.size 26 #[.slice a1 s1.length ca1, .slice b1 q1.length cb1] := by rw [← hW]; exact (Row.new _ _ _).alloc _
 have R1 : Row W (w.heap.size + 1) 26 #[.slice a2 s2.length ca2, .slice b2 q2.length cb2] := by rw [← hW]; have h := (Row.new (w.alloc (.cells #[.slice a1 s1.length ca1, .slice b1 q1.length cb1] 26)) 26 #[.slice a2 s2.length ca2, .slice b2 q2.length cb2]); simp only [World.size_alloc] at h; exact h
 have hBW : Below w.heap.size w W := by rw [← hW]; exact ((Below.refl _ _).alloc (by simp) _).alloc (by simp) _
 have hs := sameS_any (T1.later hBW).sh (T2.later hBW).sh T1.nila T2.nila h1 h2
 obtain ⟨c0, _, _, _⟩ := R0.two
 obtain ⟨c1, _, _, _⟩ := R1.two
 by_cases h : s1 = s2
 · rw [decide_eq_true h] at hs
   rw [if_pos h]
   clear h T1 T2 R0 R1
   go_enter Tryz.func114, Tryz.ntmps114
   (try rw [hW])
   go_wp2_with (go_at_call 63; refine hs.mono ?_; rintro e w1 ⟨rfl, hb⟩)
   go_ret
   exact ⟨rfl, hBW.trans (hb.mono hBW.size)⟩
 · rw [decide_eq_false h] at hs
   rw [if_neg h]
   clear h T1 T2 R0 R1
   go_enter Tryz.func114, Tryz.ntmps114
   (try rw [hW])
   go_wp2_with (go_at_call 63; refine hs.mono ?_; rintro e w1 ⟨rfl, hb⟩)
   go_ret
   exact ⟨rfl, hBW.trans (hb.mono hBW.size)⟩
end
section
open Go.RowKit
theorem total1_any {n g F : Nat} {R : Rat} {N : Nat} {w : World} {u v : Value} {p q : Q3} (hu : RawQ w u p) (hv : RawQ w v q) (hg : w.cell? ⟨g, 0, none⟩ = some (.func (.func F) #[] #[])) (heF : ∀ args w, (callFunc F args).run Tryz.prog w = .ok (.enter F args) w)
 (hdo : ∀ W x y, Below w.heap.size w W → RawQ W x p → RawQ W y q → Calls Tryz.prog F #[x, y] W fun e w' => ∃ r, e = .returned r ∧ ResQ W.heap.size w' r R N ∧ Below W.heap.size W w') :
 Calls Tryz.prog 117 #[u, v, .pointer (some ⟨g, 0, none⟩)] w fun e w' => ∃ r, e = .returned (.tuple #[r, .int .i64 0]) ∧ ResQ w.heap.size w' r R N ∧ Below w.heap.size w w' := by
 have HU := Lib.hid hu
 have HV := Lib.hid hv
 obtain ⟨a1, b1, ca1, cb1, rfl, _⟩ := hu
 obtain ⟨a2, b2, ca2, cb2, rfl, _⟩ := hv
 obtain ⟨W, hW⟩ : ∃ W, (((w.alloc (.cells #[.bool p.neg, .slice a1 p.num.length ca1, .slice b1 p.den.length cb1] 54)).alloc (.cells #[.bool q.neg, .slice a2 q.num.length ca2, .slice b2 q.den.length cb2] 54)).alloc (.cells #[.bool false, .slice none 0 0, .slice none 0 0] 54)) = W := ⟨_, rfl⟩
 have R0 : Row W (w.heap.size) 54 #[.bool p.neg, .slice a1 p.num.length ca1, .slice b1 p.den.length cb1] := by rw [← hW]; exact ((Row.new _ _ _).alloc _).alloc _
 have R1 : Row W (w.heap.size + 1) 54 #[.bool q.neg, .slice a2 q.num.length ca2, .slice b2 q.den.length cb2] := by rw [← hW]; have h := (Row.new (w.alloc (.cells #[.bool p.neg, .slice a1 p.num.length ca1, .slice b1 p.den.length cb1] 54)) 54 #[.bool q.neg, .slice a2 q.num.length ca2, .slice b2 q.den.length cb2]); simp only [World.size_alloc] at h; exact h.alloc _
 have R2 : Row W (w.heap.size + 1 + 1) 54 #[.bool false, .slice none 0 0, .slice none 0 0] := by rw [← hW]; have h := (Row.new ((w.alloc (.cells #[.bool p.neg, .slice a1 p.num.length ca1, .slice b1 p.den.length cb1] 54)).alloc (.cells #[.bool q.neg, .slice a2 q.num.length ca2, .slice b2 q.den.length cb2] 54)) 54 #[.bool false, .slice none 0 0, .slice none 0 0]); simp only [World.size_alloc] at h; exact h
 have hBW : Below w.heap.size w W := by rw [← hW]; exact ((((Below.refl _ _).alloc (by (try simp) <;> omega) _).alloc (by (try simp) <;> omega) _).alloc (by (try simp) <;> omega) _)
 have hsW : w.heap.size + 1 + 1 + 1 ≤ W.heap.size := by rw [← hW]; simp
 have cg := (hBW.cell (World.block_lt_of_cell? w _ hg)).trans hg
 have hp := hdo W _ _ hBW (HU.out.later hBW) (HV.out.later hBW)
 obtain ⟨c0, c1, c2, _, _, _⟩ := R0.three
 obtain ⟨d0, d1, d2, _, _, _⟩ := R1.three
 have HDO := Lib.hid hdo
 clear hdo hg
 go_enter Tryz.func117, Tryz.ntmps117
 (try rw [hW])
 go_wp2_with fail
 refine hp.mono ?_
 rintro e w2 ⟨r, rfl, qv, hb2⟩
 have Q2 := Lib.hid qv
 obtain ⟨m5, f1, l1, j1, f2, l2, j2, rfl⟩ := qv.shape
 clear qv
 have P2 := R2.later hb2
 have s2 := hb2.size
 obtain ⟨u0, u1, u2, g0, g1, g2⟩ := P2.three
 go_wp2_with fail
 have P3 := P2.set3 (.bool m5) (.slice f1 l1 j1) (.slice f2 l2 j2)
 obtain ⟨z0, z1, z2, _, _, _⟩ := P3.three
 refine bodyPost_ret (v := .tuple #[.agg #[.bool m5, .slice f1 l1 j1, .slice f2 l2 j2], .int .i64 0]) (by simp [results, Tryz.results117, go_sem, z0, z1, z2]) rfl ⟨_, rfl, ?_, below_set3 (hBW.trans (hb2.mono (by omega))) (by omega) _ _ _⟩
 exact (Q2.out.mono (by omega)).far P2 (by decide) (kept3 _ _ _)
theorem total_any (F : Nat) (w : World) : Calls Tryz.prog 74 #[.func (.func F) #[] #[]] w fun e w' => e = .returned (.func (.func 117) #[] #[.pointer (some ⟨w.heap.size, 0, none⟩)]) ∧
 w' = w.alloc (.cells #[.func (.func F) #[] #[]] 112) := by
 go_enter Tryz.func74, Tryz.ntmps74
 go_wp2
 go_ret
 simp
end
section
open Go.RowKit
theorem orL_two (x y : Int) : orL [x, y] = if x ≠ 0 then x else y := by
 unfold orL
 by_cases h : x = 0
 · rw [if_pos h, if_neg (by simp [h])]
   unfold orL
   by_cases h2 : y = 0
   · rw [if_pos h2, h2]; rfl
   · rw [if_neg h2]
 · rw [if_neg h, if_pos h]
end
section
theorem sumK_zero {f : Nat → Rat} {n : Nat} (h : ∀ k, k < n → f k = 0) : sumK f n = 0 := by
 induction n with
 | zero => rfl
 | succ n ih => simp only [sumK]; rw [ih fun k hk => h k (by omega), h n (by omega)]; grind
theorem sumK_add (f g : Nat → Rat) (n : Nat) : sumK (fun k => f k + g k) n = sumK f n + sumK g n := by
 induction n with
 | zero => simp only [sumK]; grind
 | succ n ih => simp only [sumK]; rw [ih]; grind
theorem sumK_mul (f : Nat → Rat) (x : Rat) (n : Nat) : sumK (fun k => x * f k) n = x * sumK f n := by
 induction n with
 | zero => simp only [sumK]; grind
 | succ n ih => simp only [sumK]; rw [ih]; grind
theorem sumK_mulr (f : Nat → Rat) (x : Rat) (n : Nat) : sumK (fun k => f k * x) n = sumK f n * x := by
 induction n with
 | zero => simp only [sumK]; grind
 | succ n ih => simp only [sumK]; rw [ih]; grind
theorem sumK_swap (f : Nat → Nat → Rat) (n m : Nat) : sumK (fun i => sumK (fun j => f i j) m) n = sumK (fun j => sumK (fun i => f i j) n) m := by
 induction n with
 | zero => simp only [sumK]; rw [sumK_zero]; exact fun _ _ => rfl
 | succ n ih => simp only [sumK]; rw [ih, ← sumK_add]
theorem ratL_eq {a b : List Rat} (hl : a.length = b.length) (h : ∀ i, i < a.length → a.getD i 0 = b.getD i 0) : a = b := by
 apply List.ext_getElem hl
 intro i g1 g2
 have := h i g1
 simpa [List.getD_eq_getElem?_getD, g1, g2] using this
theorem mmF_len (a b c : Nat) (X Y : List Rat) : (mmF a b c X Y).length = a * c := by simp [mmF]
theorem mmF_get (a b c : Nat) (X Y : List Rat) {n : Nat} (h : n < a * c) : (mmF a b c X Y).getD n 0 = sumK (fun k => X.getD (b * (n / c) + k) 0 * Y.getD (c * k + n % c) 0) b := by
 unfold mmF
 rw [List.getD_eq_getElem?_getD, List.getElem?_map, List.getElem?_range h]; rfl
theorem mat_lt {a c i j : Nat} (hi : i < a) (hj : j < c) : c * i + j < a * c := by
 have h : c * (i + 1) ≤ c * a := Nat.mul_le_mul_left c hi
 rw [Nat.mul_succ, Nat.mul_comm c a] at h
 omega
theorem mmF_at (a b c : Nat) (X Y : List Rat) {i j : Nat} (hi : i < a) (hj : j < c) : (mmF a b c X Y).getD (c * i + j) 0 = sumK (fun k => X.getD (b * i + k) 0 * Y.getD (c * k + j) 0) b := by
 rw [mmF_get a b c X Y (mat_lt hi hj), (mat_div hj).1, (mat_div hj).2]
theorem mat_split {a c n : Nat} (h : n < a * c) : ∃ i j, i < a ∧ j < c ∧ n = c * i + j := by
 have hc : 0 < c := by
  rcases Nat.eq_zero_or_pos c with e | e
  · subst e; simp at h
  · exact e
 refine ⟨n / c, n % c, ?_, Nat.mod_lt _ hc, (Nat.div_add_mod n c).symm⟩
 exact Nat.div_lt_of_lt_mul (by rw [Nat.mul_comm]; exact h)
theorem mat_ext {a c : Nat} {A B : List Rat} (hA : A.length = a * c) (hB : B.length = a * c) (h : ∀ i j, i < a → j < c → A.getD (c * i + j) 0 = B.getD (c * i + j) 0) : A = B := by
 refine ratL_eq (by rw [hA, hB]) fun n hn => ?_
 rw [hA] at hn
 obtain ⟨i, j, hi, hj, rfl⟩ := mat_split hn
 exact h i j hi hj
theorem mmF_assoc (a b c d : Nat) (X Y Z : List Rat) : mmF a c d (mmF a b c X Y) Z = mmF a b d X (mmF b c d Y Z) := by
 refine mat_ext (mmF_len ..) (mmF_len ..) fun i j hi hj => ?_
 rw [mmF_at _ _ _ _ _ hi hj, mmF_at _ _ _ _ _ hi hj]
 have e1 : sumK (fun k => (mmF a b c X Y).getD (c * i + k) 0 * Z.getD (d * k + j) 0) c = sumK (fun k => sumK (fun m => X.getD (b * i + m) 0 * Y.getD (c * m + k) 0 * Z.getD (d * k + j) 0) b) c := by
  refine sumK_congr fun k hk => ?_
  rw [mmF_at _ _ _ _ _ hi hk, ← sumK_mulr]
 have e2 : sumK (fun m => X.getD (b * i + m) 0 * (mmF b c d Y Z).getD (d * m + j) 0) b = sumK (fun m => sumK (fun k => X.getD (b * i + m) 0 * Y.getD (c * m + k) 0 * Z.getD (d * k + j) 0) c) b := by
  refine sumK_congr fun m hm => ?_
  rw [mmF_at _ _ _ _ _ hm hj, ← sumK_mul]
  exact sumK_congr fun k hk => by grind
 rw [e1, e2, sumK_swap]
theorem zipAdd_at {A B : List Rat} (h : B.length = A.length) (n : Nat) : (List.zipWith (fun x y => x + y) A B).getD n 0 = A.getD n 0 + B.getD n 0 := by
 by_cases hn : n < A.length
 · have h2 : n < B.length := by omega
   rw [List.getD_eq_getElem?_getD, List.getD_eq_getElem?_getD, List.getD_eq_getElem?_getD, List.getElem?_zipWith, List.getElem?_eq_getElem hn, List.getElem?_eq_getElem h2]
   rfl
 · have h2 : ¬ n < B.length := by omega
   have h3 : ¬ n < (List.zipWith (fun x y => x + y) A B).length := by rw [List.length_zipWith]; omega
   simp only [List.getD_eq_getElem?_getD]
   rw [List.getElem?_eq_none (by omega), List.getElem?_eq_none (by omega), List.getElem?_eq_none (by omega)]
   simp only [Option.getD_none]
   grind
theorem mmF_add (a b c : Nat) {X Y W : List Rat} (h : W.length = Y.length) : mmF a b c X (List.zipWith (fun x y => x + y) Y W) = List.zipWith (fun x y => x + y) (mmF a b c X Y) (mmF a b c X W) := by
 refine mat_ext (a := a) (c := c) (mmF_len ..) (by rw [List.length_zipWith, mmF_len, mmF_len, Nat.min_self]) fun i j hi hj => ?_
 rw [mmF_at _ _ _ _ _ hi hj, zipAdd_at (by rw [mmF_len, mmF_len]), mmF_at _ _ _ _ _ hi hj, mmF_at _ _ _ _ _ hi hj, ← sumK_add]
 refine sumK_congr fun k hk => ?_
 rw [zipAdd_at h]
 grind
end
section
open Go.RowKit
theorem ArgQ.more10 {w : World} {v : Value} {x : Rat} {n m : Nat} (h : ArgQ w v x n) (hm : n ≤ m) : ArgQ w v x m := by
 obtain ⟨neg, xs, ys, ad, bd, ca, cb, rfl, A, B, e, h1, h2⟩ := h
 exact ⟨neg, xs, ys, ad, bd, ca, cb, rfl, A, B, e, by omega, by omega⟩
end
section
open Go.RowKit
def lens10 (qs : List Q3) : Bool := qs.all fun q => decide (q.num.length ≤ 3) && decide (q.den.length ≤ 3)
def short10 (qs : List Q3) : Bool := lens10 qs && (decide (0 < qs.length) && decide (qs.length ≤ 40))
theorem lens10_true {qs : List Q3} (h : lens10 qs = true) : lensQ qs 3 := by
 unfold lens10 at h
 rw [List.all_eq_true] at h
 intro q hq
 have := h q hq
 simpa using this
theorem short10_true {qs : List Q3} (h : short10 qs = true) : lensQ qs 3 ∧ 0 < qs.length ∧ qs.length ≤ 40 := by
 unfold short10 at h
 simp only [Bool.and_eq_true, decide_eq_true_eq] at h
 exact ⟨lens10_true h.1, h.2.1, h.2.2⟩
theorem lens10_ok {qs : List Q3} (h2 : ∀ (k : Nat) (q : Q3), qs[k]? = some q → q.num.length ≤ 3 ∧ q.den.length ≤ 3) : lens10 qs = true := by
 unfold lens10
 rw [List.all_eq_true]
 intro q hq
 obtain ⟨k, hk, rfl⟩ := List.mem_iff_getElem.1 hq
 have := h2 k _ (List.getElem?_eq_getElem hk)
 simpa using this
theorem lens10_bad {qs : List Q3} {k : Nat} {q : Q3} (h : qs[k]? = some q) (h2 : ¬ (q.num.length ≤ 3 ∧ q.den.length ≤ 3)) : short10 qs = false := by
 cases e : short10 qs with
 | false => rfl
 | true => exact absurd ((short10_true e).1 q (List.mem_of_getElem? h)) h2
theorem short10_any {w : World} {qs : List Q3} {b : Option Addr} {cb : Nat} (E : RowA RawQ w (.slice b qs.length cb) qs b cb) (hq : qs.length ≤ 17592186044416) :
 Calls Tryz.prog 34 #[.slice b qs.length cb] w fun e w' => e = .returned (.bool (short10 qs)) ∧ Below w.heap.size w w' := by
 have HE := Lib.hid E
 obtain ⟨t, ht⟩ : ∃ t, short10 qs = t := ⟨_, rfl⟩
 rw [ht]
 have HTT := Lib.hid ht
 clear ht E
 have hBW : Below w.heap.size w w := Below.refl _ _
 have HB := Lib.hid hBW
 clear hBW
 go_enter Tryz.func34, Tryz.ntmps34
 go_wp2_with fail
 go_loopw [3] (fun i wr => ∃ k : Nat, i = .int .i64 (k : Int) ∧ k ≤ qs.length ∧ (∀ (j : Nat) (q : Q3), j < k → qs[j]? = some q → q.num.length ≤ 3 ∧ q.den.length ≤ 3) ∧ Below w.heap.size w wr) (fun i _ => qs.length - (intOf i).toNat)
 case atStart => exact ⟨0, rfl, Nat.zero_le _, (fun j q hj => by omega), HB.out⟩
 case round =>
  obtain ⟨k, rfl, hk, hall, hb⟩ := hrel
  have HA := Lib.hid hall
  clear hall
  by_cases hlt : k < qs.length
  · obtain ⟨bb, o, x0, x1, x2, q, hbo, hqk, e0, e1, e2, hraw⟩ := (HE.out.later hb (fun v x _ k => k.later hb)).at hlt
    subst hbo
    obtain ⟨u1, u2, j1, j2, hraw', _⟩ := id hraw
    simp only [Value.agg.injEq, Array.mk.injEq, List.cons.injEq, and_true] at hraw'
    obtain ⟨rfl, rfl, rfl⟩ := hraw'
    have hltI : (k : Int) < (qs.length : Int) := by omega
    have HQ := Lib.hid hqk
    clear hqk hraw
    obtain ⟨n1, hn1⟩ : ∃ n, q.num.length = n := ⟨_, rfl⟩
    obtain ⟨n2, hn2⟩ : ∃ n, q.den.length = n := ⟨_, rfl⟩
    have HN1 := Lib.hid hn1
    have HN2 := Lib.hid hn2
    rw [hn1] at e1
    rw [hn2] at e2
    clear hn1 hn2
    by_cases h1 : n1 ≤ 3
    · have h1I : ¬ (n1 : Int) > 3 := by omega
      by_cases h2 : n2 ≤ 3
      · have h2I : ¬ (n2 : Int) > 3 := by omega
        go_wp2
        go_roundw
        case rel =>
         refine ⟨k + 1, by go_num, by omega, fun j p hj hp => ?_, hb⟩
         by_cases h : j = k
         · rw [h, HQ.out] at hp
           cases hp
           rw [HN1.out, HN2.out]
           exact ⟨h1, h2⟩
         · exact HA.out j p (by omega) hp
        case measure => simp [intOf]; omega
      · have h2I : (n2 : Int) > 3 := by omega
        obtain rfl : t = false := by rw [← HTT.out]; exact lens10_bad HQ.out (by rw [HN1.out, HN2.out]; omega)
        go_wp2
        go_ret
        exact ⟨rfl, hb⟩
    · have h1I : (n1 : Int) > 3 := by omega
      obtain rfl : t = false := by rw [← HTT.out]; exact lens10_bad HQ.out (by rw [HN1.out, HN2.out]; omega)
      go_wp2
      go_ret
      exact ⟨rfl, hb⟩
  · obtain rfl : k = qs.length := by omega
    have hltI : ¬ (qs.length : Int) < (qs.length : Int) := by omega
    have hlens : lens10 qs = true := lens10_ok fun j q hq => HA.out j q (by rcases Nat.lt_or_ge j qs.length with g | g; exact g; rw [List.getElem?_eq_none g] at hq; cases hq) hq
    have htt : t = (decide (0 < qs.length) && decide (qs.length ≤ 40)) := by rw [← HTT.out]; unfold short10; rw [hlens]; rfl
    have HT2 := Lib.hid htt
    clear htt hlens
    by_cases h0 : 0 < qs.length
    · have h0I : (qs.length : Int) > 0 := by omega
      by_cases h4 : qs.length ≤ 40
      · have h4I : (qs.length : Int) ≤ 40 := by omega
        obtain rfl : t = true := by rw [HT2.out]; simp [h0, h4]
        go_wp2
        go_ret
        exact ⟨rfl, hb⟩
      · have h4I : ¬ (qs.length : Int) ≤ 40 := by omega
        obtain rfl : t = false := by rw [HT2.out]; simp [h4]
        go_wp2
        go_ret
        exact ⟨rfl, hb⟩
    · have h0I : ¬ (qs.length : Int) > 0 := by omega
      obtain rfl : t = false := by rw [HT2.out]; simp [h0]
      go_wp2
      go_ret
      exact ⟨rfl, hb⟩
end
section
open Go.RowKit Go.ChangeShapes Go.WideShapes Go.ChangeAt Go.Joins Go.Deep
theorem list4_10 {α : Type} (l : List α) (h : (⟨l⟩ : Array α).size = 4) : ∃ a b c d, l = [a, b, c, d] := by
 match l, h with
 | [a, b, c, d], _ => exact ⟨a, b, c, d, rfl⟩
theorem cellsArr10 : Tryz.prog.cellsOf 64 = 4 := by kernel_rfl
theorem cellsInt10 : Tryz.prog.cellsOf 3 = 1 := by kernel_rfl
theorem open_arr10 {H : Type} {enc : TypeId × Value → H} {W : World} {v : Value} {d : DataW H} {p : List MemPlace} {base : Nat}
 (hv : Value.okWide Tryz.prog W .any base 64 v) (h : DataW.Trod enc Tryz.prog W 0 (fun _ => true) true 64 v d p) : ∃ x0 x1 x2 x3 : Int, v = .agg #[.int .i64 x0, .int .i64 x1, .int .i64 x2, .int .i64 x3] := by
 obtain ⟨cs, rfl, hsz, _⟩ : ∃ cs, v = .agg cs ∧ cs.size = Tryz.prog.cellsOf 64 ∧ Row.okWide Tryz.prog W .any base 64 cs := by
  simpa [Value.okWide, Tryz.underlying64] using hv
 rw [cellsArr10] at hsz
 obtain ⟨l⟩ := cs
 obtain ⟨c0, c1, c2, c3, rfl⟩ := list4_10 l hsz
 obtain ⟨fuel, hf⟩ := h
 obtain ⟨y0, y1, y2, y3, m, hx, hy0, hy1, hy2, hy3⟩ := trod_array4 Tryz.underlying64 cellsInt10 hf
 obtain ⟨x0, e0, rfl, w0⟩ := DataW.trod_int Tryz.underlying3 hy0
 obtain ⟨x1, e1, rfl, w1⟩ := DataW.trod_int Tryz.underlying3 hy1
 obtain ⟨x2, e2, rfl, w2⟩ := DataW.trod_int Tryz.underlying3 hy2
 obtain ⟨x3, e3, rfl, w3⟩ := DataW.trod_int Tryz.underlying3 hy3
 simp at e0 e1 e2 e3
 subst e0 e1 e2 e3
 exact ⟨x0, x1, x2, x3, rfl⟩
end
end Go.Proofs.YtengpgodmbfmkaaGreat
