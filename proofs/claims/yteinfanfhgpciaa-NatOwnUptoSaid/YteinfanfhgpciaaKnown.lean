/-
  The chapter's rows ('known'): it answers true.
-/
import Derived.Test.YteinfanfhgpciaaSame
namespace Go.Proofs.Yteinfanfhgpciaa
open Go.RowKit

theorem Blk.lit (w : World) (zs : List Int) : Blk (w.alloc (.cells (zs.map (Value.int .u32)).toArray 56)) w.heap.size zs := heap_alloc_new w _
theorem Blk.lim {w : World} {g : Nat} {zs : List Int} (h : Blk w g zs) : Lim w (some ⟨g, 0, none⟩) zs := .inr ⟨g, 0, rfl, fun i hi => by rw [Nat.zero_add]; exact h.cell i hi⟩

/-- a result: the number n, told in its one way -/
structure Res (base : Nat) (w : World) (u : Value) (zs : List Int) (n : Int) : Prop where
  num : Num base w u zs
  wf : Wf zs
  full : trimN zs zs.length = zs.length
  eq : val zs = n
theorem Res.later {base : Nat} {w w' : World} {u : Value} {zs : List Int} {n : Int} (h : Res base w u zs n) (hb : Below w.heap.size w w') : Res base w' u zs n := ⟨h.num.later hb, h.wf, h.full, h.eq⟩
theorem Res.unique {base base' : Nat} {w w' : World} {u u' : Value} {zs zs' : List Int} {n : Int} (h : Res base w u zs n) (h' : Res base' w' u' zs' n) : zs = zs' :=
  canon h.wf h'.wf h.full h'.full (h.eq.trans h'.eq.symm)

/-- an argument: the limbs xs -/
structure Arg (w : World) (u : Value) (xs : List Int) (ad : Option Addr) (cap : Nat) : Prop where
  is : u = .slice ad xs.length cap
  lim : Lim w ad xs
  le : xs.length ≤ cap
  wf : Wf xs
theorem Arg.later {w w' : World} {u : Value} {xs : List Int} {ad : Option Addr} {cap : Nat} (h : Arg w u xs ad cap) (hb : Below w.heap.size w w') : Arg w' u xs ad cap := ⟨h.is, h.lim.later hb, h.le, h.wf⟩
theorem Res.arg {base : Nat} {w : World} {u : Value} {zs : List Int} {n : Int} (h : Res base w u zs n) : ∃ ad cap, Arg w u zs ad cap := by
  obtain ⟨ad, cap, h1, h2, h3, _, _⟩ := h.num.read
  exact ⟨ad, cap, h1, h2, h3, h.wf⟩
theorem wf1 {x : Int} (h : 0 ≤ x ∧ x < 4294967296) : Wf [x] := Wf.cons h Wf.nil
theorem wf2 {x y : Int} (h : 0 ≤ x ∧ x < 4294967296) (k : 0 ≤ y ∧ y < 4294967296) : Wf [x, y] := Wf.cons h (wf1 k)

theorem trim_len_le (xs : List Int) : (trim xs).length ≤ xs.length := by rw [trim_length]; exact trim_le xs
theorem add_res {u v : Value} {xs ys : List Int} {a b : Option Addr} {capa capb : Nat} {w : World} (h1 : Arg w u xs a capa) (h2 : Arg w v ys b capb) (hx : xs.length ≤ 35184372088832) (hy : ys.length ≤ 35184372088832) :
    Calls Try.prog 28 #[u, v] w fun e w' => ∃ r zs, e = .returned r ∧ Res w.heap.size w' r zs (val xs + val ys) ∧ zs.length ≤ max xs.length ys.length + 1 ∧ Below w.heap.size w w' := by
  rw [h1.is, h2.is]
  refine (add_any a b xs ys capa capb w h1.lim h2.lim hx hy h1.le h2.le h1.wf h2.wf).mono fun e w' ⟨r, he, hn, hb⟩ => ⟨r, _, he, ⟨hn, (addL_wf h1.wf h2.wf).trim, trim_full _, by rw [val_trim, val_addL]⟩, ?_, hb⟩
  have := trim_len_le (addL xs ys)
  have h3 := addL_length xs ys
  have h4 := trim_le xs
  have h5 := trim_le ys
  unfold addN at h3
  omega
theorem mul_res {u v : Value} {xs ys : List Int} {a b : Option Addr} {capa capb : Nat} {w : World} (h1 : Arg w u xs a capa) (h2 : Arg w v ys b capb) (hx : xs.length ≤ 35184372088832) (hy : ys.length ≤ 35184372088832) :
    Calls Try.prog 31 #[u, v] w fun e w' => ∃ r zs, e = .returned r ∧ Res w.heap.size w' r zs (val xs * val ys) ∧ zs.length ≤ xs.length + ys.length ∧ Below w.heap.size w w' := by
  rw [h1.is, h2.is]
  refine (mul_any a b xs ys capa capb w h1.lim h2.lim hx hy h1.le h2.le h1.wf h2.wf).mono fun e w' ⟨r, he, hn, hb⟩ => ⟨r, _, he, ⟨hn, (mulL_wf h1.wf.trim h2.wf.trim).trim, trim_full _, by rw [val_trim, val_mulL, val_trim, val_trim]⟩, ?_, hb⟩
  have := trim_len_le (mulL (trim xs) (trim ys))
  have h3 := (mulOf_ok (trim xs) (trim ys) h1.wf.trim h2.wf.trim (List.range (trim xs).length)).1
  have h4 := trim_len_le xs
  have h5 := trim_len_le ys
  unfold mulL at this ⊢
  omega
theorem trim_res {u : Value} {xs : List Int} {a : Option Addr} {capa : Nat} {w : World} (h1 : Arg w u xs a capa) (hx : xs.length ≤ 35184372088832) :
    Calls Try.prog 24 #[u] w fun e w' => ∃ r zs, e = .returned r ∧ Res w.heap.size w' r zs (val xs) ∧ zs.length ≤ xs.length ∧ Below w.heap.size w w' := by
  rw [h1.is]
  exact (trim_any a xs capa w h1.lim hx h1.le).mono fun e w' ⟨r, he, hn, hb⟩ => ⟨r, _, he, ⟨hn, h1.wf.trim, trim_full _, val_trim xs⟩, trim_len_le xs, hb⟩
theorem sub_res {u v : Value} {xs ys : List Int} {a b : Option Addr} {capa capb : Nat} {w : World} (h1 : Arg w u xs a capa) (h2 : Arg w v ys b capb) (hx : xs.length ≤ 35184372088832) (hy : ys.length ≤ 35184372088832) (h : val ys ≤ val xs) :
    Calls Try.prog 29 #[u, v] w fun e w' => ∃ r zs, e = .returned (.tuple #[r, .int .i64 0]) ∧ Res w.heap.size w' r zs (val xs - val ys) ∧ zs.length ≤ xs.length ∧ Below w.heap.size w w' := by
  rw [h1.is, h2.is]
  refine (sub_any a b xs ys capa capb w h1.lim h2.lim hx hy h1.le h2.le h1.wf h2.wf).mono fun e w' ⟨r, hr, hb, _, hpos⟩ => ?_
  obtain ⟨he, hl⟩ := cmp_val h1.wf.trim h2.wf.trim (trim_full xs) (trim_full ys) hr
  rw [val_trim, val_trim] at he
  have h0 : 0 ≤ r := by rw [he]; unfold sign; rw [if_neg (by omega)]; split <;> omega
  obtain ⟨z, hz, hn⟩ := hpos h0
  have hl2 := hl h0
  rw [trim_length, trim_length] at hl2
  refine ⟨z, _, hz, ⟨hn, (subL_wf xs ys).trim, trim_full _, by rw [val_trim, val_subL h1.wf h2.wf hl2 h]⟩, ?_, hb⟩
  have h3 := trim_len_le (subL xs ys)
  have h4 := (subOf_ok xs ys (trimN xs xs.length) h1.wf h2.wf (List.range (trimN xs xs.length))).1
  have h5 := trim_le xs
  unfold subL at h3 ⊢
  omega
theorem sub_err {u v : Value} {xs ys : List Int} {a b : Option Addr} {capa capb : Nat} {w : World} (h1 : Arg w u xs a capa) (h2 : Arg w v ys b capb) (hx : xs.length ≤ 35184372088832) (hy : ys.length ≤ 35184372088832) (h : val xs < val ys) :
    Calls Try.prog 29 #[u, v] w fun e w' => e = .returned (.tuple #[.slice none 0 0, .int .i64 20]) ∧ Below w.heap.size w w' := by
  rw [h1.is, h2.is]
  refine (sub_any a b xs ys capa capb w h1.lim h2.lim hx hy h1.le h2.le h1.wf h2.wf).mono fun e w' ⟨r, hr, hb, hneg, _⟩ => ?_
  obtain ⟨he, _⟩ := cmp_val h1.wf.trim h2.wf.trim (trim_full xs) (trim_full ys) hr
  rw [val_trim, val_trim, sign_lt h] at he
  exact ⟨hneg (by omega), hb⟩
theorem same_res {u v : Value} {xs ys : List Int} {a b : Option Addr} {capa capb : Nat} {w : World} (h1 : Arg w u xs a capa) (h2 : Arg w v ys b capb) (hx : xs.length ≤ 70368744177664) (h : xs = ys) :
    Calls Try.prog 32 #[u, v] w fun e w' => e = .returned (.bool true) ∧ w = w' := by
  rw [h1.is, h2.is]
  exact same_any a b xs ys capa capb w h1.lim h2.lim hx (by rw [← h]; exact hx) h

theorem lit_arg (w : World) (g : Nat) (zs : List Int) (h : Blk w g zs) (hw : Wf zs) : Arg w (.slice (some ⟨g, 0, none⟩) zs.length zs.length) zs (some ⟨g, 0, none⟩) zs.length := ⟨rfl, h.lim, Nat.le_refl _, hw⟩

set_option maxRecDepth 100000 in
set_option maxHeartbeats 2000000 in
theorem known_any (w : World) : Calls Try.prog 23 #[] w fun e w' => e = .returned (.bool true) ∧ Below w.heap.size w w' := by
  have b0 : Blk (w.alloc (.cells #[.int .u32 4294967295] 56)) w.heap.size [4294967295] := Blk.lit w [4294967295]
  have hB0 : Below w.heap.size w (w.alloc (.cells #[.int .u32 4294967295] 56)) := (Below.refl _ w).alloc (Nat.le_refl _) _
  have s0 : (w.alloc (.cells #[.int .u32 4294967295] 56)).heap.size = w.heap.size + 1 := by simp
  have b1 : Blk ((w.alloc (.cells #[.int .u32 4294967295] 56)).alloc (.cells #[.int .u32 1] 56)) (w.heap.size + 1) [1] := by have h := Blk.lit (w.alloc (.cells #[.int .u32 4294967295] 56)) [1]; rw [s0] at h; exact h
  have b2 : Blk (((w.alloc (.cells #[.int .u32 4294967295] 56)).alloc (.cells #[.int .u32 1] 56)).alloc (.cells #[.int .u32 2] 56)) (w.heap.size + 1 + 1) [2] := by
    have h := Blk.lit ((w.alloc (.cells #[.int .u32 4294967295] 56)).alloc (.cells #[.int .u32 1] 56)) [2]; rw [World.size_alloc, s0] at h; exact h
  have hB2 : Below w.heap.size w (((w.alloc (.cells #[.int .u32 4294967295] 56)).alloc (.cells #[.int .u32 1] 56)).alloc (.cells #[.int .u32 2] 56)) := (hB0.alloc (by simp) _).alloc (by simp; omega) _
  have a1 := lit_arg _ _ _ (b1.alloc (.cells #[.int .u32 2] 56)) (wf1 (by omega))
  have a2 := lit_arg _ _ _ b2 (wf1 (by omega))
  have b0' := (b0.alloc (.cells #[.int .u32 1] 56)).alloc (.cells #[.int .u32 2] 56)
  have s2 : (((w.alloc (.cells #[.int .u32 4294967295] 56)).alloc (.cells #[.int .u32 1] 56)).alloc (.cells #[.int .u32 2] 56)).heap.size = w.heap.size + 3 := by simp
  clear b0 hB0 b1 b2 s0
  go_enter Try.func23, Try.ntmps23
  go_wp2_with fail
  refine (sub_err a1 a2 (by simp) (by simp) (by simp [val])).mono ?_
  rintro e V ⟨rfl, hb⟩
  have bV : Blk V w.heap.size [4294967295] := b0'.below hb (by omega)
  have hV : Below w.heap.size w V := hB2.trans (hb.mono (by omega))
  have sV : w.heap.size + 1 ≤ V.heap.size := by have := hb.size; omega
  clear hb a1 a2 b0' hB2 s2
  have c1 := lit_arg _ _ _ (Blk.lit V [1]) (wf1 (by omega))
  have c0 := lit_arg _ _ _ (bV.alloc (.cells ([1].map (Value.int .u32)).toArray 56)) (wf1 (by omega))
  have hV1 : Below w.heap.size w (V.alloc (.cells ([1].map (Value.int .u32)).toArray 56)) := hV.alloc (by omega) _
  have sV1 : (V.alloc (.cells ([1].map (Value.int .u32)).toArray 56)).heap.size = V.heap.size + 1 := by simp
  go_wp2_with fail
  refine (add_res c0 c1 (by simp) (by simp)).mono ?_
  rintro e X ⟨r, zs, rfl, hr, hlen, hb⟩
  have bX : Blk X w.heap.size [4294967295] := (bV.alloc _).below hb (by omega)
  have hX : Below w.heap.size w X := hV1.trans (hb.mono (by omega))
  have sX : w.heap.size + 1 ≤ X.heap.size := by have := hb.size; omega
  clear c0 c1 hb hV hV1 bV sV1
  -- the sum is 0, 1
  have d1 := lit_arg _ _ _ (Blk.lit X [0, 1]) (wf2 (by omega) (by omega))
  have hz : zs = [0, 1] := canon hr.wf (wf2 (by omega) (by omega)) hr.full rfl (hr.eq.trans (by simp [val]))
  obtain ⟨ad, cap, hra⟩ := hr.arg
  have hra2 := hra.later ((Below.refl _ X).alloc (Nat.le_refl _) (.cells ([0, 1].map (Value.int .u32)).toArray 56))
  have bX1 := bX.alloc (.cells ([0, 1].map (Value.int .u32)).toArray 56)
  have hX1 : Below w.heap.size w (X.alloc (.cells ([0, 1].map (Value.int .u32)).toArray 56)) := hX.alloc (by omega) _
  have sX1 : (X.alloc (.cells ([0, 1].map (Value.int .u32)).toArray 56)).heap.size = X.heap.size + 1 := by simp
  have HZ := Lib.hid hz
  clear hr hra hz
  go_wp2_with fail
  refine (same_res hra2 d1 (by simp only [List.length_cons, List.length_nil] at hlen; omega) HZ.out).mono ?_
  rintro e w' ⟨rfl, rfl⟩
  clear hra2 d1 hlen bX hX HZ
  have e0 := lit_arg _ _ _ bX1 (wf1 (by omega))
  go_wp2_with fail
  refine (mul_res e0 e0 (by simp) (by simp)).mono ?_
  rintro e Y ⟨q, ys, rfl, hq, hlen, hb⟩
  have hY : Below w.heap.size w Y := hX1.trans (hb.mono (by omega))
  have sY : w.heap.size + 1 ≤ Y.heap.size := by have := hb.size; omega
  clear e0 hb hX1 bX1 sX1 sX
  have f1 := lit_arg _ _ _ (Blk.lit Y [1, 4294967294]) (wf2 (by omega) (by omega))
  have hz : ys = [1, 4294967294] := canon hq.wf (wf2 (by omega) (by omega)) hq.full rfl (hq.eq.trans (by simp [val]))
  obtain ⟨ad', cap', hqa⟩ := hq.arg
  have hqa2 := hqa.later ((Below.refl _ Y).alloc (Nat.le_refl _) (.cells ([1, 4294967294].map (Value.int .u32)).toArray 56))
  have hY1 : Below w.heap.size w (Y.alloc (.cells ([1, 4294967294].map (Value.int .u32)).toArray 56)) := hY.alloc (by omega) _
  have sY1 : (Y.alloc (.cells ([1, 4294967294].map (Value.int .u32)).toArray 56)).heap.size = Y.heap.size + 1 := by simp
  have HZ := Lib.hid hz
  clear hq hqa hz
  go_wp2_with fail
  refine (same_res hqa2 f1 (by simp only [List.length_cons, List.length_nil] at hlen; omega) HZ.out).mono ?_
  rintro e w' ⟨rfl, rfl⟩
  clear hqa2 f1 hlen HZ
  have g1 := (Blk.lit (Y.alloc (.cells ([1, 4294967294].map (Value.int .u32)).toArray 56)) [0, 1]).lim
  rw [sY1] at g1
  have hY2 : Below w.heap.size w ((Y.alloc (.cells ([1, 4294967294].map (Value.int .u32)).toArray 56)).alloc (.cells ([0, 1].map (Value.int .u32)).toArray 56)) := hY1.alloc (by omega) _
  have h20 : ((20 : Int) == 20) = true := by decide
  have hbits : bitsN [0, 1] = 33 := by decide +kernel
  have h33 : ((33 : Int) == 33) = true := by decide
  go_wp2_with fail
  refine (bits_any (some ⟨Y.heap.size + 1, 0, none⟩) [0, 1] 2 _ g1 (by simp) (by simp) (wf2 (by omega) (by omega))).mono ?_
  rintro e w' ⟨rfl, rfl⟩
  go_wp2_with fail
  go_ret
  exact ⟨rfl, hY2⟩
end Go.Proofs.Yteinfanfhgpciaa
