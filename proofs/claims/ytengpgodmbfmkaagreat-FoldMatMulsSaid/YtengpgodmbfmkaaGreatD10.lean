/-
  Part 10 of 30: contracts and what they rest on (RefC, RefD, NatC, QLaw0).
-/
import Derived.Test.YtengpgodmbfmkaaGreatD6
namespace Go.Proofs.YtengpgodmbfmkaaGreat
set_option linter.unusedVariables false
set_option linter.unusedSimpArgs false
set_option maxRecDepth 100000
set_option maxHeartbeats 40000000
section
open Go.RowKit
theorem val_drop (xs : List Int) (j : Nat) (h : j < xs.length) : val (xs.drop j) = xs.getD j 0 + 4294967296 * val (xs.drop (j + 1)) := by
 rw [List.drop_eq_getElem_cons h]
 simp [val, h]
theorem of_any {u : Value} {xs : List Int} {a : Option Addr} {capa : Nat} {w : World} (h1 : Arg w u xs a capa) (hx : xs.length ≤ 134217728) :
 Calls Tryz.prog 72 #[u] w fun e w' => ∃ r, e = .returned r ∧ ∃ zs, ResD w.heap.size w' r zs (val xs) ∧ zs.length ≤ 5 * xs.length ∧ Below w.heap.size w w' := by
 obtain ⟨rfl, lx, _, wx⟩ := h1
 go_enter Tryz.func72, Tryz.ntmps72
 go_wp2
 go_loopw [3, 4] (fun s i wr => ∃ (k : Nat) (q : Value) (ds : List Int), k ≤ xs.length ∧ q = s ∧ i = .int .i64 ((xs.length : Int) - 1 - k) ∧ ResD w.heap.size wr q ds (val (xs.drop (xs.length - k))) ∧ ds.length ≤ 5 * k ∧ Below w.heap.size w wr) (fun _ i _ => (intOf i + 1).toNat)
 case atStart => exact ⟨0, _, [], Nat.zero_le _, rfl, by simp, ⟨World.ownsRow_nil _ _ _ _, WfD.nil, rfl, by simp [val, valD]⟩, by simp, Below.refl _ _⟩
 case round =>
  obtain ⟨k, q, ds, hk, rfl, rfl, hres, hlen, hb⟩ := hrel
  have hsz := hb.size
  by_cases hlt : k < xs.length
  · rcases lx with rfl | ⟨b, off, rfl, hc⟩
    · simp at hlt
    · obtain ⟨j, hj⟩ : ∃ j, j + k + 1 = xs.length := ⟨xs.length - k - 1, by omega⟩
      have hji : ((xs.length : Int) - 1 - k) = (j : Int) := by omega
      obtain ⟨x, hxk⟩ : ∃ x, xs.getD j 0 = x := ⟨_, rfl⟩
      obtain ⟨bx0, bx1⟩ : 0 ≤ x ∧ x < 4294967296 := hxk ▸ wx.getD j
      have hjl : j < xs.length := by omega
      have hcj := hc j hjl
      rw [hxk] at hcj
      have hc0 : wr.drew.cell? ⟨b, off + j, none⟩ = some (.int .u32 x) := (hb.cell (p := ⟨b, off + j, none⟩) (World.block_lt_of_cell? w _ hcj)).trans hcj
      have hc00 : wr.cell? ⟨b, off + j, none⟩ = some (.int .u32 x) := hc0
      rw [hji]
      obtain ⟨ad0, cap0, A0'⟩ := hres.arg
      have A0 : ArgD wr.drew q ds ad0 cap0 := A0'.later ((Below.refl wr.heap.size wr).drew)
      have hval : val (xs.drop (xs.length - (k + 1))) = valD ds * 65536 * 65536 + x := by
       rw [show xs.length - (k + 1) = j from by omega, val_drop xs j hjl, hxk, hres.eq, show xs.length - k = j + 1 from by omega]
       omega
      have hwx : IntKind.i64.wrap x = x := IntWalk.i64_in _ (by omega)
      have HV := Lib.hid hval
      have HJ := Lib.hid hj
      clear hj hxk hc hcj hji hval A0'
      have hge : (0 : Int) ≤ (j : Int) := by omega
      go_wp2_with fail
      go_region_held3 (fun w' => w'.cell? ⟨b, off + j, none⟩ = some (.int .u32 x)) (first | exact hc4 | exact hc3 | exact hc2 | exact hc1 | exact hc0 | go_keep)
       (first
        | (go_at_call 78; refine (addD_any A2s A3 (by omega) (by omega)).mono ?_; rintro e w4 ⟨r4, rfl, z4, q4, n4, hb4⟩; have hc4 := (hb4.cell (p := ⟨b, off + j, none⟩) (World.block_lt_of_cell? w3 _ hc3)).trans hc3)
        | (go_at_call 113; refine (small_any x _ bx0 (by omega)).mono ?_; rintro e w3 ⟨r3, rfl, z3, q3, n3, hb3⟩; obtain ⟨ad3, cap3, A3⟩ := q3.arg; have A2s := A2.later hb3; have hc3 := (hb3.cell (p := ⟨b, off + j, none⟩) (World.block_lt_of_cell? w2 _ hc2)).trans hc2)
        | (go_at_call 112; first
         | (refine (times_any 65536 A1 (by omega) (by omega)).mono ?_; rintro e w2 ⟨r2, rfl, z2, q2, n2, hb2⟩; obtain ⟨ad2, cap2, A2⟩ := q2.arg; have hc2 := (hb2.cell (p := ⟨b, off + j, none⟩) (World.block_lt_of_cell? w1 _ hc1)).trans hc1)
         | (refine (times_any 65536 A0 (by omega) (by omega)).mono ?_; rintro e w1 ⟨r1, rfl, z1, q1, n1, hb1⟩; obtain ⟨ad1, cap1, A1⟩ := q1.arg; have hc1 := (hb1.cell (p := ⟨b, off + j, none⟩) (World.block_lt_of_cell? _ _ hc0)).trans hc0)))
      have hs1 : wr.heap.size ≤ w1.heap.size := hb1.size
      have hs2 := hb2.size
      have hs3 := hb3.size
      have hB4 : Below w.heap.size w w4 := (((hb.trans (Below.mono (show Below wr.heap.size wr w1 from ⟨hb1.os, hb1.tape, hb1.output, hb1.size, hb1.block⟩) hsz)).trans (hb2.mono (by omega))).trans (hb3.mono (by omega))).trans (hb4.mono (by omega))
      have hv4 : valD z4 = val (xs.drop (xs.length - (k + 1))) := by rw [q4.eq, q2.eq, q1.eq, q3.eq, HV.out]
      have HV4 := Lib.hid hv4
      clear hv4
      go_wp2
      go_roundw
      case rel => exact ⟨k + 1, r4, z4, by omega, rfl, by have := HJ.out; congr 1; omega, ⟨q4.num.mono (by omega), q4.wf, q4.full, HV4.out⟩, by omega, hB4⟩
      case measure => simp [intOf]
  · obtain rfl : k = xs.length := by omega
    have hji : ((xs.length : Int) - 1 - xs.length) = -1 := by omega
    rw [hji]
    clear hji
    have hv : valD ds = val xs := by have h := hres.eq; rwa [Nat.sub_self, List.drop_zero] at h
    go_wp2
    go_ret
    exact ⟨_, rfl, ds, ⟨hres.num, hres.wf, hres.full, hv⟩, hlen, hb⟩
theorem cmpD_any {u v : Value} {us vs : List Int} {a b : Option Addr} {capa capb : Nat} {w : World} (h1 : ArgD w u us a capa) (h2 : ArgD w v vs b capb) (hx : us.length ≤ 68719476736) (hy : vs.length ≤ 68719476736) :
 Calls Tryz.prog 79 #[u, v] w fun e w' => e = .returned (.int .i64 (sign (valD us) (valD vs))) ∧ Below w.heap.size w w' := by
 obtain ⟨rfl, lx, _, wx, fx⟩ := h1
 obtain ⟨rfl, ly, _, wy, fy⟩ := h2
 have key : ∀ r, CmpT us vs r → r = sign (valD us) (valD vs) := fun r h => (cmp_valD wx wy fx fy h).1
 have KEY := Lib.hid key
 clear key fx fy
 by_cases hne : us.length = vs.length
 · have hne2 : ((us.length : Int) != (vs.length : Int)) = false := by simp; omega
   have HE := Lib.hid hne
   clear hne
   go_enter Tryz.func79, Tryz.ntmps79
   go_wp2
   go_loopw [5] (fun i wr => ∃ k : Nat, k ≤ us.length ∧ i = .int .i64 ((us.length : Int) - 1 - k) ∧ (∀ j, us.length - k ≤ j → j < us.length → us.getD j 0 = vs.getD j 0) ∧ Below w.heap.size w wr) (fun i _ => (intOf i + 1).toNat)
   case atStart => exact ⟨0, Nat.zero_le _, by simp, fun j h1 h2 => by omega, Below.refl _ _⟩
   case round =>
    obtain ⟨k, hk, rfl, hall, hb⟩ := hrel
    have hE := HE.out
    by_cases hlt : k < us.length
    · rcases lx with rfl | ⟨ba, offa, rfl, hca⟩
      · simp at hlt
      rcases ly with rfl | ⟨bb, offb, rfl, hcb⟩
      · simp only [List.length_nil] at hE; omega
      obtain ⟨j, hj⟩ : ∃ j, j + k + 1 = us.length := ⟨us.length - k - 1, by omega⟩
      have hji : ((us.length : Int) - 1 - k) = (j : Int) := by omega
      obtain ⟨x, hxk⟩ : ∃ x, us.getD j 0 = x := ⟨_, rfl⟩
      obtain ⟨y, hyk⟩ : ∃ y, vs.getD j 0 = y := ⟨_, rfl⟩
      have cx := hca j (by omega)
      have cy := hcb j (by omega)
      rw [hxk] at cx
      rw [hyk] at cy
      have cx0 := (hb.cell (p := ⟨ba, offa + j, none⟩) (World.block_lt_of_cell? w _ cx)).trans cx
      have cy0 := (hb.cell (p := ⟨bb, offb + j, none⟩) (World.block_lt_of_cell? w _ cy)).trans cy
      have hju : (j : Int) < (us.length : Int) := by omega
      have hjv : (j : Int) < (vs.length : Int) := by omega
      have hj0 : (0 : Int) ≤ (j : Int) := by omega
      rw [hji]
      have HJ := Lib.hid hj
      have HX := Lib.hid hxk
      have HY := Lib.hid hyk
      have HA := Lib.hid hall
      clear hj hji hxk hyk hall hca hcb cx cy hE hlt hk
      have dif : x ≠ y → CmpT us vs (sign x y) := fun h => by
       refine .inr (.inr ⟨HE.out, j, by omega, ?_, fun i hi1 hi2 => HA.out i (by have := HJ.out; omega) hi2, ?_⟩)
       · show us.getD j 0 ≠ vs.getD j 0
         rw [HX.out, HY.out]; exact h
       · show _ = sign (us.getD j 0) (vs.getD j 0)
         rw [HX.out, HY.out]
      have DIF := Lib.hid dif
      clear dif
      rcases Int.lt_trichotomy x y with h | h | h
      · have hd : decide (x < y) = true := by simp [h]
        go_wp2
        go_quiet (fail)
        go_wp2
        go_ret
        refine ⟨?_, ?_⟩
        · rw [← KEY.out _ (DIF.out (by omega)), sign_lt h]; rfl
        · exact ⟨hb.os, hb.tape, hb.output, hb.size, hb.block⟩
      · subst h
        have hd : decide (x < x) = false := by simp
        go_wp2
        go_quiet (fail)
        go_wp2
        go_quiet (fail)
        go_wp2
        go_roundw
        case rel =>
         refine ⟨k + 1, by have := HJ.out; omega, by have := HJ.out; congr 1; omega, fun i hi1 hi2 => ?_, ⟨hb.os, hb.tape, hb.output, hb.size, hb.block⟩⟩
         by_cases e : i = j
         · subst e; rw [HX.out, HY.out]
         · exact HA.out i (by have := HJ.out; omega) hi2
        case measure => simp [intOf]
      · have hd : decide (x < y) = false := by simp; omega
        have hd2 : decide (y < x) = true := by simp [h]
        go_wp2
        go_quiet (fail)
        go_wp2
        go_quiet (fail)
        go_wp2
        go_ret
        refine ⟨?_, ⟨hb.os, hb.tape, hb.output, hb.size, hb.block⟩⟩
        rw [← KEY.out _ (DIF.out (by omega)), sign_gt h]; rfl
    · obtain rfl : k = us.length := by omega
      have hji : ((us.length : Int) - 1 - us.length) = -1 := by omega
      rw [hji]
      clear hji
      have HA := Lib.hid hall
      clear hall hE
      go_wp2
      go_ret
      refine ⟨?_, hb⟩
      rw [← KEY.out 0 (.inr (.inl ⟨HE.out, fun i hi => HA.out i (by omega) hi, rfl⟩))]
      rfl
 · have hne2 : ((us.length : Int) != (vs.length : Int)) = true := by simp; omega
   have HN := Lib.hid hne
   by_cases h : us.length < vs.length
   · have hd : (us.length : Int) < (vs.length : Int) := by omega
     clear hne
     go_enter Tryz.func79, Tryz.ntmps79
     go_wp2
     go_ret
     refine ⟨?_, Below.refl _ _⟩
     rw [← KEY.out _ (.inl ⟨HN.out, rfl⟩), sign_lt hd]; rfl
   · have hd : (vs.length : Int) < (us.length : Int) := by omega
     clear hne h
     go_enter Tryz.func79, Tryz.ntmps79
     go_wp2
     go_ret
     refine ⟨?_, Below.refl _ _⟩
     rw [← KEY.out _ (.inl ⟨HN.out, rfl⟩), sign_gt hd]; rfl
end
section
open Go.RowKit
theorem canonical_true {u : Value} {xs : List Int} {a : Option Addr} {capa : Nat} {w : World} (h1 : Arg w u xs a capa) (hx : xs.length ≤ 70368744177664) (hf : trimN xs xs.length = xs.length) :
 Calls Tryz.prog 152 #[u] w fun e w' => e = .returned (.bool true) ∧ w = w' := by
 obtain ⟨rfl, lx, _, _⟩ := h1
 have hl := trimN_last xs xs.length
 rw [hf] at hl
 have HF := Lib.hid hf
 clear hf
 rcases lx with rfl | ⟨b, off, rfl, hc⟩
 · clear hl
   go_enter Tryz.func152, Tryz.ntmps152
   have h0 : ((0 : Int) == 0) = true := by decide
   go_wp2
   go_ret
   exact ⟨rfl, rfl⟩
 · obtain ⟨m, hm⟩ : ∃ m, xs.length = m := ⟨_, rfl⟩
   rw [hm] at hl hc hx
   rw [hm]
   cases m with
   | zero =>
    clear hl hc
    have h0 : ((0 : Int) == 0) = true := by decide
    go_enter Tryz.func152, Tryz.ntmps152
    go_wp2
    go_ret
    exact ⟨rfl, rfl⟩
   | succ j =>
    have hj := hc j (by omega)
    have hne := hl (by omega)
    rw [Nat.add_sub_cancel] at hne
    obtain ⟨x, hxk⟩ : ∃ x, xs.getD j 0 = x := ⟨_, rfl⟩
    rw [hxk] at hj hne
    have hne2 : (x != 0) = true := by simp [hne]
    have h1 : ((j : Int) + 1 == 0) = false := by simp; omega
    clear hl hc hne hxk hm
    go_enter Tryz.func152, Tryz.ntmps152
    go_wp2
    go_ret
    exact ⟨rfl, rfl⟩
theorem is_true {u v : Value} {ds zs : List Int} {a b : Option Addr} {capa capb : Nat} {w : World} (h1 : ArgD w u ds a capa) (h2 : Arg w v zs b capb) (hx : ds.length ≤ 68719476736) (hy : zs.length ≤ 134217728)
 (hf : trimN zs zs.length = zs.length) (h : valD ds = val zs) :
 Calls Tryz.prog 124 #[u, v] w fun e w' => e = .returned (.bool true) ∧ Below w.heap.size w w' := by
 go_enter Tryz.func124, Tryz.ntmps124
 go_wp2_with fail
 refine (canonical_true h2 (by omega) hf).mono ?_
 rintro e w' ⟨rfl, rfl⟩
 go_wp2_with fail
 refine (of_any h2 hy).mono ?_
 rintro e w1 ⟨r, rfl, qs, hq, hl, hb⟩
 obtain ⟨ad, cap, A⟩ := hq.arg
 have h1' := h1.later hb
 go_wp2_with fail
 refine (cmpD_any A h1' (by omega) hx).mono ?_
 rintro e w2 ⟨rfl, hb2⟩
 rw [hq.eq, h, sign_self]
 have h0 : ((0 : Int) == 0) = true := by decide
 go_wp2_with fail
 go_ret
 exact ⟨rfl, hb.trans (hb2.mono hb.size)⟩
end
section
open Go.RowKit
theorem cmp_res {u v : Value} {xs ys : List Int} {a b : Option Addr} {capa capb : Nat} {w : World} (h1 : Arg w u xs a capa) (h2 : Arg w v ys b capb) (hx : xs.length ≤ 35184372088832) (hy : ys.length ≤ 35184372088832) :
 Calls Tryz.prog 150 #[u, v] w fun e w' => e = .returned (.int .i64 (sign (val xs) (val ys))) ∧ Below w.heap.size w w' := by
 rw [h1.is, h2.is]
 refine (cmp_any a b xs ys capa capb w h1.lim h2.lim hx hy h1.le h2.le).mono fun e w' ⟨r, he, hr, hb⟩ => ⟨?_, hb⟩
 have h := (cmp_val h1.wf.trim h2.wf.trim (trim_full xs) (trim_full ys) hr).1
 rw [val_trim, val_trim] at h
 rw [he, h]
end
section
open Go.RowKit Go.ChangeShapes Go.WideShapes Go.ChangeAt
theorem cmp_lt {u v : Value} {xs ys : List Int} {a b : Option Addr} {capa capb : Nat} {w : World} (h1 : Arg w u xs a capa) (h2 : Arg w v ys b capb) (hx : xs.length ≤ 35184372088832) (hy : ys.length ≤ 35184372088832) (h : val xs < val ys) :
 Calls Tryz.prog 150 #[u, v] w fun e w' => e = .returned (.int .i64 (-1)) ∧ Below w.heap.size w w' := by
 have k := cmp_res h1 h2 hx hy
 rwa [sign_lt h] at k
end
end Go.Proofs.YtengpgodmbfmkaaGreat
