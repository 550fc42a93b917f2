/-
  Part 9 of 39: contracts and what they rest on (RefD, NatC, QLaw0).
-/
import Derived.Test.YtengpgodmbfmkaaGreatG6
namespace Go.Proofs.YtengpgodmbfmkaaGreat
set_option linter.unusedVariables false
set_option linter.unusedSimpArgs false
set_option maxRecDepth 100000
set_option maxHeartbeats 40000000
section
open Go.RowKit
theorem canonical_true {u : Value} {xs : List Int} {a : Option Addr} {capa : Nat} {w : World} (h1 : Arg w u xs a capa) (hx : xs.length ≤ 70368744177664) (hf : trimN xs xs.length = xs.length) :
 Calls Tryz.prog 152 #[u] w fun e w' => e = .returned (.bool true) ∧ w = w' := by
 obtain ⟨rfl, lx, _, _⟩ := h1
 have hl := trimN_last xs xs.length
 rw [hf] at hl
 have HF := Lib.hid hf
 clear hf
 rcases lx with rfl | ⟨b, off, rfl, hc⟩
 · clear hl
   go_enter Tryz.func152, Tryz.ntmps152
   have h0 : ((0 : Int) == 0) = true := by decide
   go_wp2
   go_ret
   exact ⟨rfl, rfl⟩
 · obtain ⟨m, hm⟩ : ∃ m, xs.length = m := ⟨_, rfl⟩
   rw [hm] at hl hc hx
   rw [hm]
   cases m with
   | zero =>
     clear hl hc
     have h0 : ((0 : Int) == 0) = true := by decide
     go_enter Tryz.func152, Tryz.ntmps152
     go_wp2
     go_ret
     exact ⟨rfl, rfl⟩
   | succ j =>
     have hj := hc j (by omega)
     have hne := hl (by omega)
     rw [Nat.add_sub_cancel] at hne
     obtain ⟨x, hxk⟩ : ∃ x, xs.getD j 0 = x := ⟨_, rfl⟩
     rw [hxk] at hj hne
     have hne2 : (x != 0) = true := by simp [hne]
     have h1 : ((j : Int) + 1 == 0) = false := by simp; omega
     clear hl hc hne hxk hm
     go_enter Tryz.func152, Tryz.ntmps152
     go_wp2
     go_ret
     exact ⟨rfl, rfl⟩
theorem is_true {u v : Value} {ds zs : List Int} {a b : Option Addr} {capa capb : Nat} {w : World} (h1 : ArgD w u ds a capa) (h2 : Arg w v zs b capb) (hx : ds.length ≤ 68719476736) (hy : zs.length ≤ 134217728)
 (hf : trimN zs zs.length = zs.length) (h : valD ds = val zs) :
 Calls Tryz.prog 124 #[u, v] w fun e w' => e = .returned (.bool true) ∧ Below w.heap.size w w' := by
 go_enter Tryz.func124, Tryz.ntmps124
 go_wp2_with fail
 refine (canonical_true h2 (by omega) hf).mono ?_
 rintro e w' ⟨rfl, rfl⟩
 go_wp2_with fail
 refine (of_any h2 hy).mono ?_
 rintro e w1 ⟨r, rfl, qs, hq, hl, hb⟩
 obtain ⟨ad, cap, A⟩ := hq.arg
 have h1' := h1.later hb
 go_wp2_with fail
 refine (cmpD_any A h1' (by omega) hx).mono ?_
 rintro e w2 ⟨rfl, hb2⟩
 rw [hq.eq, h, sign_self]
 have h0 : ((0 : Int) == 0) = true := by decide
 go_wp2_with fail
 go_ret
 exact ⟨rfl, hb.trans (hb2.mono hb.size)⟩
end
section
open Go.RowKit
theorem cmp_res {u v : Value} {xs ys : List Int} {a b : Option Addr} {capa capb : Nat} {w : World} (h1 : Arg w u xs a capa) (h2 : Arg w v ys b capb) (hx : xs.length ≤ 35184372088832) (hy : ys.length ≤ 35184372088832) :
 Calls Tryz.prog 150 #[u, v] w fun e w' => e = .returned (.int .i64 (sign (val xs) (val ys))) ∧ Below w.heap.size w w' := by
 rw [h1.is, h2.is]
 refine (cmp_any a b xs ys capa capb w h1.lim h2.lim hx hy h1.le h2.le).mono fun e w' ⟨r, he, hr, hb⟩ => ⟨?_, hb⟩
 have h := (cmp_val h1.wf.trim h2.wf.trim (trim_full xs) (trim_full ys) hr).1
 rw [val_trim, val_trim] at h
 rw [he, h]
end
section
open Go.RowKit Go.ChangeShapes Go.WideShapes Go.ChangeAt
theorem cmp_lt {u v : Value} {xs ys : List Int} {a b : Option Addr} {capa capb : Nat} {w : World} (h1 : Arg w u xs a capa) (h2 : Arg w v ys b capb) (hx : xs.length ≤ 35184372088832) (hy : ys.length ≤ 35184372088832) (h : val xs < val ys) :
 Calls Tryz.prog 150 #[u, v] w fun e w' => e = .returned (.int .i64 (-1)) ∧ Below w.heap.size w w' := by
 have k := cmp_res h1 h2 hx hy
 rwa [sign_lt h] at k
theorem lenD_pos {ds : List Int} (h : 0 < valD ds) : ((ds.length : Int) == 0) = false := by
 cases ds with
 | nil => simp [valD] at h
 | cons x l => simp; omega
theorem lenD_zero {ds : List Int} (h : WfD ds) (f : trimN ds ds.length = ds.length) (e : valD ds = 0) : ((ds.length : Int) == 0) = true := by rw [valD_zero h f e]; rfl
end
end Go.Proofs.YtengpgodmbfmkaaGreat
