/-
  The reference of layer 7: Full.
-/
import Derived.Test.YtnhfjacifajdlaaGreatTBits
namespace Go.Proofs.YtnhfjacifajdlaaGreat
open Go.RowKit
set_option linter.unusedVariables false
set_option linter.unusedSimpArgs false

set_option maxRecDepth 100000 in
set_option maxHeartbeats 4000000 in
theorem fullT_any {n : Nat} {w : World} {u v : Value} {s : List Int} {X : Rat} {a : Option Addr} {ca : Nat} (A : ArgS w u s a ca) (na : a = none → ca = 0) (hv : ArgR w v X n) (hs : s.length ≤ 17592186044416) :
    Calls Tryz.prog 27 #[u, v] w fun e w' => ∃ (r : Value) (a' b' : Option Addr) (ca' cb' : Nat), e = .returned r ∧ TensR w' r s (List.replicate (countS s).toNat X) n a' ca' b' cb' ∧ Below w.heap.size w w' := by
  obtain ⟨i0, hi, hz0, hz1, hz2⟩ := info_parts infoR
  have HA := Lib.hid A
  have HV := Lib.hid hv
  have NA := Lib.hid na
  obtain rfl := A.is
  obtain ⟨z1, z2, f1, f2, j1, j2, rfl, _⟩ := hv
  obtain ⟨m, hm⟩ : ∃ m, decide (X.num < 0) = m := ⟨_, rfl⟩
  obtain ⟨C, hC⟩ : ∃ C : Nat, (countS s).toNat = C := ⟨_, rfl⟩
  have hcI : countS s = (C : Int) := by
    by_cases h : mayC s = 0
    · have ok := mayC_zero.1 h
      have := ok.count
      have := prodS_pos ok.pos
      omega
    · rw [count_bad h] at hC ⊢; omega
  have hC4 : C ≤ 1024 := by
    by_cases h : mayC s = 0
    · have ok := mayC_zero.1 h
      have := ok.count
      have := ok.few
      omega
    · rw [count_bad h] at hC; omega
  have HVM : Hid (ArgR w (.agg #[.bool m, .slice f1 z1.length j1, .slice f2 z2.length j2]) X n) := by rw [← hm]; exact HV
  rw [hm, hC]
  obtain ⟨W, hW⟩ : ∃ W, ((w.alloc (.cells #[.bool m, .slice f1 z1.length j1, .slice f2 z2.length j2] 50)).alloc (.cells #[.slice none 0 0, .slice none 0 0] 39)) = W := ⟨_, rfl⟩
  have R0 : Row W w.heap.size 50 #[.bool m, .slice f1 z1.length j1, .slice f2 z2.length j2] := by rw [← hW]; exact (Row.new _ _ _).alloc _
  have R1 : Row W (w.heap.size + 1) 39 #[.slice none 0 0, .slice none 0 0] := by rw [← hW]; have h := (Row.new (w.alloc (.cells #[.bool m, .slice f1 z1.length j1, .slice f2 z2.length j2] 50)) 39 #[.slice none 0 0, .slice none 0 0]); simp only [World.size_alloc] at h; exact h
  have hBW : Below w.heap.size w W := by rw [← hW]; exact ((Below.refl _ _).alloc (by simp) _).alloc (by simp) _
  have hsW : w.heap.size + 1 + 1 ≤ W.heap.size := by rw [← hW]; simp
  have AW := A.later hBW
  have q2 := fun X (hX : Below w.heap.size w X) => countR6_any (HA.out.later hX)
  rw [hcI] at q2
  clear A na hm hC hcI HV
  go_enter Tryz.func27, Tryz.ntmps27
  go_wp2_with (at_builtin; refine step_copyS rfl _ 22 Tryz.underlying22 rfl rfl AW NA.out hs ?_; intro ro w3 R3 hb3; obtain ⟨a3, c3, rfl, R3', A3, n3⟩ := R3.slice)
  have hs3 := hb3.size
  have hB3 : Below w.heap.size w w3 := hBW.trans (hb3.mono (by omega))
  have hB4 : Below w.heap.size w (w3.alloc (.cells #[.slice a3 s.length c3, .slice none 0 0] 39)) := hB3.alloc (by omega) _
  have r0 := (R0.later hb3).alloc (.cells #[.slice a3 s.length c3, .slice none 0 0] 39)
  have r1 := (R1.later hb3).alloc (.cells #[.slice a3 s.length c3, .slice none 0 0] 39)
  have r2 := Row.new w3 39 #[.slice a3 s.length c3, .slice none 0 0]
  have r3 : ResS w.heap.size (w3.alloc (.cells #[.slice a3 s.length c3, .slice none 0 0] 39)) (.slice a3 s.length c3) s := (R3'.mono (by omega)).later ((Below.refl _ _).alloc (Nat.le_refl _) _)
  obtain ⟨g, hg⟩ : ∃ g, w3.heap.size = g := ⟨_, rfl⟩
  have hg2 : w.heap.size + 1 + 1 ≤ g := by omega
  rw [hg] at r2 ⊢
  generalize w3.alloc (.cells #[.slice a3 s.length c3, .slice none 0 0] 39) = W4 at *
  have H0 := Lib.hid r0
  have H1 := Lib.hid r1
  have H2 := Lib.hid r2
  have H3 := Lib.hid r3
  have HB4 := Lib.hid hB4
  clear r0 r1 r2 r3 hB4 hB3 hb3 hs3 R3 R3' A3 R0 R1 hBW AW hsW hg hW
  go_loopw [6] (fun i wr => ∃ (k : Nat) (v : Value), i = .int .i64 (k : Int) ∧ k ≤ C ∧ Row wr w.heap.size 50 #[.bool m, .slice f1 z1.length j1, .slice f2 z2.length j2] ∧ Row wr (w.heap.size + 1) 39 #[.slice none 0 0, .slice none 0 0] ∧
    Row wr g 39 #[.slice a3 s.length c3, v] ∧ ResS w.heap.size wr (.slice a3 s.length c3) s ∧ RowO (w.heap.size + 1) 50 (fun _ v (x : Rat) => v = .agg #[.bool m, .slice f1 z1.length j1, .slice f2 z2.length j2] ∧ x = X) wr v (List.replicate k X) ∧ Below w.heap.size w wr) (fun i _ => C - (intOf i).toNat)
  case atStart => exact ⟨0, _, rfl, Nat.zero_le _, H0.out, H1.out, H2.out, H3.out, RowO.nil _ _ _ _, HB4.out⟩
  case round =>
    obtain ⟨k, v, rfl, hk, r0, r1, r2, r3, ⟨es, hown, hall⟩, hb⟩ := hrel
    have hsz := hb.size
    have hlt0 := r0.lt
    have hle : es.length = k := by rw [hall.1]; simp
    have hcall := q2 _ hb
    by_cases hlt : k < C
    · have hltI : (k : Int) < (C : Int) := by omega
      obtain ⟨e20, e21, g20, g21⟩ := r2.two
      obtain ⟨p0, p1, p2, _, _, _⟩ := r0.three
      obtain ⟨r, hrv, hrb, hrne⟩ := hown.hits (by omega)
      have n2 := hrne _ _ _ r2 (by decide)
      have n1 := hrne _ _ _ r1 (by decide)
      have n0 : w.heap.size ≠ r := by omega
      go_wp2_with (first | (go_at_call 17; refine hcall.mono ?_; rintro e w5 ⟨rfl, rfl⟩) | (at_builtin; refine wpList_append_own _ rfl _ _ 37 rfl (w.heap.size + 1) 50 i0 _ 3 56 Tryz.underlying37 hi hz0 hz1 hz2 rfl (by decide) _ es.length (flat3 es) rfl (hown.later ((Below.refl _ _).alloc (Nat.le_refl _) _)) ⟨wr.heap.size, 0, none⟩ 1 1 [.bool m, .slice f1 z1.length j1, .slice f2 z2.length j2] rfl rfl (cell_three_new _ _ _ _ _) (by simp [Value.oneCell']) (by unfold maxLen; omega) (by omega) (by simp; omega) ?_; intro v' w6 hown' hgrow _; obtain ⟨av, cv, rfl⟩ := ownT_slice hown'; have hk6 : Kept r wr w6 := ((Kept.refl r wr).alloc _).grown hgrow hrv; have R26 := r2.kept hk6 n2; have f21 := R26.free 1; have d21 := R26.cell 1))
      go_roundw
      case rel =>
        obtain ⟨hrow6, hb6⟩ := pushE (P := fun _ v (x : Rat) => v = .agg #[.bool m, .slice f1 z1.length j1, .slice f2 z2.length j2] ∧ x = X) (x := X) (e := ⟨.bool m, .slice f1 z1.length j1, .slice f2 z2.length j2⟩) (Below.refl (w.heap.size + 1) wr) (by omega) hown hall ⟨rfl, rfl⟩ (fun u y h => h) hown' hgrow
        rw [hle] at hrow6
        have hB6 := hb.trans (hb6.mono (Nat.le_succ _))
        have r06 := r0.kept hk6 n0
        have r16 := r1.kept hk6 n1
        have r36 : ResS w.heap.size w6 (.slice a3 s.length c3) s := ResS.apart hown hgrow (by decide) r3
        refine ⟨k + 1, _, by go_num, by omega, r06.far (by show w.heap.size ≠ g; omega) _, r16.far (by show w.heap.size + 1 ≠ g; omega) _, R26.set21 _, r36.far R26 (by decide) (kept1 _), ?_, hB6.setCell (by show w.heap.size ≤ g; omega) _⟩
        rw [List.replicate_succ']
        exact hrow6.far R26 (by decide) (kept1 _) (fun u y h => h)
      case measure => simp [intOf]; omega
    · obtain rfl : k = C := by omega
      have hltI : ¬ (k : Int) < (k : Int) := by omega
      obtain ⟨av, cv, rfl⟩ := ownT_slice hown
      rw [hle] at r2 hown
      have c20 := r2.cell 0
      have d21 := r2.cell 1
      have f10 := r1.free 0
      have f11 := r1.free 1
      have g10 := r1.cell 0
      have g11 := r1.cell 1
      have R1s := r1.set2 (.slice a3 s.length c3) (.slice av k cv)
      obtain ⟨zz0, zz1, _, _⟩ := R1s.two
      have hbf := below_set2 hb (show w.heap.size ≤ w.heap.size + 1 by omega) (.slice a3 s.length c3) (.slice av k cv)
      have fS := (r3.far r1 (by decide) (kept2 (.slice a3 s.length c3) (.slice av k cv))).at_
      have fE : RowO (w.heap.size + 1) 50 (fun _ v (x : Rat) => v = .agg #[.bool m, .slice f1 z1.length j1, .slice f2 z2.length j2] ∧ x = X) _ (.slice av k cv) (List.replicate k X) := RowO.far ⟨es, hown, hall⟩ r1 (by decide) (kept2 (.slice a3 s.length c3) (.slice av k cv)) (fun u y h => h)
      have fT := fE.at_
      have HFS := Lib.hid fS
      have HFT := Lib.hid fT
      have HBF := Lib.hid hbf
      clear hown hall hle R1s r1 fS fE fT hbf
      go_wp2_with (go_at_call 17; refine hcall.mono ?_; rintro e w5 ⟨rfl, rfl⟩)
      refine bodyPost_ret (v := .agg #[.slice a3 s.length c3, .slice av k cv]) (by simp [results, Tryz.results27, go_sem, zz0, zz1]) rfl ⟨_, a3, av, c3, cv, rfl, ⟨by rw [List.length_replicate], HFS.out.2.1, HFS.out.2.2, ?_, HFT.out.2.2⟩, HBF.out⟩
      have h := HFT.out.2.1.imp (Q := fun W v x => ArgR W v x n) fun v x _ h => by rw [h.1, h.2]; exact HVM.out.later HBF.out
      rw [List.length_replicate]
      exact h
end Go.Proofs.YtnhfjacifajdlaaGreat
