/-
  Contracts of package quo: divide.
-/
import Derived.Test.YtdcdaielfkikhaaQTake
namespace Go.Proofs.Ytdcdaielfkikhaa
open Go.RowKit
set_option linter.unusedVariables false
set_option linter.unusedSimpArgs false

theorem Only.grownBy {b : Nat} {w w' : World} (h : Only b w w') : w.grownBy w' (some b) := h.grown
theorem Below.thenOnly {b : Nat} {w v w' : World} (h : Below w.heap.size w v) (k : Only b v w') : w.grownBy w' (some b) :=
  ⟨k.os.trans h.os, k.tape.trans h.tape, k.output.trans h.output, by rw [k.size]; exact h.size, fun i hi hb => (k.block i (fun e => hb (by rw [e]))).trans (h.block i hi)⟩

set_option maxRecDepth 100000 in
set_option maxHeartbeats 4000000 in
theorem divide_any {g cap capp i : Nat} {bg bo capb : Nat} {zs ys : List Int} {w : World} (n : Nat) (hz : Part w g cap zs) (hwz : Wf zs) (hwy : Wf ys) (hn : ys.length = n + 2) (hi : i + ys.length < zs.length) (hm : zs.length ≤ 1099511627776)
    (cy : ∀ j, j < ys.length → w.cell? ⟨bg, bo + j, none⟩ = some (.int .u32 (ys.getD j 0))) (hbg : bg ≠ g) (ht : 2147483648 ≤ ys.getD (n + 1) 0) (hlt : val (sub zs i (ys.length + 1)) < 4294967296 * val ys) :
    Calls Try.prog 54 #[.slice (some ⟨g, i, none⟩) (ys.length + 1 : Nat) capp, .slice (some ⟨bg, bo, none⟩) ys.length capb] w fun e w' =>
      ∃ (q : Int) (ls : List Int), e = .returned (.int .u32 q) ∧ 0 ≤ q ∧ q < 4294967296 ∧ ls.length = ys.length + 1 ∧ Wf ls ∧ Part w' g cap (putAt zs i ls) ∧ val ls = val (sub zs i (ys.length + 1)) - q * val ys ∧ val ls < val ys ∧ w.grownBy w' (some g) := by
  have hws := sub_wf i (ys.length + 1) hwz
  have hsl := sub_length zs i (ys.length + 1) (by omega)
  have hbl : bg < w.heap.size := World.block_lt_of_cell? w _ (cy 0 (by omega))
  have est := estimate_any (pg := g) (po := i) (bg := bg) (bo := bo) (capp := capp) (capb := capb) (w := w) n hws hwy (by omega) hn (by omega) (fun j hj => by rw [sub_getD _ _ _ _ (by omega)]; exact hz.cell (i + j) (by omega)) cy ht hlt
  rw [hsl] at est
  have hU0 := val_nonneg hws
  have hV0 := val_nonneg hwy
  obtain ⟨U, hU⟩ : ∃ U, val (sub zs i (ys.length + 1)) = U := ⟨_, rfl⟩
  obtain ⟨V, hV⟩ : ∃ V, val ys = V := ⟨_, rfl⟩
  rw [hU, hV] at est hlt
  rw [hU] at hU0 ⊢
  rw [hV] at hV0 ⊢
  obtain ⟨N, hN⟩ : ∃ N, ys.length + 1 = N := ⟨_, rfl⟩
  have tk := fun (w : World) (q : Int) hz hq cy => take_any (g := g) (cap := cap) (capp := capp) (i := i) (bg := bg) (bo := bo) (capb := capb) (zs := zs) (ys := ys) (w := w) q hz hwz hwy hq hi hm cy hbg
  rw [hN] at est tk ⊢
  have TK := Lib.hid tk
  have HU := Lib.hid hU
  have HV := Lib.hid hV
  have HN := Lib.hid hN
  have hln : 0 < ys.length := by omega
  clear tk hU hV hN hlt hn ht
  go_enter Try.func54, Try.ntmps54
  go_wp2_with fail
  refine est.mono ?_
  rintro e w1 ⟨q, rfl, hq0, hq1, hlo, hhi, hb1⟩
  have hz1 := hz.later hb1
  have cy1 : ∀ j, j < ys.length → w1.cell? ⟨bg, bo + j, none⟩ = some (.int .u32 (ys.getD j 0)) := fun j hj => (hb1.cell (p := ⟨bg, bo + j, none⟩) hbl).trans (cy j hj)
  have hvt := val_takeL (q := q) hws hwy ⟨hq0, hq1⟩ hsl
  rw [HU.out, HV.out] at hvt
  have hlt1 := val_lt (takeL_wf (sub zs i (ys.length + 1)) ys q)
  have hnn1 := val_nonneg (takeL_wf (sub zs i (ys.length + 1)) ys q)
  rw [takeL_length] at hlt1
  have hhi2 : U < q * V + V := by rw [Int.add_mul, Int.one_mul] at hhi; exact hhi
  clear est cy hz hhi
  go_wp2_with fail
  refine (TK.out w1 q hz1 ⟨hq0, hq1⟩ cy1).mono ?_
  rintro e w2 ⟨rfl, hp2, ho2⟩
  have hg2 := Below.thenOnly hb1 ho2
  rw [← HN.out] at hp2 ⊢
  obtain ⟨t, htb⟩ : ∃ t, takeB (sub zs i (ys.length + 1)) ys q = t := ⟨_, rfl⟩
  rw [htb] at hvt ⊢
  have hlsl := takeL_length (sub zs i (ys.length + 1)) ys q
  have hlsw := takeL_wf (sub zs i (ys.length + 1)) ys q
  obtain ⟨ls, hls⟩ : ∃ ls, takeL (sub zs i (ys.length + 1)) ys q = ls := ⟨_, rfl⟩
  rw [hls] at hvt hlt1 hnn1 hp2 hlsl hlsw
  clear hls htb
  cases t with
  | false =>
    simp only [Bool.false_eq_true, if_false, Int.add_zero] at hvt
    have hqw : IntKind.u32.wrap q = q := by rw [wrap_u32]; exact Int.emod_eq_of_lt hq0 (by omega)
    have HP := Lib.hid hp2
    have HVT := Lib.hid hvt
    have h2 : val ls < V := by omega
    have H2 := Lib.hid h2
    clear hp2 hvt h2 hlt1 hnn1 hlo hhi2
    go_wp2
    go_ret
    exact ⟨q, ls, rfl, hq0, by omega, hlsl.trans HN.out, hlsw, HP.out, HVT.out, H2.out, hg2⟩
  | true =>
    simp only [if_true] at hvt
    have hneg : U < q * V := by omega
    have hqp : 0 < q := by
      rcases Int.lt_or_le 0 q with h | h
      · exact h
      · have h0 : q = 0 := by omega
        rw [h0, Int.zero_mul] at hneg
        omega
    have cy2 : ∀ j, j < ys.length → w2.cell? ⟨bg, bo + j, none⟩ = some (.int .u32 (ys.getD j 0)) := fun j hj => (ho2.cell (p := ⟨bg, bo + j, none⟩) hbg).trans (cy1 j hj)
    have hpl := putAt_length zs ls i (by omega)
    have gv := give_any (g := g) (cap := cap) (capp := capp) (i := i) (bg := bg) (bo := bo) (capb := capb) (zs := putAt zs i ls) (ys := ys) (w := w2) hp2 (putAt_wf i hwz hlsw) hwy (by omega) (by omega) cy2 hbg
    rw [sub_putAt zs ls i (ys.length + 1) hlsl (by omega), putAt_twice zs ls _ i (by omega) (by rw [giveL_length, hlsl])] at gv
    have hgl := giveL_length ls ys
    have hgw := giveL_wf ls ys
    have hg0 := val_nonneg hgw
    have hg1 := val_lt hgw
    rw [hgl] at hg1
    have hfin : val (giveL ls ys) = U - (q - 1) * V := by
      have e : (q - 1) * V = q * V - V := by rw [Int.sub_mul, Int.one_mul]
      rcases val_giveL hlsw hwy (by omega) with h | h
      · rw [HV.out] at h; omega
      · rw [HV.out] at h; omega
    have hfin2 : val (giveL ls ys) < V := by
      have e : (q - 1) * V = q * V - V := by rw [Int.sub_mul, Int.one_mul]
      omega
    have HFIN := Lib.hid hfin
    have HFIN2 := Lib.hid hfin2
    rw [HN.out] at gv ⊢
    have hqw : IntKind.u32.wrap (q - 1) = q - 1 := by rw [wrap_u32]; exact Int.emod_eq_of_lt (by omega) (by omega)
    clear hvt hlt1 hnn1 hlo hhi2 hfin hfin2 hg0 hg1 hneg hp2 cy1 cy2
    go_wp2_with fail
    refine gv.mono ?_
    rintro e w3 ⟨rfl, hp3, ho3⟩
    have HP := Lib.hid hp3
    have hg3 : w.grownBy w3 (some g) := ⟨ho3.os.trans hg2.os, ho3.tape.trans hg2.tape, ho3.output.trans hg2.output, by rw [ho3.size]; exact hg2.size, fun i hi hb => (ho3.block i (fun e => hb (by rw [e]))).trans (hg2.block i hi hb)⟩
    clear hp3 gv
    go_wp2
    go_ret
    exact ⟨q - 1, _, rfl, by omega, by omega, by rw [← HN.out]; exact hgl, hgw, HP.out, HFIN.out, HFIN2.out, hg3⟩
end Go.Proofs.Ytdcdaielfkikhaa
