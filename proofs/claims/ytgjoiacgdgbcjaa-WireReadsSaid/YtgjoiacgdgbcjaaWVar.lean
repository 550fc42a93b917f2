/-
  wire.varint, wire.zigzag, wire.unzigzag.
-/
import Derived.Test.YtgjoiacgdgbcjaaWRefD
import Derived.Lib.Zigzag
namespace Go.Proofs.Ytgjoiacgdgbcjaa
open Go.RowKit
set_option linter.unusedVariables false
set_option linter.unusedSimpArgs false

theorem make_runC (n c : Nat) (hnc : n ≤ c) (hc : c ≤ 140737488355328) (w : World) :
    (Instr.makeSlice 22 (.int .i64 (n : Int)) (.int .i64 (c : Int))).run Try.prog w = .ok (.slice (some ⟨w.heap.size, 0, none⟩) n c) (w.alloc (.cells (madeCells #[.int .u8 0] c) 5)) := by
  obtain ⟨i0, hi, hz0, hz1, hz2⟩ := info_parts infoByte
  have h := run_make (P := Try.prog) w 22 5 i0 (.int .u8 0) Try.underlying22 hi hz0 .i64 .i64 n c (by omega) (by omega) (by rw [hz2]; omega) (by omega)
  simpa [hz1, Value.cells] using h

set_option maxHeartbeats 2000000 in
theorem varint_any (N : Nat) (w : World) (hN : N < 18446744073709551616) :
    Calls Try.prog 32 #[.int .u64 (N : Int)] w fun e w' => ∃ u, e = .returned u ∧ ResB w.heap.size w' u (encN N) ∧ Below w.heap.size w w' := by
  obtain ⟨i0, hi, hz0, hz1, hz2⟩ := info_parts infoByte
  have hall := encN_ten hN
  have hmk : ∀ w : World, (Instr.makeSlice 22 (.int .i64 0) (.int .i64 10)).run Try.prog w = .ok (.slice (some ⟨w.heap.size, 0, none⟩) 0 10) (w.alloc (.cells (madeCells #[.int .u8 0] 10) 5)) := fun w => make_runC 0 10 (by omega) (by omega) w
  have hN0 : NumB w.heap.size (w.alloc (.cells (madeCells #[.int .u8 0] 10) 5)) (.slice (some ⟨w.heap.size, 0, none⟩) 0 10) [] := by
    have := NumB.ofBlk (BlkB.made w 10) (Nat.le_refl w.heap.size) 0 (by simp) (by simp; unfold maxLen; omega)
    simpa using this
  have HN0 := Lib.hid hN0
  clear hN0
  go_enter Try.func32, Try.ntmps32
  go_wp2
  go_loopw [0, 3] (fun n s wr => ∃ (m : Nat) (ds : List Int) (v : Value), n = .int .u64 (m : Int) ∧ v = s ∧ m < 18446744073709551616 ∧ NumB w.heap.size wr v ds ∧ Byt ds ∧ encN N = ds ++ encN m ∧ Below w.heap.size w wr) (fun n _ _ => (intOf n).toNat)
  case atStart => exact ⟨N, [], _, rfl, rfl, hN, HN0.out, Byt.nil, rfl, (Below.refl _ _).alloc (Nat.le_refl _) _⟩
  case round =>
    obtain ⟨m, ds, v, rfl, rfl, hm, hown, hwf, henc, hb⟩ := hrel
    have hsz := hb.size
    have hlen : ds.length ≤ 10 := by have := congrArg List.length henc; rw [List.length_append] at this; omega
    have HO := Lib.hid hown
    have HE := Lib.hid henc
    have hrow : wr.ownsRow w.heap.size 5 1 v ds.length (ds.map (Value.int .u8)) := hown
    clear henc hown hall
    by_cases hbig : 128 ≤ m
    · have hbI : (128 : Int) ≤ (m : Int) := by omega
      have hm0 : (0 : Int) ≤ (m : Int) := by omega
      have hmI : (m : Int) ≤ 18446744073709551615 := by omega
      go_wp2_with (at_builtin; refine wpList_append_own _ rfl _ _ 22 rfl w.heap.size 5 i0 (.int .u8 0) 1 1 Try.underlying22 hi hz0 hz1 hz2 rfl (by decide) _ _ _ rfl (hrow.alloc _) ⟨wr.heap.size, 0, none⟩ 1 1 [.int .u8 ((m : Int) % 128 + 128)] rfl rfl (cell_one_new _ _ _) (by simp [Value.oneCell']) (by unfold maxLen; omega) (by omega) (by simp; omega) ?_; intro v' w1 hown' hgrow _)
      go_roundw
      case rel =>
        obtain ⟨hn, hbw⟩ := pushB hb hsz HO.out hown' hgrow
        refine ⟨m / 128, ds ++ [(m : Int) % 128 + 128], v', by simp, rfl, by omega, hn, hwf.append (Byt.one (by omega)), ?_, hbw⟩
        rw [HE.out, encN_big hbig, List.append_assoc]
        simp
      case measure => simp [intOf]; omega
    · have hbI : ¬ (128 : Int) ≤ (m : Int) := by omega
      have hlt : (m : Int) < 128 := by omega
      have hm0 : (0 : Int) ≤ (m : Int) := by omega
      go_wp2_with (at_builtin; refine wpList_append_own _ rfl _ _ 22 rfl w.heap.size 5 i0 (.int .u8 0) 1 1 Try.underlying22 hi hz0 hz1 hz2 rfl (by decide) _ _ _ rfl (hrow.alloc _) ⟨wr.heap.size, 0, none⟩ 1 1 [.int .u8 (m : Int)] rfl rfl (cell_one_new _ _ _) (by simp [Value.oneCell']) (by unfold maxLen; omega) (by omega) (by simp; omega) ?_; intro v' w1 hown' hgrow _)
      obtain ⟨hn, hbw⟩ := pushB hb hsz HO.out hown' hgrow
      go_wp2
      go_ret
      exact ⟨_, rfl, ⟨by rw [HE.out, encN_small (by omega)]; exact hn, encN_bytes N⟩, hbw⟩

set_option maxHeartbeats 1000000 in
theorem zigzag_any (k : Int) (w : World) (h0 : -9223372036854775808 ≤ k) (h1 : k ≤ 9223372036854775807) :
    Calls Try.prog 33 #[.int .i64 k] w fun e w' => e = .returned (.int .u64 (zig k)) ∧ w = w' := by
  obtain ⟨z, hz⟩ : ∃ z, zig k = z := ⟨_, rfl⟩
  rw [hz]
  by_cases hk : k < 0
  · have hzk : z = 2 * (-(k + 1)) + 1 := by rw [← hz]; unfold zig; rw [if_pos hk]
    have hx := Lib.zigzag_neg h0 hk
    have hzz : ((Lib.zigzag k : Nat) : Int) = z := by unfold Lib.zigzag; rw [if_neg (by omega)]; omega
    rw [hzz] at hx
    have HX := Lib.hid hx
    clear hz hx hzz hzk
    go_enter Try.func33, Try.ntmps33
    go_wp2
    go_ret
    refine ⟨congrArg (fun x => Ending.returned (Value.int IntKind.u64 x)) ?_, rfl⟩
    exact HX.out
  · have hzk : z = 2 * k := by rw [← hz]; unfold zig; rw [if_neg hk]
    clear hz
    go_enter Try.func33, Try.ntmps33
    go_wp2
    go_ret
    refine ⟨congrArg (fun x => Ending.returned (Value.int IntKind.u64 x)) ?_, rfl⟩
    first | omega | (simp [IntKind.wrap]; omega)
set_option maxHeartbeats 1000000 in
theorem unzigzag_any (n : Int) (w : World) (h0 : 0 ≤ n) (h1 : n < 18446744073709551616) :
    Calls Try.prog 39 #[.int .u64 n] w fun e w' => e = .returned (.tuple #[.int .i64 (zag n), .int .i64 0]) ∧ w = w' := by
  obtain ⟨z, hz⟩ : ∃ z, zag n = z := ⟨_, rfl⟩
  rw [hz]
  obtain ⟨q, hq⟩ : ∃ q, n / 2 = q := ⟨_, rfl⟩
  by_cases hk : n % 2 = 1
  · have hzk : z = -q - 1 := by rw [← hz, ← hq]; unfold zag; rw [if_pos hk]
    have hm : (n % 2 == 1) = true := by simpa using hk
    obtain ⟨m, rfl⟩ : ∃ m : Nat, q = (m : Int) := ⟨q.toNat, by omega⟩
    have hx := Lib.i64_not m (by omega)
    have HX := Lib.hid (show bits .xor .i64 (-1) (m : Int) = z by rw [hx]; omega)
    clear hz hx
    go_enter Try.func39, Try.ntmps39
    go_wp2
    go_ret2
    exact ⟨congrArg (fun x => Ending.returned (.tuple #[Value.int IntKind.i64 x, .int .i64 0])) (HX.out.trans hzk), rfl⟩
  · have hzk : z = q := by rw [← hz, ← hq]; unfold zag; rw [if_neg hk]
    have hm : (n % 2 == 1) = false := by simpa using hk
    clear hz
    go_enter Try.func39, Try.ntmps39
    go_wp2
    go_ret2
    refine ⟨congrArg (fun x => Ending.returned (.tuple #[Value.int IntKind.i64 x, .int .i64 0])) ?_, rfl⟩; first | omega | (simp [IntKind.wrap]; omega)
end Go.Proofs.Ytgjoiacgdgbcjaa
