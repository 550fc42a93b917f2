/-
  Contracts of the reference of layer 2: Gcd, Pow.
-/
import Derived.Test.YtdcdaielfkikhaaQRefB
namespace Go.Proofs.Ytdcdaielfkikhaa
open Go.RowKit
set_option linter.unusedVariables false
set_option linter.unusedSimpArgs false

theorem gcd_step (a b : Int) : Int.gcd b (a % b) = Int.gcd a b := by
  have h := Int.gcd_add_mul_right_right b (a % b) (a / b)
  rw [Int.emod_add_ediv_mul] at h
  rw [← h, Int.gcd_comm]
theorem gcd_end {a : Int} (h : 0 ≤ a) : (Int.gcd a 0 : Int) = a := by rw [Int.gcd_zero_right]; omega
theorem posD {ds : List Int} {a : Option Addr} {cap : Nat} {w : World} {u : Value} (h : ArgD w u ds a cap) (hl : 0 < ds.length) : 0 < valD ds := by
  have h1 := full_geD h.wf h.full (ds.length - 1) (by omega)
  have h2 := pow_posD (ds.length - 1)
  omega

/-- what a slice of numbers reads: for a loop's measure -/
def readV (w : World) : Value → List Int
  | .slice (some ad) n _ => (List.range n).map fun i => match w.cell? ⟨ad.block, ad.off + i, none⟩ with | some (.int _ x) => x | _ => 0
  | _ => []
theorem readV_limI {w : World} {ad : Option Addr} {xs : List Int} {cap : Nat} (h : LimI w ad xs) : readV w (.slice ad xs.length cap) = xs := by
  rcases h with rfl | ⟨b, off, rfl, hc⟩
  · cases ad <;> simp [readV]
  · simp only [readV]
    apply List.ext_getElem
    · simp
    · intro i h1 h2
      rw [List.getElem_map, List.getElem_range, hc i h2]
      simp [h2]
theorem readV_lim {w : World} {ad : Option Addr} {xs : List Int} {cap : Nat} (h : Lim w ad xs) : readV w (.slice ad xs.length cap) = xs := by
  rcases h with rfl | ⟨b, off, rfl, hc⟩
  · cases ad <;> simp [readV]
  · simp only [readV]
    apply List.ext_getElem
    · simp
    · intro i h1 h2
      rw [List.getElem_map, List.getElem_range, hc i h2]
      simp [h2]
theorem ArgD.read {w : World} {u : Value} {xs : List Int} {a : Option Addr} {cap : Nat} (h : ArgD w u xs a cap) : readV w u = xs := by rw [h.is]; exact readV_limI h.lim
theorem Arg.read {w : World} {u : Value} {xs : List Int} {a : Option Addr} {cap : Nat} (h : Arg w u xs a cap) : readV w u = xs := by rw [h.is]; exact readV_lim h.lim
/-- loops over pairs: how much is left -/
def leftD (w : World) (v : Value) : Nat := (valD (readV w v)).toNat
theorem ArgD.left {w : World} {u : Value} {xs : List Int} {a : Option Addr} {cap : Nat} (h : ArgD w u xs a cap) : leftD w u = (valD xs).toNat := by unfold leftD; rw [h.read]

set_option maxHeartbeats 4000000 in
theorem gcdD_any {u v : Value} {xs ys : List Int} {a b : Option Addr} {capa capb : Nat} {w : World} (h1 : ArgD w u xs a capa) (h2 : ArgD w v ys b capb) (hx : xs.length ≤ 8589934592) (hy : ys.length ≤ 8589934592) :
    Calls Try.prog 26 #[u, v] w fun e w' => ∃ r, e = .returned r ∧ ∃ zs ad cap, ArgD w' r zs ad cap ∧ valD zs = (Int.gcd (valD xs) (valD ys) : Int) ∧ zs.length ≤ max xs.length ys.length ∧ Below w.heap.size w w' := by
  obtain ⟨m, hm⟩ : ∃ m, max xs.length ys.length = m := ⟨_, rfl⟩
  have hm2 : m ≤ 8589934592 := by omega
  have hmx : xs.length ≤ m := by omega
  have hmy : ys.length ≤ m := by omega
  rw [hm]
  clear hm hx hy
  go_enter Try.func26, Try.ntmps26
  go_wp2
  go_loopw [0, 1, 5, 6] (fun p q _ _ wr => ∃ (p' q' : Value) (us vs : List Int) (ad bd : Option Addr) (cp cq : Nat), p' = p ∧ q' = q ∧ ArgD wr p' us ad cp ∧ ArgD wr q' vs bd cq ∧ us.length ≤ m ∧ vs.length ≤ m ∧ Int.gcd (valD us) (valD vs) = Int.gcd (valD xs) (valD ys) ∧ Below w.heap.size w wr) (fun _ q _ _ wr => leftD wr q)
  case atStart => exact ⟨u, v, xs, ys, a, b, capa, capb, rfl, rfl, h1, h2, hmx, hmy, rfl, Below.refl _ _⟩
  case round =>
    obtain ⟨p, q, us, vs, ad, bd, cp, cq, rfl, rfl, A1, A2, hu, hv, hg, hb⟩ := hrel
    have hsz := hb.size
    have HG := Lib.hid hg
    clear hg
    have hq := A2.is
    by_cases hgo : 0 < vs.length
    · have hgo2 : (0 : Int) < (vs.length : Int) := by omega
      have hpos := posD A2 hgo
      have hleft := A2.left
      subst hq
      go_wp2_with fail
      refine (divD_any A1 A2 (by omega) (by omega) hpos).mono ?_
      rintro e w2 ⟨r2, s2, rfl, hb2, _, ⟨z2, q2, n2⟩⟩
      obtain ⟨ad2, cap2, A3⟩ := q2.arg
      have A2' := A2.later hb2
      have hB2 := hb.trans (hb2.mono hsz)
      have hl2 := A3.left
      have hr1 := Int.emod_lt_of_pos (valD us) hpos
      have hr2 := Int.emod_nonneg (valD us) (show valD vs ≠ 0 by omega)
      have hm3 : leftD w2 s2 < leftD wr (.slice bd vs.length cq) := by rw [hleft, hl2, q2.eq]; omega
      have hg3 : Int.gcd (valD vs) (valD z2) = Int.gcd (valD xs) (valD ys) := by rw [q2.eq, gcd_step]; exact HG.out
      have HG3 := Lib.hid hg3
      have HM3 := Lib.hid hm3
      clear hg3 hm3 hr1 hr2 hl2 hleft q2 A1 A2 hb2
      go_wp2
      go_roundw
      case rel => exact ⟨_, _, vs, z2, bd, ad2, cq, cap2, rfl, rfl, A2', A3, hv, by omega, HG3.out, hB2⟩
      case measure => exact HM3.out
    · have h0 : vs.length = 0 := by omega
      have hvs : vs = [] := List.eq_nil_of_length_eq_zero h0
      have hg := HG.out
      rw [hvs] at hg
      have hfin : valD us = (Int.gcd (valD xs) (valD ys) : Int) := by rw [← hg]; simp only [valD]; exact (gcd_end (val_nonnegD A1.wf)).symm
      have HF := Lib.hid hfin
      rw [h0] at hq
      subst hq
      clear hfin hg A2 hvs h0 hgo
      go_wp2
      go_ret
      exact ⟨_, rfl, us, ad, cp, A1, HF.out, hu, hb⟩

set_option maxHeartbeats 1000000 in
theorem powD_any {u : Value} {xs : List Int} {a : Option Addr} {capa : Nat} {w : World} (n : Int) (h1 : ArgD w u xs a capa) (hx : xs.length ≤ 1000) (hn : n ≤ 1000) :
    Calls Try.prog 29 #[u, .int .i64 n] w fun e w' => ∃ r, e = .returned r ∧ ∃ zs, ResD w.heap.size w' r zs (valD xs ^ n.toNat) ∧ zs.length ≤ 3 + 2003 * n.toNat ∧ Below w.heap.size w w' := by
  go_enter Try.func29, Try.ntmps29
  go_wp2_with fail
  refine (small_any 1 _ (by omega) (by omega)).mono ?_
  rintro e w0 ⟨r0, rfl, z0, q0, n0, hb0⟩
  go_wp2
  go_loopw [5, 6] (fun s i wr => ∃ (k : Nat) (q : Value) (ds : List Int), k ≤ n.toNat ∧ q = s ∧ i = .int .i64 k ∧ ResD w.heap.size wr q ds (valD xs ^ k) ∧ ds.length ≤ 3 + 2003 * k ∧ Below w.heap.size w wr) (fun _ i _ => n.toNat - (intOf i).toNat)
  case atStart => exact ⟨0, _, z0, Nat.zero_le _, rfl, rfl, by simpa using q0, by omega, hb0⟩
  case round =>
    obtain ⟨k, q, ds, hk, rfl, rfl, hres, hlen, hb⟩ := hrel
    have hsz := hb.size
    clear q0 n0 hb0
    by_cases hlt : k < n.toNat
    · have hlt2 : (k : Int) < n := by omega
      obtain ⟨ad, cap, A⟩ := hres.arg
      have A1 := h1.later hb
      go_wp2_with fail
      refine (mulD_any A A1 (by omega) (by omega)).mono ?_
      rintro e w2 ⟨r2, rfl, z2, q2, n2, hb2⟩
      have hB2 := hb.trans (hb2.mono hsz)
      have hv : valD z2 = valD xs ^ (k + 1) := by rw [q2.eq, hres.eq, Int.pow_succ]
      have HV := Lib.hid hv
      clear hv
      go_wp2
      go_roundw
      case rel => exact ⟨k + 1, r2, z2, by omega, rfl, by go_num, ⟨q2.num.mono hsz, q2.wf, q2.full, HV.out⟩, by omega, hB2⟩
      case measure => simp [intOf]; omega
    · have hge : ¬ (k : Int) < n := by omega
      obtain rfl : k = n.toNat := by omega
      have hd : decide (((n.toNat : Nat) : Int) < n) = false := decide_eq_false hge
      go_wp2
      go_ret
      exact ⟨_, rfl, ds, hres, hlen, hb⟩
end Go.Proofs.Ytdcdaielfkikhaa
