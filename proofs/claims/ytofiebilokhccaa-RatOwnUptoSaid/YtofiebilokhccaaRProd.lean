/-
  Contracts of package rat: product (of two numbers), over, the sums of whole numbers with a sign.
-/
import Derived.Test.YtofiebilokhccaaRInt
namespace Go.Proofs.Ytofiebilokhccaa
open Go.RowKit
set_option linter.unusedVariables false
set_option linter.unusedSimpArgs false

/-- the product of the first k of two numbers -/
def prodK (X Y : Int) : Nat → Int
  | 0 => 1
  | 1 => X
  | _ => X * Y

set_option maxRecDepth 100000 in
set_option maxHeartbeats 2000000 in
theorem product_any {xs ys : List Int} {ad bd : Option Addr} {ca cb g m : Nat} {w : World} (R : Row w g 23 #[.slice ad xs.length ca, .slice bd ys.length cb])
    (A : Arg w (.slice ad xs.length ca) xs ad ca) (B : Arg w (.slice bd ys.length cb) ys bd cb) (hx : xs.length ≤ m) (hy : ys.length ≤ m) (hm : m ≤ 1073741824) :
    Calls Try.prog 71 #[.slice (some ⟨g, 0, none⟩) 2 2] w fun e w' => ∃ r zs, e = .returned r ∧ Res w.heap.size w' r zs (val xs * val ys) ∧ zs.length ≤ 2 * m + 2 ∧ Below w.heap.size w w' := by
  go_enter Try.func71, Try.ntmps71
  go_wp2_with fail
  refine (ofN_any 1 _ (by omega) (by omega)).mono ?_
  rintro e w0 ⟨r0, z0, rfl, q0, n0, hb0⟩
  go_wp2_with fail
  go_loopw [3, 5, 9] (fun p _ i wr => ∃ (k : Nat) (q : Value) (us : List Int), q = p ∧ i = .int .i64 k ∧ k ≤ 2 ∧ Res w.heap.size wr q us (prodK (val xs) (val ys) k) ∧ us.length ≤ k * m + 2 ∧ Below w.heap.size w wr) (fun _ _ i _ => 2 - (intOf i).toNat)
  case atStart => exact ⟨0, _, z0, rfl, rfl, by omega, q0, by omega, hb0⟩
  case round =>
    obtain ⟨k, q, us, rfl, rfl, hk, hq, hl, hb⟩ := hrel
    have hsz := hb.size
    clear q0 n0 hb0
    have R' := R.below hb R.lt
    obtain ⟨c0, c1, _, _⟩ := R'.two
    have A' := A.later hb
    have B' := B.later hb
    obtain ⟨adq, cq, rfl, hq, AQ⟩ := hq.slice
    match k, hk, hl, hq with
    | 0, _, hl, hq =>
      have hl0 : us.length ≤ 2 := by omega
      go_wp2_with fail
      refine (mul_res AQ A' (by omega) (by omega)).mono ?_
      rintro e w2 ⟨r2, z2, rfl, q2, n2, hb2⟩
      have hv : val us * val xs = prodK (val xs) (val ys) 1 := by rw [hq.eq]; show 1 * val xs = val xs; omega
      have HV := Lib.hid hv
      clear hv
      go_wp2_with fail
      go_roundw
      case rel => exact ⟨1, r2, z2, rfl, rfl, by omega, ⟨q2.num.mono hsz, q2.wf, q2.full, q2.eq.trans HV.out⟩, by omega, hb.trans (hb2.mono hsz)⟩
      case measure => simp [intOf]
    | 1, _, hl, hq =>
      go_wp2_with fail
      refine (mul_res AQ B' (by omega) (by omega)).mono ?_
      rintro e w2 ⟨r2, z2, rfl, q2, n2, hb2⟩
      have hv : val us * val ys = prodK (val xs) (val ys) 2 := by rw [hq.eq]; rfl
      have HV := Lib.hid hv
      clear hv
      go_wp2_with fail
      go_roundw
      case rel => exact ⟨2, r2, z2, rfl, rfl, by omega, ⟨q2.num.mono hsz, q2.wf, q2.full, q2.eq.trans HV.out⟩, by omega, hb.trans (hb2.mono hsz)⟩
      case measure => simp [intOf]
    | 2, _, hl, hq =>
      go_wp2_with fail
      go_ret
      exact ⟨_, us, rfl, hq, by omega, hb⟩

set_option maxRecDepth 100000 in
set_option maxHeartbeats 2000000 in
theorem over_any {m n2 n3 c1 c2 c3 c4 : Nat} {w : World} {neg neg' : Bool} {xs ys : List Int} {a1 a2 a3 a4 : Option Addr}
    (A : Arg w (.slice a1 xs.length c1) xs a1 c1) (B : Arg w (.slice a4 ys.length c4) ys a4 c4) (hx : xs.length ≤ m) (hy : ys.length ≤ m) (hm : m ≤ 1073741824) :
    Calls Try.prog 68 #[.agg #[.bool neg, .slice a1 xs.length c1, .slice a2 n2 c2], .agg #[.bool neg', .slice a3 n3 c3, .slice a4 ys.length c4]] w fun e w' =>
      ∃ r, e = .returned r ∧ SgnQ w' r (sgn neg (val xs * val ys)) (2 * m + 2) ∧ Below w.heap.size w w' := by
  obtain ⟨W, hW⟩ : ∃ W, (((w.alloc (.cells #[.bool neg, .slice a1 xs.length c1, .slice a2 n2 c2] 25)).alloc (.cells #[.bool neg', .slice a3 n3 c3, .slice a4 ys.length c4] 25)).alloc (.cells #[.bool false, .slice none 0 0] 84)) = W := ⟨_, rfl⟩
  have R0 : Row W (w.heap.size) 25 #[.bool neg, .slice a1 xs.length c1, .slice a2 n2 c2] := by rw [← hW]; exact (((Row.new _ _ _).alloc _).alloc _)
  have R1 : Row W (w.heap.size + 1) 25 #[.bool neg', .slice a3 n3 c3, .slice a4 ys.length c4] := by rw [← hW]; have h := (Row.new (w.alloc (.cells #[.bool neg, .slice a1 xs.length c1, .slice a2 n2 c2] 25)) 25 #[.bool neg', .slice a3 n3 c3, .slice a4 ys.length c4]); simp only [World.size_alloc] at h; exact (h.alloc _)
  have R2 : Row W (w.heap.size + 1 + 1) 84 #[.bool false, .slice none 0 0] := by rw [← hW]; have h := (Row.new ((w.alloc (.cells #[.bool neg, .slice a1 xs.length c1, .slice a2 n2 c2] 25)).alloc (.cells #[.bool neg', .slice a3 n3 c3, .slice a4 ys.length c4] 25)) 84 #[.bool false, .slice none 0 0]); simp only [World.size_alloc] at h; exact h
  have hBW : Below w.heap.size w W := by rw [← hW]; exact ((((Below.refl _ _).alloc (by (try simp) <;> omega) _).alloc (by (try simp) <;> omega) _).alloc (by (try simp) <;> omega) _)
  have hsW : w.heap.size + 1 + 1 + 1 ≤ W.heap.size := by rw [← hW]; simp
  have mkS : ∀ X, Below (w.heap.size + 1 + 1) W X → X.cell? ⟨w.heap.size, 0, none⟩ = some (.bool neg) ∧ X.cell? ⟨w.heap.size, 1, none⟩ = some (.slice a1 xs.length c1) ∧ X.cell? ⟨w.heap.size + 1, 2, none⟩ = some (.slice a4 ys.length c4) ∧ Below w.heap.size w X ∧ Below (w.heap.size + 1 + 1) W X := fun X h => ⟨(R0.below h (by omega)).cell 0, (R0.below h (by omega)).cell 1, (R1.below h (by omega)).cell 2, hBW.trans (h.mono (by omega)), h⟩
  go_enter Try.func68, Try.ntmps68
  go_wp2_with fail
  clear hW
  go_region_held3 (fun X => X.cell? ⟨w.heap.size, 0, none⟩ = some (.bool neg) ∧ X.cell? ⟨w.heap.size, 1, none⟩ = some (.slice a1 xs.length c1) ∧ X.cell? ⟨w.heap.size + 1, 2, none⟩ = some (.slice a4 ys.length c4) ∧ Below w.heap.size w X ∧ Below (w.heap.size + 1 + 1) W X)
    (((refine mkS _ ?_; (repeat' (first | exact Below.refl _ _ | refine Below.drew ?_ | refine Below.alloc ?_ (by (try simp) <;> omega) _ | refine below_set3 ?_ (by (try simp) <;> omega) _ _ _ | refine below_set2 ?_ (by (try simp) <;> omega) _ _ | refine Below.setCell ?_ (by (try simp) <;> omega) _ | refine Below.trans ?_ (Below.mono (by assumption) (by (try simp) <;> omega)))))))
    ((go_at_call 71; refine (product_any (by first | exact Row.new _ _ _ | exact (Row.new _ _ _).drew) (A.later (by (repeat' (first | exact Below.refl _ _ | exact hBW | refine Below.drew ?_ | refine Below.alloc ?_ (by (try simp) <;> omega) _ | refine below_set3 ?_ (by (try simp) <;> omega) _ _ _ | refine below_set2 ?_ (by (try simp) <;> omega) _ _ | refine Below.setCell ?_ (by (try simp) <;> omega) _ | refine Below.trans ?_ (Below.mono (by assumption) (by (try simp) <;> omega)))))) (B.later (by (repeat' (first | exact Below.refl _ _ | exact hBW | refine Below.drew ?_ | refine Below.alloc ?_ (by (try simp) <;> omega) _ | refine below_set3 ?_ (by (try simp) <;> omega) _ _ _ | refine below_set2 ?_ (by (try simp) <;> omega) _ _ | refine Below.setCell ?_ (by (try simp) <;> omega) _ | refine Below.trans ?_ (Below.mono (by assumption) (by (try simp) <;> omega)))))) hx hy hm).mono ?_; rintro e w2 ⟨r2, z2, rfl, q2, l2, hb2⟩; have hs2 := hb2.size; simp at hs2; obtain ⟨ad2, cp2, rfl, q2, A2⟩ := q2.slice; have R2' := R2.later (show Below W.heap.size W w2 by (repeat' (first | exact Below.refl _ _ | refine Below.drew ?_ | refine Below.alloc ?_ (by (try simp) <;> omega) _ | refine below_set3 ?_ (by (try simp) <;> omega) _ _ _ | refine below_set2 ?_ (by (try simp) <;> omega) _ _ | refine Below.setCell ?_ (by (try simp) <;> omega) _ | refine Below.trans ?_ (Below.mono (by assumption) (by (try simp) <;> omega))))); obtain ⟨u0, u1, g0, g1⟩ := R2'.two))
  go_wp2_with fail
  refine bodyPost_ret (v := .agg #[.bool neg, .slice ad2 z2.length cp2]) (by simp [results, Try.results68, go_sem, u0, u1]) rfl ⟨_, rfl, ?_, ?_⟩
  · exact ⟨neg, z2, ad2, cp2, rfl, (q2.kept (kept2 _ _) (by simp; omega)).at_.2, by rw [q2.eq], l2⟩
  · (repeat' (first | exact Below.refl _ _ | exact hBW | refine Below.drew ?_ | refine Below.alloc ?_ (by (try simp) <;> omega) _ | refine below_set3 ?_ (by (try simp) <;> omega) _ _ _ | refine below_set2 ?_ (by (try simp) <;> omega) _ _ | refine Below.setCell ?_ (by (try simp) <;> omega) _ | refine Below.trans ?_ (Below.mono (by assumption) (by (try simp) <;> omega))))
end Go.Proofs.Ytofiebilokhccaa
