/-
  Contracts of nat.Cmp and of the reference's Equal, over what the limbs stand for.
-/
import Derived.Test.YteinfanfhgpciaaRefD
namespace Go.Proofs.Yteinfanfhgpciaa
open Go.RowKit

theorem cmp_res {u v : Value} {xs ys : List Int} {a b : Option Addr} {capa capb : Nat} {w : World} (h1 : Arg w u xs a capa) (h2 : Arg w v ys b capb) (hx : xs.length ≤ 35184372088832) (hy : ys.length ≤ 35184372088832) :
    Calls Try.prog 25 #[u, v] w fun e w' => e = .returned (.int .i64 (sign (val xs) (val ys))) ∧ Below w.heap.size w w' := by
  rw [h1.is, h2.is]
  refine (cmp_any a b xs ys capa capb w h1.lim h2.lim hx hy h1.le h2.le).mono fun e w' ⟨r, he, hr, hb⟩ => ⟨?_, hb⟩
  have h := (cmp_val h1.wf.trim h2.wf.trim (trim_full xs) (trim_full ys) hr).1
  rw [val_trim, val_trim] at h
  rw [he, h]
theorem equal_true {u v : Value} {xs ys : List Int} {a b : Option Addr} {capa capb : Nat} {w : World} (h1 : Arg w u xs a capa) (h2 : Arg w v ys b capb) (hx : xs.length ≤ 35184372088832) (hy : ys.length ≤ 35184372088832) (h : val xs = val ys) :
    Calls Try.prog 22 #[u, v] w fun e w' => e = .returned (.bool true) ∧ w = w' := by
  rw [h1.is, h2.is]
  refine (equal_any a b xs ys capa capb w h1.lim h2.lim (by omega) (by omega)).mono fun e w' ⟨he, hw⟩ => ⟨?_, hw⟩
  rw [he, eqB_true.2 fun i _ => getD_eq_of_val h1.wf h2.wf h i]
end Go.Proofs.Yteinfanfhgpciaa
