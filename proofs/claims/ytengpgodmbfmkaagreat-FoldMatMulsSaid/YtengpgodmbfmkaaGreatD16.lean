/-
  Part 16 of 30: contracts and what they rest on (FTwo).
-/
import Derived.Test.YtengpgodmbfmkaaGreatD12
namespace Go.Proofs.YtengpgodmbfmkaaGreat
set_option linter.unusedVariables false
set_option linter.unusedSimpArgs false
set_option maxRecDepth 100000
set_option maxHeartbeats 40000000
section
open Go.RowKit
variable {P : Program} {md : Region.Mode} {ops : Array Oper} {Q : Exit → Act → World → Prop} {S : World → Prop}
theorem put_comm10 (a : Act) {d e : Nat} (h : d ≠ e) (u v : Value) : (a.put (some d) u).put (some e) v = (a.put (some e) v).put (some d) u := by
 cases a
 simp only [Act.put]
 rw [Array.setIfInBounds_comm _ _ h]
def StepH (P : Program) (ops : Array Oper) (Q : Exit → Act → World → Prop) (o : Oper) (a : Act) (w : World) (K : Act → World → Prop) : Prop := if Region.wanted o (yielded ops a.tmps) = true then Oper.wp P o a w K Q else K (a.put o.dst undef) w
theorem wpAnyH_two {i j da db : Nat} {oi oj : Oper} {fuel : Nat} {listed : Array Bool} {a : Act} {w : World} {cA cB : Array Value} {tA tB : TypeId} {fa fb : Nat → Value}
 (hi : ops[i]? = some oi) (hj : ops[j]? = some oj) (hij : i ≠ j) (hr : Region.ready md ops listed = [i, j]) (hr1 : Region.ready md ops (listed.setIfInBounds i true) = [j]) (hr2 : Region.ready md ops (listed.setIfInBounds j true) = [i])
 (hd : da ≠ db) (hS : ∀ X, Below w.heap.size w X → S X)
 (h1 : ∀ K : Act → World → Prop, K (a.put (some da) (fa w.heap.size)) (w.alloc (.cells cA tA)) → StepH P ops Q oi a w K)
 (h2 : ∀ K : Act → World → Prop, K ((a.put (some da) (fa w.heap.size)).put (some db) (fb (w.heap.size + 1))) ((w.alloc (.cells cA tA)).alloc (.cells cB tB)) → StepH P ops Q oj (a.put (some da) (fa w.heap.size)) (w.alloc (.cells cA tA)) K)
 (h3 : ∀ K : Act → World → Prop, K (a.put (some db) (fb w.heap.size)) (w.alloc (.cells cB tB)) → StepH P ops Q oj a w K)
 (h4 : ∀ K : Act → World → Prop, K ((a.put (some db) (fb w.heap.size)).put (some da) (fa (w.heap.size + 1))) ((w.alloc (.cells cB tB)).alloc (.cells cA tA)) → StepH P ops Q oi (a.put (some db) (fb w.heap.size)) (w.alloc (.cells cB tB)) K)
 (h : ∀ (X : World) (ga gb : Nat), Below w.heap.size w X → Row X ga tA cA → Row X gb tB cB → S X → wpAnyH P md ops Q S fuel ((listed.setIfInBounds i true).setIfInBounds j true) ((a.put (some da) (fa ga)).put (some db) (fb gb)) X) :
 wpAnyH P md ops Q S (fuel + 2) listed a w := by
 have b1 : Below w.heap.size w (w.alloc (.cells cA tA)) := (Below.refl _ _).alloc (Nat.le_refl _) _
 have b2 : Below w.heap.size w ((w.alloc (.cells cA tA)).alloc (.cells cB tB)) := b1.alloc (by simp) _
 have b3 : Below w.heap.size w (w.alloc (.cells cB tB)) := (Below.refl _ _).alloc (Nat.le_refl _) _
 have b4 : Below w.heap.size w ((w.alloc (.cells cB tB)).alloc (.cells cA tA)) := b3.alloc (by simp) _
 refine wpAnyH_ready (rs := [i, j]) hr (by simp) ?_
 refine AllReadyH.cons hi (fun K hK => ?_) (AllReadyH.cons hj (fun K hK => ?_) AllReadyH.nil)
 · refine h1 K (hK.out _ _ (hS _ b1) fun _ => ?_)
   refine wpAnyH_ready (rs := [j]) hr1 (by simp) ?_
   refine AllReadyH.cons hj (fun K2 hK2 => ?_) AllReadyH.nil
   refine h2 K2 (hK2.out _ _ (hS _ b2) fun _ => ?_)
   refine h _ _ _ b2 ((Row.new _ _ _).alloc _) ?_ (hS _ b2)
   have hn := Row.new (w.alloc (.cells cA tA)) tB cB
   simp only [World.size_alloc] at hn
   exact hn
 · refine h3 K (hK.out _ _ (hS _ b3) fun _ => ?_)
   refine wpAnyH_ready (rs := [i]) hr2 (by simp) ?_
   refine AllReadyH.cons hi (fun K2 hK2 => ?_) AllReadyH.nil
   refine h4 K2 (hK2.out _ _ (hS _ b4) fun _ => ?_)
   rw [put_comm10 a (Ne.symm hd), Array.setIfInBounds_comm _ _ (Ne.symm hij)]
   refine h _ _ _ b4 ?_ ((Row.new _ _ _).alloc _) (hS _ b4)
   have hn := Row.new (w.alloc (.cells cB tB)) tA cA
   simp only [World.size_alloc] at hn
   exact hn
end
end Go.Proofs.YtengpgodmbfmkaaGreat
