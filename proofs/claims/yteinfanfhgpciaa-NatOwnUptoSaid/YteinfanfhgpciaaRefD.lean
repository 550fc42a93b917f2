/-
  Contracts of the reference: Canonical, Is, Own. The law NatAdds.
-/
import Derived.Test.YteinfanfhgpciaaRefC
import Derived.Laws.AppendOwnNone
namespace Go.Proofs.Yteinfanfhgpciaa
open Go.RowKit

set_option maxHeartbeats 400000 in
theorem canonical_true {u : Value} {xs : List Int} {a : Option Addr} {capa : Nat} {w : World} (h1 : Arg w u xs a capa) (hx : xs.length ≤ 70368744177664) (hf : trimN xs xs.length = xs.length) :
    Calls Try.prog 27 #[u] w fun e w' => e = .returned (.bool true) ∧ w = w' := by
  obtain ⟨rfl, lx, _, _⟩ := h1
  have hl := trimN_last xs xs.length
  rw [hf] at hl
  have HF := Lib.hid hf
  clear hf
  rcases lx with rfl | ⟨b, off, rfl, hc⟩
  · clear hl
    go_enter Try.func27, Try.ntmps27
    have h0 : ((0 : Int) == 0) = true := by decide
    go_wp2
    go_ret
    exact ⟨rfl, rfl⟩
  · obtain ⟨m, hm⟩ : ∃ m, xs.length = m := ⟨_, rfl⟩
    rw [hm] at hl hc hx
    rw [hm]
    cases m with
    | zero =>
      clear hl hc
      have h0 : ((0 : Int) == 0) = true := by decide
      go_enter Try.func27, Try.ntmps27
      go_wp2
      go_ret
      exact ⟨rfl, rfl⟩
    | succ j =>
      have hj := hc j (by omega)
      have hne := hl (by omega)
      rw [Nat.add_sub_cancel] at hne
      obtain ⟨x, hxk⟩ : ∃ x, xs.getD j 0 = x := ⟨_, rfl⟩
      rw [hxk] at hj hne
      have hne2 : (x != 0) = true := by simp [hne]
      have h1 : ((j : Int) + 1 == 0) = false := by simp; omega
      clear hl hc hne hxk hm
      go_enter Try.func27, Try.ntmps27
      go_wp2
      go_ret
      exact ⟨rfl, rfl⟩

set_option maxHeartbeats 400000 in
theorem is_true {u v : Value} {ds zs : List Int} {a b : Option Addr} {capa capb : Nat} {w : World} (h1 : ArgD w u ds a capa) (h2 : Arg w v zs b capb) (hx : ds.length ≤ 68719476736) (hy : zs.length ≤ 134217728)
    (hf : trimN zs zs.length = zs.length) (h : valD ds = val zs) :
    Calls Try.prog 14 #[u, v] w fun e w' => e = .returned (.bool true) ∧ Below w.heap.size w w' := by
  go_enter Try.func14, Try.ntmps14
  go_wp2_with fail
  refine (canonical_true h2 (by omega) hf).mono ?_
  rintro e w' ⟨rfl, rfl⟩
  go_wp2_with fail
  refine (of_any h2 hy).mono ?_
  rintro e w1 ⟨r, rfl, qs, hq, hl, hb⟩
  obtain ⟨ad, cap, A⟩ := hq.arg
  have h1' := h1.later hb
  go_wp2_with fail
  refine (cmpD_any A h1' (by omega) hx).mono ?_
  rintro e w2 ⟨rfl, hb2⟩
  rw [hq.eq, h, sign_self]
  have h0 : ((0 : Int) == 0) = true := by decide
  go_wp2_with fail
  go_ret
  exact ⟨rfl, hb.trans (hb2.mono hb.size)⟩

set_option maxHeartbeats 400000 in
theorem own_any {u : Value} {xs : List Int} {a : Option Addr} {capa : Nat} {w : World} (h1 : Arg w u xs a capa) (hx : xs.length ≤ 134217728) (hn : a = none → capa = 0) :
    Calls Try.prog 19 #[u] w fun e w' => ∃ r, e = .returned r ∧ Num w.heap.size w' r xs ∧ ∃ ad cap, Arg w' r xs ad cap ∧ (ad = none → cap = 0) ∧ Below w.heap.size w w' := by
  obtain ⟨rfl, lx, hle, wx⟩ := h1
  obtain ⟨i0, hi, hz0, hz1, hz2⟩ := info_parts infoLimb
  cases a with
  | none =>
    have hc := hn rfl
    subst hc
    have hxs : xs = [] := List.eq_nil_of_length_eq_zero (by omega)
    subst hxs
    have hnil := World.ownsRow_nil w w.heap.size 56 1
    have hrun := run_append_owned_none (P := Try.prog) w w.heap.size 24 24 56 i0 1 Try.underlying24 hi (.slice none 0 0) 0 [] hnil
    go_enter Try.func19, Try.ntmps19
    go_wp2
    go_ret
    exact ⟨_, rfl, hnil, none, 0, ⟨rfl, .inl rfl, Nat.le_refl _, Wf.nil⟩, fun _ => rfl, Below.refl _ _⟩
  | some ad =>
    have hnil := World.ownsRow_nil w w.heap.size 56 1
    have hcells : ∀ j u, (xs.map (Value.int .u32))[j]? = some u → w.cell? (ad.add j) = some u := by
      intro j u hj
      rcases lx with rfl | ⟨b, off, e, hc⟩
      · simp at hj
      · cases e
        rw [List.getElem?_map] at hj
        have hjl : j < xs.length := by
          rcases Nat.lt_or_ge j xs.length with h | h
          · exact h
          · rw [List.getElem?_eq_none h] at hj; cases hj
        rw [show (⟨b, off, none⟩ : Addr).add j = ⟨b, off + j, none⟩ from (by unfold Addr.add; split <;> simp_all), hc j hjl, ← hj]
        simp [hjl]
    go_enter Try.func19, Try.ntmps19
    go_wp2_with (at_builtin; refine wpList_append_own _ rfl _ _ 24 rfl w.heap.size 56 i0 (.int .u32 0) 1 4 Try.underlying24 hi hz0 hz1 hz2 rfl (by decide) _ 0 [] rfl hnil ad xs.length capa (xs.map (Value.int .u32)) rfl (by simp) hcells (ints_oneCell _ _) (by unfold maxLen; omega) (by omega) (Nat.le_refl _) ?_; intro v' w1 hown' hgrow _)
    have hnum : Num w.heap.size w1 v' xs := by
      unfold Num
      simpa using hown'
    have hb : Below w.heap.size w w1 := (Below.refl _ w).grown hgrow (Nat.le_refl _) (fun k hk => by cases hk)
    obtain ⟨ad', cap', h1, h2, h3, h4, h5⟩ := hnum.read
    go_wp2
    go_ret
    refine ⟨_, rfl, hnum, ad', cap', ⟨h1, h2, h3, wx⟩, ?_, hb⟩
    intro hno
    subst hno
    rcases hnum.2 with ⟨e, _⟩ | ⟨g, cp, cur, e, _⟩
    · rw [h1] at e; simp only [Value.slice.injEq] at e; exact e.2.2
    · rw [h1] at e; simp at e
end Go.Proofs.Yteinfanfhgpciaa
