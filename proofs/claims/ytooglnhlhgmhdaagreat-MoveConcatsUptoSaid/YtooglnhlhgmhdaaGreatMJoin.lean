/-
  Package move as it landed: joined, mayJoin. (Made by wip/gen/gen_mjoin.py.)
-/
import Derived.Test.YtooglnhlhgmhdaaGreatMTens
namespace Go.Proofs.YtooglnhlhgmhdaaGreat
open Go.RowKit
set_option linter.unusedVariables false
set_option linter.unusedSimpArgs false

/-- the sum of the dimensions along an axis -/
def sumD (a : Nat) : List X2 → Int
  | [] => 0
  | x :: l => x.s.getD a 0 + sumD a l
theorem sumD_snoc (a : Nat) (l : List X2) (x : X2) : sumD a (l ++ [x]) = sumD a l + x.s.getD a 0 := by
  induction l with
  | nil => simp [sumD]
  | cons y l ih => simp only [List.cons_append, sumD, ih]; omega
theorem sumD_bound {a : Nat} {l : List X2} (h : ∀ x ∈ l, OkS x.s ∧ a < x.s.length) : (l.length : Int) ≤ sumD a l ∧ sumD a l ≤ 1024 * l.length := by
  induction l with
  | nil => exact ⟨Int.le_refl _, Int.le_refl _⟩
  | cons x l ih =>
    have h1 := ih fun y hy => h y (List.mem_cons_of_mem _ hy)
    have h2 := h x List.mem_cons_self
    have h3 := h2.1.pos.getD h2.2
    have h4 := getD_le_prod h2.1.pos h2.2
    have h5 := h2.1.few
    simp only [sumD, List.length_cons]
    omega
/-- the shape of tensors that are put together -/
def joS (a : Nat) (xs : List X2) : List Int := ((xs.head?.map X2.s).getD []).set a (sumD a xs)
theorem set_self9 {l : List Int} {a : Nat} : l.set a (l.getD a 0) = l := by
  apply List.ext_getElem?
  intro i
  rw [List.getElem?_set]
  split
  · next h =>
    subst h
    split
    · next h => simp [h]
    · next h => rw [List.getElem?_eq_none (by omega)]
  · rfl
theorem set_set9 {l : List Int} {a : Nat} {x y : Int} : (l.set a x).set a y = l.set a y := List.set_set ..
set_option maxRecDepth 100000 in
set_option maxHeartbeats 40000000 in
theorem joined_any {w : World} {v : Value} {xs : List X2} {ad : Option Addr} {cap a : Nat} (R : RowT w v xs ad cap) (hne : 0 < xs.length) (hn : xs.length ≤ 1048576) (hx : ∀ x ∈ xs, OkS x.s ∧ a < x.s.length) :
    Calls Tryz.prog 70 #[.int .i64 (a : Int), v] w fun e w' => ∃ r, e = .returned r ∧ ResS w.heap.size w' r (joS a xs) ∧ Below w.heap.size w w' := by
  obtain rfl := R.is
  have HR := Lib.hid R
  have HX := Lib.hid hx
  obtain ⟨x0, hx0⟩ : ∃ x, xs[0]? = some x := ⟨_, List.getElem?_eq_getElem hne⟩
  obtain ⟨b, o, rfl, hbl, a0, e0, ca0, ce0, k0, k1, T0⟩ := R.at hx0
  rw [Nat.zero_mul, Nat.add_zero] at k0 k1
  have HX0 := Lib.hid hx0
  have hm0 := hx x0 (List.mem_of_getElem? hx0)
  have hrk := hm0.1.rank
  have hcap := R.2.1
  obtain ⟨N, hN⟩ : ∃ N, xs.length = N := ⟨_, rfl⟩
  have HN := Lib.hid hN
  rw [hN] at hne hn hcap ⊢
  have hcl := cloneS_any T0.sh T0.nila (by omega)
  obtain ⟨res, hres⟩ : ∃ l, joS a xs = l := ⟨_, rfl⟩
  have HRES := Lib.hid hres
  have hneI : (0 : Int) < (N : Int) := by omega
  have hI1 : (1 : Int) ≤ (N : Int) := by omega
  have hIc : (N : Int) ≤ (cap : Int) := by omega
  rw [hres]
  clear R hx hx0 hN T0 hres
  go_enter Tryz.func70, Tryz.ntmps70
  go_upto_region 2 with (go_at_call 60; refine hcl.mono ?_; rintro e w1 ⟨r, rfl, RC, hb1⟩; obtain ⟨al, cl, rfl, IL, hlc, nl, wl⟩ := RC.idx)
  have HIL := Lib.hid IL
  have HWL := Lib.hid wl
  have HB1 := Lib.hid hb1
  clear IL wl RC hcl nl k0 k1 hb1
  go_cut [14, 15, 16] (fun s14 s15 s16 wx => ∃ (adf : Option Addr) (capf : Nat), s14 = .slice adf (N - 1) capf ∧ s15 = .int .i64 ((N - 1 : Nat) : Int) ∧ s16 = .int .i64 0 ∧ (N ≤ 1 ∨ adf = some ⟨b, o + 2, none⟩) ∧ wx = w1)
  case first =>
    rcases (show (cap = 1 ∧ N = 1) ∨ 1 < cap by omega) with ⟨rfl, rfl⟩ | hc1
    · go_wp2_with fail
      all_goals (go_meet; refine ⟨_, _, rfl, rfl, rfl, .inl (Nat.le_refl _), rfl⟩)
    · have hc1I : (1 : Int) < (cap : Int) := by omega
      go_wp2_with fail
      all_goals (go_meet; refine ⟨some ⟨b, o + 2, none⟩, cap - 1, ?_, ?_, rfl, .inr rfl, rfl⟩ <;> first | rfl | (simp; omega))
  case rest =>
    obtain ⟨adf, capf, rfl, rfl, rfl, hadf, rfl⟩ := hcut
    have HADF := Lib.hid hadf
    obtain ⟨NM, hNM⟩ : ∃ n, N - 1 = n := ⟨_, rfl⟩
    have hnm1 : NM + 1 ≤ N ∧ N ≤ NM + 1 := by omega
    rw [hNM]
    clear hadf hNM
    go_wp2_with fail
    go_loopw [7, 16] (fun _ i wr => ∃ (k : Nat) (zs : List Int), i = .int .i64 (k : Int) ∧ k ≤ NM ∧ IdxP w.heap.size wr al cl zs ∧ zs = x0.s.set a (sumD a (xs.take (k + 1))) ∧ Below w.heap.size w wr) (fun _ i _ => NM - (intOf i).toNat)
    case atStart => exact ⟨0, _, rfl, Nat.zero_le _, HIL.out, by
      rw [List.take_add_one, HX0.out]
      simp only [List.take_zero, List.nil_append, Option.toList, sumD, Int.add_zero]
      exact set_self9.symm, HB1.out⟩
    case round =>
      obtain ⟨k, zs, rfl, hk, hI, hzs, hb⟩ := hrel
      have hsz := hb.size
      have HZS := Lib.hid hzs
      have hlz : zs.length = x0.s.length := by rw [hzs, List.length_set]
      have HLZ := Lib.hid hlz
      have HI := Lib.hid hI
      have HB := Lib.hid hb
      clear hzs
      by_cases hlt : k < NM
      · have hltI : (k : Int) < (NM : Int) := by omega
        obtain rfl := HADF.out.resolve_left (by omega)
        obtain ⟨x, hx⟩ : ∃ x, xs[k + 1]? = some x := ⟨_, List.getElem?_eq_getElem (by rw [HN.out]; omega)⟩
        obtain ⟨b', o', e', _, ax, ex, cx, dx, c0, c1, TX⟩ := (HR.out.later hb).at hx
        cases e'
        rw [show o + (k + 1) * 2 = o + 2 + k * 2 by omega] at c0 c1
        have hmx := HX.out x (List.mem_of_getElem? hx)
        obtain ⟨bx, ox, rfl, c2⟩ := TX.sh.at (i := a) hmx.2
        obtain ⟨d, hd⟩ : ∃ d, x.s.getD a 0 = d := ⟨_, rfl⟩
        rw [hd] at c2
        have hrx := hmx.1.rank
        have hax := hmx.2
        have hpre : ∀ y ∈ xs.take (k + 1), OkS y.s ∧ a < y.s.length := fun y hy => HX.out y (List.mem_of_mem_take hy)
        have hbd := sumD_bound hpre
        rw [List.length_take, HN.out] at hbd
        have hd3 := hmx.1.pos.getD hmx.2
        have hd4 := getD_le_prod hmx.1.pos hmx.2
        have hd5 := hmx.1.few
        rw [hd] at hd3 hd4
        obtain ⟨gl, rfl, hgB, hmax, hP⟩ := hI.at (i := a) (by rw [hlz]; exact hm0.2)
        have cz := hP.cell a (by rw [hlz]; exact hm0.2)
        have hzv : zs.getD a 0 = sumD a (xs.take (k + 1)) := by rw [HZS.out]; exact getD_set_self _ _ _ hm0.2
        obtain ⟨z, hz⟩ : ∃ z, sumD a (xs.take (k + 1)) = z := ⟨_, rfl⟩
        rw [hz] at hzv hbd
        rw [hzv] at cz
        have hmin : min (k + 1) N = k + 1 := by omega
        rw [hmin] at hbd
        have wy : IntKind.i64.wrap (z + d) = z + d := wrap_i64 (by omega) (by omega)
        have hnx : zs.set a (z + d) = x0.s.set a (sumD a (xs.take (k + 1 + 1))) := by
          rw [HZS.out, set_set9, take_nextL hx, sumD_snoc, hz, hd]
        have HNX := Lib.hid hnx
        have ha0 : (a : Int) < (x0.s.length : Int) := by have := hm0.2; omega
        have haxI : (a : Int) < (x.s.length : Int) := by omega
        have hfd0 := hP.free a
        have hgl := hP.lt
        have HPP := Lib.hid hP
        obtain ⟨W2, hW2⟩ : ∃ Y, wr.alloc (.cells #[.slice (some ⟨bx, ox, none⟩) x.s.length cx, .slice ex x.q.length dx] 26) = Y := ⟨_, rfl⟩
        have b2 : Below wr.heap.size wr W2 := by rw [← hW2]; exact (Below.refl _ _).alloc (Nat.le_refl _) _
        have RX : Row W2 wr.heap.size 26 #[.slice (some ⟨bx, ox, none⟩) x.s.length cx, .slice ex x.q.length dx] := by rw [← hW2]; exact Row.new _ _ _
        have d0 := (b2.cell (World.block_lt_of_cell? _ _ cz)).trans cz
        have d1 := (b2.cell (World.block_lt_of_cell? _ _ c2)).trans c2
        have d2 := RX.cell 0
        have P2 : PartS W2 gl cl zs := hP.later b2
        have hfd : W2.drew.frozen? ⟨gl, a, none⟩ = false := P2.free a
        have hS0 : W2.drew.cell? ⟨gl, a, none⟩ = some (.int .i64 z) ∧ W2.drew.cell? ⟨wr.heap.size, 0, none⟩ = some (.slice (some ⟨bx, ox, none⟩) x.s.length cx) ∧ W2.drew.cell? ⟨bx, ox + a, none⟩ = some (.int .i64 d) := ⟨d0, d2, d1⟩
        have HP2 := Lib.hid P2
        have HB2 := Lib.hid b2
        clear hI hb hx TX hd hz hzv hnx hP P2 cz c2 hpre hfd0 d0 d1 d2 RX
        go_wp2_with fail
        (try rw [hW2])
        clear hW2 c0 c1
        refine wp_region_L (S := fun Y => Y.cell? ⟨gl, a, none⟩ = some (.int .i64 z) ∧ Y.cell? ⟨wr.heap.size, 0, none⟩ = some (.slice (some ⟨bx, ox, none⟩) x.s.length cx) ∧ Y.cell? ⟨bx, ox + a, none⟩ = some (.int .i64 d)) (z := 11) (by kernel_rfl) hS0 (fun hHeld => ?_)
        refine wpAnyL_take (i := 0) (v := ?vja0) rfl (by kernel_rfl) (by kernel_rfl) (by kernel_rfl) (by kernel_rfl) (fun _ _ _ h => h) (Or.inl ⟨by rfl, ?hja0⟩) (by assumption) ?rja0
        case hja0 =>
          intro w hSw
          try dsimp only at hSw
          go_simp
          try with_reducible rfl
        try simp only [Act.put, List.getElem_toArray, List.getElem_cons_succ, List.getElem_cons_zero, List.setIfInBounds_toArray, List.set_cons_zero, List.set_cons_succ]
        refine wpAnyL_take (i := 1) (v := ?vja1) rfl (by kernel_rfl) (by kernel_rfl) (by kernel_rfl) (by kernel_rfl) (fun _ _ _ h => h) (Or.inl ⟨by rfl, ?hja1⟩) (by assumption) ?rja1
        case hja1 =>
          intro w hSw
          try dsimp only at hSw
          go_simp
          try with_reducible rfl
        try simp only [Act.put, List.getElem_toArray, List.getElem_cons_succ, List.getElem_cons_zero, List.setIfInBounds_toArray, List.set_cons_zero, List.set_cons_succ]
        refine wpAnyL_take (i := 2) (v := ?vja2) rfl (by kernel_rfl) (by kernel_rfl) (by kernel_rfl) (by kernel_rfl) (fun _ _ _ h => h) (Or.inl ⟨by rfl, ?hja2⟩) (by assumption) ?rja2
        case hja2 =>
          intro w hSw
          try dsimp only at hSw
          go_simp
          try with_reducible rfl
        try simp only [Act.put, List.getElem_toArray, List.getElem_cons_succ, List.getElem_cons_zero, List.setIfInBounds_toArray, List.set_cons_zero, List.set_cons_succ]
        refine wpAnyL_take (i := 3) (v := ?vja3) rfl (by kernel_rfl) (by kernel_rfl) (by kernel_rfl) (by kernel_rfl) (fun _ _ _ h => h) (Or.inl ⟨by rfl, ?hja3⟩) (by assumption) ?rja3
        case hja3 =>
          intro w hSw
          try dsimp only at hSw
          go_simp
          try with_reducible rfl
        try simp only [Act.put, List.getElem_toArray, List.getElem_cons_succ, List.getElem_cons_zero, List.setIfInBounds_toArray, List.set_cons_zero, List.set_cons_succ]
        refine wpAnyL_take (i := 4) (v := ?vja4) rfl (by kernel_rfl) (by kernel_rfl) (by kernel_rfl) (by kernel_rfl) (fun _ _ _ h => h) (Or.inl ⟨by rfl, ?hja4⟩) (by assumption) ?rja4
        case hja4 =>
          intro w hSw
          try dsimp only at hSw
          go_simp
          try with_reducible rfl
        try simp only [Act.put, List.getElem_toArray, List.getElem_cons_succ, List.getElem_cons_zero, List.setIfInBounds_toArray, List.set_cons_zero, List.set_cons_succ]
        refine wpAnyL_take (i := 5) (v := ?vja5) rfl (by kernel_rfl) (by kernel_rfl) (by kernel_rfl) (by kernel_rfl) (fun _ _ _ h => h) (Or.inl ⟨by rfl, ?hja5⟩) (by assumption) ?rja5
        case hja5 =>
          intro w hSw
          try dsimp only at hSw
          go_simp
          try with_reducible rfl
        try simp only [Act.put, List.getElem_toArray, List.getElem_cons_succ, List.getElem_cons_zero, List.setIfInBounds_toArray, List.set_cons_zero, List.set_cons_succ]
        refine wpAnyL_take (i := 6) (v := ?vja6) rfl (by kernel_rfl) (by kernel_rfl) (by kernel_rfl) (by kernel_rfl) (fun _ _ _ h => h) (Or.inl ⟨by rfl, ?hja6⟩) (by assumption) ?rja6
        case hja6 =>
          intro w hSw
          try dsimp only at hSw
          go_simp
          try with_reducible rfl
        try simp only [Act.put, List.getElem_toArray, List.getElem_cons_succ, List.getElem_cons_zero, List.setIfInBounds_toArray, List.set_cons_zero, List.set_cons_succ]
        refine wpAnyL_take (i := 7) (v := ?vja7) rfl (by kernel_rfl) (by kernel_rfl) (by kernel_rfl) (by kernel_rfl) (fun _ _ _ h => h) (Or.inl ⟨by rfl, ?hja7⟩) (by assumption) ?rja7
        case hja7 =>
          intro w hSw
          try dsimp only at hSw
          go_simp
          try with_reducible rfl
        try simp only [Act.put, List.getElem_toArray, List.getElem_cons_succ, List.getElem_cons_zero, List.setIfInBounds_toArray, List.set_cons_zero, List.set_cons_succ]
        refine wpAnyL_take (i := 8) (v := ?vja8) rfl (by kernel_rfl) (by kernel_rfl) (by kernel_rfl) (by kernel_rfl) (fun _ _ _ h => h) (Or.inl ⟨by rfl, ?hja8⟩) (by assumption) ?rja8
        case hja8 =>
          intro w hSw
          try dsimp only at hSw
          go_simp
          try with_reducible rfl
        try simp only [Act.put, List.getElem_toArray, List.getElem_cons_succ, List.getElem_cons_zero, List.setIfInBounds_toArray, List.set_cons_zero, List.set_cons_succ]
        refine wpAnyL_take (i := 9) (v := ?vja9) rfl (by kernel_rfl) (by kernel_rfl) (by kernel_rfl) (by kernel_rfl) (fun _ _ _ h => h) (Or.inl ⟨by rfl, ?hja9⟩) (by assumption) ?rja9
        case hja9 =>
          intro w hSw
          try dsimp only at hSw
          go_simp
          try with_reducible rfl
        try simp only [Act.put, List.getElem_toArray, List.getElem_cons_succ, List.getElem_cons_zero, List.setIfInBounds_toArray, List.set_cons_zero, List.set_cons_succ]
        refine wpAnyL_take (i := 10) (v := ?vja10) rfl (by kernel_rfl) (by kernel_rfl) (by kernel_rfl) (by kernel_rfl) (fun _ _ _ h => h) (Or.inl ⟨by rfl, ?hja10⟩) (by assumption) ?rja10
        case hja10 =>
          intro w hSw
          try dsimp only at hSw
          go_simp
          try with_reducible rfl
        try simp only [Act.put, List.getElem_toArray, List.getElem_cons_succ, List.getElem_cons_zero, List.setIfInBounds_toArray, List.set_cons_zero, List.set_cons_succ]
        refine wpAnyL_one (i := 11) (by kernel_rfl) rfl (fun K hK => ?sjb11)
        go_simp
        refine hK.out _ _ (fun h => absurd rfl h) (fun _ => ?mjb11)
        clear hK K
        try simp only [Act.put, List.getElem_toArray, List.getElem_cons_succ, List.getElem_cons_zero, List.setIfInBounds_toArray, List.set_cons_zero, List.set_cons_succ]
        refine wpAnyL_done (by kernel_rfl) ?_ _
        go_wp2_with fail
        go_roundw
        case rel =>
          exact ⟨k + 1, _, by go_num, by omega, .inr ⟨gl, rfl, hgB, hmax, PartS.set (show PartS W2.drew gl cl zs from HP2.out) a (by rw [HLZ.out]; exact hm0.2) (z + d)⟩, HNX.out, setBelow (HB.out.trans (HB2.out.drew.mono hsz)) hgB _ _⟩
        case measure => simp [intOf]; omega
      · obtain rfl : k = NM := by omega
        have hltI : ¬ (k : Int) < (k : Int) := by omega
        have hzr : zs = res := by
          rw [HZS.out, ← HRES.out]
          unfold joS
          rw [List.take_of_length_le (by rw [HN.out]; omega)]
          have e : xs.head? = some x0 := by rw [List.head?_eq_getElem?]; exact HX0.out
          rw [e]
          rfl
        have hwd : Wid zs := by
          have hb5 := sumD_bound HX.out
          rw [HN.out] at hb5
          rw [HZS.out]
          intro y hy
          rcases List.mem_or_eq_of_mem_set hy with h | rfl
          · exact HWL.out y h
          · rw [List.take_of_length_le (by rw [HN.out]; omega)]
            omega
        have hR := HI.out.res hwd
        rw [HLZ.out, hzr] at hR
        have HRR := Lib.hid hR
        clear hI hzr hwd hR
        go_wp2_with fail
        go_ret
        exact ⟨_, rfl, HRR.out, hb⟩
end Go.Proofs.YtooglnhlhgmhdaaGreat
