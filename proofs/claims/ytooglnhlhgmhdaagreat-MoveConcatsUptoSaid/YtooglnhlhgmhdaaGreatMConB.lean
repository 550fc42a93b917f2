/-
  Package move as it landed: Concat. (Made by wip/gen/gen_mconc.py.)
-/
import Derived.Test.YtooglnhlhgmhdaaGreatMConA
namespace Go.Proofs.YtooglnhlhgmhdaaGreat
open Go.RowKit
set_option linter.unusedVariables false
set_option linter.unusedSimpArgs false

/-- the element at places of what is put together -/
def conF (a : Nat) (xs : List X2) (ys : List Int) : Rat := match (layL a xs)[(ys.getD a 0).toNat]? with
  | some (x, k) => elV x.s (x.q.map Q3.rat) (ys.set a k)
  | none => 0
def conV (a : Nat) (xs : List X2) : List Rat := fillV (joS a xs) (conF a xs)
theorem conF_at {a : Nat} {xs : List X2} {ys : List Int} {x : X2} {k : Int} (h : (layL a xs)[(ys.getD a 0).toNat]? = some (x, k)) : conF a xs ys = elV x.s (x.q.map Q3.rat) (ys.set a k) := by
  unfold conF
  rw [h]
theorem joS_len {a : Nat} {xs : List X2} : (joS a xs).length = (firstS xs).length := by unfold joS firstS; rw [List.length_set]
/-- when tensors may be put together -/
structure Jo (a : Nat) (xs : List X2) : Prop where
  ne : 0 < xs.length
  may : ∀ x ∈ xs, mayT x.s x.q = 0
  ax : a < (firstS xs).length
  same : ∀ x ∈ xs, onesS x.s [(a : Int)] = onesS (firstS xs) [(a : Int)]
  ok : OkS (joS a xs)
theorem mjC_zero {axis : Int} {xs : List X2} (h : mjC axis xs = 0) : 0 ≤ axis ∧ Jo axis.toNat xs := by
  unfold mjC at h
  split at h
  · cases h
  · rename_i h1
    split at h
    · rename_i h2
      exact absurd h h2
    · rename_i h2
      split at h
      · cases h
      · rename_i h3
        split at h
        · cases h
        · rename_i h4
          have ha : axis = (axis.toNat : Int) := by omega
          refine ⟨by omega, by omega, mayX_zero (Classical.not_not.1 h2), by omega, fun x hx => ?_, mayC_zero.1 h⟩
          rw [← ha]
          exact Classical.byContradiction fun hne => h4 ⟨x, hx, hne⟩
theorem Jo.okx {a : Nat} {xs : List X2} (h : Jo a xs) : ∀ x ∈ xs, OkS x.s ∧ a < x.s.length := fun x hx => ⟨mayC_zero.1 (mayT_rank (h.may x hx)), by
  have e := congrArg List.length (h.same x hx)
  rw [ones_len, ones_len] at e
  have := h.ax
  omega⟩
theorem Jo.lays {a : Nat} {xs : List X2} (h : Jo a xs) : ((layL a xs).length : Int) = sumD a xs := layL_len fun x hx => by
  have := (h.okx x hx).1.pos.getD (h.okx x hx).2
  omega
theorem Jo.at {a : Nat} {xs : List X2} (h : Jo a xs) {ys : List Int} (hy : inS (joS a xs) ys) : 0 ≤ ys.getD a 0 ∧ ∃ x k, (layL a xs)[(ys.getD a 0).toNat]? = some (x, k) ∧ x ∈ xs ∧ 0 ≤ k ∧ k < x.s.getD a 0 := by
  have h1 := inS_at hy (i := a) (by rw [joS_len]; exact h.ax)
  have h2 : (joS a xs).getD a 0 = sumD a xs := by
    unfold joS
    exact getD_set_self _ _ _ h.ax
  rw [h2, ← h.lays] at h1
  have hlt : (ys.getD a 0).toNat < (layL a xs).length := by omega
  obtain ⟨⟨x, k⟩, hx⟩ : ∃ y, (layL a xs)[(ys.getD a 0).toNat]? = some y := ⟨_, List.getElem?_eq_getElem hlt⟩
  have hm := layL_mem (List.mem_of_getElem? hx)
  exact ⟨h1.1, x, k, hx, hm.1, hm.2.1, hm.2.2⟩
set_option maxRecDepth 100000 in
set_option maxHeartbeats 40000000 in
theorem concat_any {n : Nat} {w : World} {v : Value} {xs : List X2} {ad : Option Addr} {cap : Nat} (axis : Int) (R : RowT w v xs ad cap) (hn : xs.length ≤ 1048576) (hl : ∀ x ∈ xs, x.s.length ≤ 1048576 ∧ x.q.length ≤ 1048576 ∧ lensQ x.q n) (hn2 : n ≤ 3000000) (h0 : -9223372036854775808 ≤ axis) (h1 : axis ≤ 9223372036854775807) :
    Calls Tryz.prog 29 #[.int .i64 axis, v] w fun e w' => One w.heap.size w' e (mjC axis xs) (joS axis.toNat xs) (conV axis.toNat xs) (n + 2) ∧ Below w.heap.size w w' := by
  obtain rfl := R.is
  have HR := Lib.hid R
  have HLL := Lib.hid hl
  obtain ⟨W, hW⟩ : ∃ W, ((w.alloc (.cells #[.int .i64 axis] 3)).alloc (.cells #[.slice none 0 0, .slice none 0 0] 26)) = W := ⟨_, rfl⟩
  have R0 : Row W w.heap.size 3 #[.int .i64 axis] := by rw [← hW]; exact (Row.new _ _ _).alloc _
  have R1 : Row W (w.heap.size + 1) 26 #[.slice none 0 0, .slice none 0 0] := by rw [← hW]; have h := Row.new (w.alloc (.cells #[.int .i64 axis] 3)) 26 #[.slice none 0 0, .slice none 0 0]; simp only [World.size_alloc] at h; exact h
  have hBW : Below w.heap.size w W := by rw [← hW]; exact ((Below.refl _ _).alloc (Nat.le_refl _) _).alloc (by simp) _
  have hsW : W.heap.size = w.heap.size + 1 + 1 := by rw [← hW]; simp
  have hmj := mayJoin_any axis (R.later hBW) hn hl hn2 h0 h1
  obtain ⟨c, hc⟩ : ∃ c, mjC axis xs = c := ⟨_, rfl⟩
  rw [hc] at hmj
  have HC := Lib.hid hc
  rw [hc]
  obtain ⟨N, hN⟩ : ∃ N, xs.length = N := ⟨_, rfl⟩
  have HN := Lib.hid hN
  rw [hN] at hn hmj ⊢
  have k0 := R0.cell 0
  have k0' : W.cell? ⟨w.heap.size, 0, none⟩ = some (.int .i64 axis) := k0
  obtain ⟨LR, hLR⟩ : ∃ L, conV axis.toNat xs = L := ⟨_, rfl⟩
  obtain ⟨SR, hSR⟩ : ∃ L, joS axis.toNat xs = L := ⟨_, rfl⟩
  have HLR := Lib.hid hLR
  have HSR := Lib.hid hSR
  rw [hLR, hSR]
  have hmf : ∀ (fn : Fn) (first cap : Array Value) (w : World), (Instr.makeFunc fn first cap).run Tryz.prog w = .ok (.func fn first cap) w := fun _ _ _ _ => rfl
  clear R hl hc hN k0 hLR hSR
  by_cases hc0 : c = 0
  · subst hc0
    obtain ⟨hax, J⟩ := mjC_zero HC.out
    obtain ⟨a, rfl⟩ : ∃ a : Nat, axis = (a : Int) := ⟨axis.toNat, by omega⟩
    rw [show ((a : Int)).toNat = a by omega] at J
    have HJ := Lib.hid J
    have hokx := J.okx
    have HOK := Lib.hid hokx
    have HAT := Lib.hid (show ((a : Int)).toNat = a by omega)
    clear J
    go_enter Tryz.func29, Tryz.ntmps29
    go_wp2_with fail
    (try rw [hW])
    clear hW
    refine hmj.mono ?_
    rintro e y1 ⟨rfl, hy1⟩
    have B1 : Below w.heap.size w y1 := hBW.trans (hy1.mono (by omega))
    have k1 := (R0.later hy1).cell 0
    have k1' : y1.cell? ⟨w.heap.size, 0, none⟩ = some (.int .i64 (a : Int)) := k1
    have hla := layers_any (HR.out.later B1) (by rw [HN.out]; exact hn) hokx
    rw [HN.out] at hla
    clear hmj k0' k1
    go_wp2_with fail
    refine hla.mono ?_
    rintro e y2 ⟨r2, rfl, RL, hy2⟩
    obtain ⟨al, cl, RA, nl, hcm⟩ := RL.arg
    obtain rfl := RA.is
    obtain ⟨y3, hy3⟩ : ∃ Y, y2.alloc (.cells #[.slice al (layL a xs).length cl] 93) = Y := ⟨_, rfl⟩
    have b3 : Below y2.heap.size y2 y3 := by rw [← hy3]; exact (Below.refl _ _).alloc (Nat.le_refl _) _
    have R3 : Row y3 y2.heap.size 93 #[.slice al (layL a xs).length cl] := by rw [← hy3]; exact Row.new _ _ _
    have D13 : Below y1.heap.size y1 y3 := hy2.trans (b3.mono hy2.size)
    have B3 : Below w.heap.size w y3 := B1.trans (D13.mono B1.size)
    have DW3 : Below W.heap.size W y3 := hy1.trans (D13.mono hy1.size)
    have k3' : y3.cell? ⟨w.heap.size, 0, none⟩ = some (.int .i64 (a : Int)) := (R0.later DW3).cell 0
    have RA3 : RowA LayP y3 (.slice al (layL a xs).length cl) (layL a xs) al cl := by
      obtain ⟨i1, i2, i3⟩ := RA
      refine ⟨rfl, i2, i3.imp id ?_⟩
      rintro ⟨bb, oo, es, e1, e2, e3⟩
      exact ⟨bb, oo, es, e1, fun i e he => ⟨(b3.cell (World.block_lt_of_cell? _ _ (e2 i e he).1)).trans (e2 i e he).1, (b3.cell (World.block_lt_of_cell? _ _ (e2 i e he).2.1)).trans (e2 i e he).2.1, (b3.cell (World.block_lt_of_cell? _ _ (e2 i e he).2.2)).trans (e2 i e he).2.2⟩, e3.imp fun u l _ h => h.later D13⟩
    have HRA := Lib.hid RA3
    have HR3 := Lib.hid R3
    have HK3 := Lib.hid k3'
    have hjo := joined_any (HR.out.later B3) (by rw [HN.out]; have := HJ.out.ne; rw [HN.out] at this; exact this) (by rw [HN.out]; exact hn) hokx
    rw [HN.out] at hjo
    obtain ⟨nl2, hnl2⟩ : ∃ n, (layL a xs).length = n := ⟨_, rfl⟩
    have HNL := Lib.hid hnl2
    rw [hnl2] at hy3 R3 ⊢
    clear hla RL RA nl hcm k1' RA3 hokx hnl2 R3
    go_wp2_with fail
    (try rw [hy3])
    clear hy3
    refine hjo.mono ?_
    rintro e y4 ⟨r4, rfl, RS4, hy4⟩
    obtain ⟨aj, cj, AJ, nj⟩ := RS4.arg2
    obtain rfl := AJ.is
    have hbu := built_any (N := n + 2) (F := 71) (cap := #[.pointer (some ⟨y2.heap.size, 0, none⟩), .pointer (some ⟨w.heap.size, 0, none⟩)]) (f := conF a xs) AJ nj HJ.out.ok (enters_of Tryz.func71 (by kernel_rfl) rfl)
      (fun B X u ys hin hB hBX hX hu => by
        obtain ⟨ax, cx, rfl, IX, hcx, nx, hwx⟩ := hu.idx
        have hly := inS_length hin
        rw [joS_len] at hly
        obtain ⟨q0, x, k, q1, q2, q3, q4⟩ := HJ.out.at hin
        have hxk := HOK.out x q2
        have hk4 := getD_le_prod hxk.1.pos hxk.2
        have hk5 := hxk.1.few
        rw [conF_at q1]
        have hr4 := HJ.out.ok.rank
        rw [joS_len] at hr4
        exact concat1_any (a := a) (HRA.out.later hy4 (fun u l _ h => h.later hy4)) ((HR3.out.later hy4).cell 0) ((hy4.cell (World.block_lt_of_cell? _ _ HK3.out)).trans HK3.out) hB hBX hX IX hcx nx hwx (by rw [hly]; exact HJ.out.ax) (by omega) q0 q1 (by omega) (HJ.out.may x q2) (HLL.out x q2).2.2 (by omega))
    have hconv : fillV (joS a xs) (conF a xs) = LR := by rw [← HLR.out, HAT.out]; rfl
    have hjs : joS a xs = SR := by rw [← HSR.out, HAT.out]
    rw [hconv, hjs] at hbu
    rw [hjs]
    have D34 := hy4
    have B4 : Below w.heap.size w y4 := B3.trans (hy4.mono B3.size)
    have DW4 : Below W.heap.size W y4 := DW3.trans (hy4.mono DW3.size)
    have P1' := R1.later DW4
    have HBU := Lib.hid hbu
    have s4 := DW4.size
    obtain ⟨ls0, hls0⟩ : ∃ l, SR.length = l := ⟨_, rfl⟩
    rw [hls0] at HBU ⊢
    have HLS0 := Lib.hid hls0
    clear hbu hjo RS4 AJ nj hconv hjs hls0 k3'
    go_wp2_with fail
    refine HBU.out.mono ?_
    rintro e w2 ⟨r, rfl, hT, hb2⟩
    obtain ⟨a', b', ca', cb', rfl, RS, RO⟩ := hT
    have P2 := P1'.later hb2
    have s3 := hb2.size
    obtain ⟨u0, u1, g0, g1⟩ := P2.two
    have HRS := Lib.hid RS
    have HO := Lib.hid RO
    clear RS RO
    obtain ⟨l, hl⟩ : ∃ l, LR.length = l := ⟨_, rfl⟩
    obtain ⟨ls, hls⟩ : ∃ ls, SR.length = ls := ⟨_, rfl⟩
    have HL2 := Lib.hid hl
    have HL3 := Lib.hid hls
    rw [hl, hls]
    clear hl hls
    go_wp2_with fail
    have P3 := P2.set2 (.slice a' ls ca') (.slice b' l cb')
    obtain ⟨z0, z1, _, _⟩ := P3.two
    refine bodyPost_ret (v := .tuple #[.agg #[.slice a' ls ca', .slice b' l cb'], .int .i64 0]) (by simp [results, Tryz.results29, go_sem, z0, z1]) rfl ⟨.inl ⟨rfl, _, rfl, ?_⟩, below_set2 (B4.trans (hb2.mono (by omega))) (by omega) _ _⟩
    have hRT : ResT w.heap.size w2 (.agg #[.slice a' ls ca', .slice b' l cb']) SR LR (n + 2) := ResT.mono ⟨a', b', ca', cb', by rw [HL2.out, HL3.out], HRS.out, HO.out⟩ (by omega)
    exact hRT.far P2 (by decide) (by decide) (by decide) (kept2 _ _)
  · have hne : (c != 0) = true := by simp [hc0]
    have H0 := Lib.hid hc0
    clear hc0
    go_enter Tryz.func29, Tryz.ntmps29
    go_wp2_with fail
    (try rw [hW])
    clear hW
    refine hmj.mono ?_
    rintro e y1 ⟨rfl, hy1⟩
    have P1 := R1.later hy1
    obtain ⟨u0, u1, g0, g1⟩ := P1.two
    have hB2 : Below w.heap.size w y1 := hBW.trans (hy1.mono (by omega))
    clear hmj k0'
    go_wp2_with fail
    have P3 := P1.set2 (.slice none 0 0) (.slice none 0 0)
    obtain ⟨z0, z1, _, _⟩ := P3.two
    refine bodyPost_ret (v := .tuple #[noTensor, .int .i64 c]) (by simp [results, Tryz.results29, go_sem, z0, z1, noTensor]) rfl ⟨.inr ⟨H0.out, rfl⟩, below_set2 hB2 (by omega) _ _⟩
end Go.Proofs.YtooglnhlhgmhdaaGreat
