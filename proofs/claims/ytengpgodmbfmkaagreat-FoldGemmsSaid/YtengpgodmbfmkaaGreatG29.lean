/-
  Part 29 of 39: contracts and what they rest on (TCmp, PEach, MSlice, FCode1, FMats, FFirst, FPut).
-/
import Derived.Test.YtengpgodmbfmkaaGreatG24
import Derived.Test.YtengpgodmbfmkaaGreatG25
import Derived.Laws.IdiomArrays
namespace Go.Proofs.YtengpgodmbfmkaaGreat
set_option linter.unusedVariables false
set_option linter.unusedSimpArgs false
set_option maxRecDepth 100000
set_option maxHeartbeats 40000000
section
open Go.RowKit
noncomputable def allBC {α β : Type} (B : α → β → Bool) (s1 s2 : List Int) (L1 : List α) (L2 : List β) : Bool := @decide (s1 = s2 ∧ L1.length = L2.length ∧ ∀ (i : Nat) (x : α) (y : β), L1[i]? = some x → L2[i]? = some y → B x y = true) (Classical.propDecidable _)
theorem allBC_yes {α β : Type} {B : α → β → Bool} {s1 s2 : List Int} {L1 : List α} {L2 : List β} (h1 : s1 = s2) (h2 : L1.length = L2.length) (h3 : ∀ (i : Nat) (x : α) (y : β), L1[i]? = some x → L2[i]? = some y → B x y = true) : allBC B s1 s2 L1 L2 = true := by
 unfold allBC
 simp only [decide_eq_true_eq]
 exact ⟨h1, h2, h3⟩
theorem allBC_no {α β : Type} {B : α → β → Bool} {s1 s2 : List Int} {L1 : List α} {L2 : List β} (h : ¬ (s1 = s2 ∧ L1.length = L2.length ∧ ∀ (i : Nat) (x : α) (y : β), L1[i]? = some x → L2[i]? = some y → B x y = true)) : allBC B s1 s2 L1 L2 = false := by
 unfold allBC
 simp only [decide_eq_false_iff_not]
 exact h
theorem isRaw_any {n : Nat} {w : World} {u v : Value} {X : Rat} {q : Q3} (hu : ArgR w u X n) (hv : RawQ w v q) (hn : n ≤ 1000000000) (hx : q.num.length ≤ 134217728) (hd : q.den.length ≤ 134217728) :
 Calls Tryz.prog 82 #[u, v] w fun e w' => e = .returned (.bool (validB q.neg q.num q.den X)) ∧ Below w.heap.size w w' := by
 obtain ⟨ad, bd, ca, cb, rfl, A, B, _⟩ := hv
 exact isR_dec hu A B hn hx hd
theorem isT_any {n : Nat} {w : World} {u v : Value} {s1 s2 : List Int} {L1 : List Rat} {L2 : List Q3} {a1 b1 a2 b2 : Option Addr} {ca1 cb1 ca2 cb2 : Nat} (T1 : TensR w u s1 L1 n a1 ca1 b1 cb1) (T2 : TensQ w v s2 L2 a2 ca2 b2 cb2) (hs : s1.length ≤ 140737488355328) (hq1 : L1.length ≤ 1000000000) (hq2 : L2.length ≤ 1000000000) (hn : n ≤ 1000000000) (hl : ∀ q ∈ L2, q.num.length ≤ 134217728 ∧ q.den.length ≤ 134217728) :
 Calls Tryz.prog 33 #[u, v] w fun e w' => e = .returned (.bool (allBC (fun (x : Rat) (q : Q3) => validB q.neg q.num q.den x) s1 s2 L1 L2)) ∧ Below w.heap.size w w' := by
 have HT1 := Lib.hid T1
 have HT2 := Lib.hid T2
 obtain rfl := T1.is
 obtain rfl := T2.is
 obtain ⟨W, hW⟩ : ∃ W, ((w.alloc (.cells #[.slice a1 s1.length ca1, .slice b1 L1.length cb1] 36)).alloc (.cells #[.slice a2 s2.length ca2, .slice b2 L2.length cb2] 26)) = W := ⟨_, rfl⟩
 have R0 : Row W w.heap.size 36 #[.slice a1 s1.length ca1, .slice b1 L1.length cb1] := by rw [← hW]; exact (Row.new _ _ _).alloc _
 have R1 : Row W (w.heap.size + 1) 26 #[.slice a2 s2.length ca2, .slice b2 L2.length cb2] := by rw [← hW]; have h := (Row.new (w.alloc (.cells #[.slice a1 s1.length ca1, .slice b1 L1.length cb1] 36)) 26 #[.slice a2 s2.length ca2, .slice b2 L2.length cb2]); simp only [World.size_alloc] at h; exact h
 have hBW : Below w.heap.size w W := by rw [← hW]; exact ((Below.refl _ _).alloc (by simp) _).alloc (by simp) _
 obtain ⟨c, hc⟩ : ∃ c, allBC (fun (x : Rat) (q : Q3) => validB q.neg q.num q.den x) s1 s2 L1 L2 = c := ⟨_, rfl⟩
 have HC := Lib.hid hc
 rw [hc]
 have q1 := sameSh_any (HT1.out.sh.later hBW) (HT2.out.sh.later hBW) hs
 obtain ⟨p0, p1, _, _⟩ := R0.two
 obtain ⟨o0, o1, _, _⟩ := R1.two
 clear T1 T2 hc
 by_cases hsh : s1 = s2
 · rw [decide_eq_true hsh] at q1
   have HSH := Lib.hid hsh
   clear hsh
   by_cases hlen : L1.length = L2.length
   · have hne : ((L1.length : Int) != (L2.length : Int)) = false := by simp; omega
     have HLN := Lib.hid hlen
     clear hlen
     go_enter Tryz.func33, Tryz.ntmps33
     go_wp2_with (go_at_call 81; refine q1.mono ?_; rintro e w1 ⟨rfl, hb1⟩; have R0' := R0.later hb1; have R1' := R1.later hb1; obtain ⟨c00, c01, _, _⟩ := R0'.two; obtain ⟨c10, c11, _, _⟩ := R1'.two)
     have hBW1 : Below w.heap.size w w1 := hBW.trans (hb1.mono hBW.size)
     clear hne q1 hW c00 c01 c10 c11
     go_loopw [5] (fun i wr => ∃ k : Nat, i = .int .i64 (k : Int) ∧ k ≤ L1.length ∧ (∀ i x y, i < k → L1[i]? = some x → L2[i]? = some y → validB y.neg y.num y.den x = true) ∧ Below w1.heap.size w1 wr) (fun i _ => L1.length - (intOf i).toNat)
     case atStart => exact ⟨0, rfl, Nat.zero_le _, fun i x y h => by omega, Below.refl _ _⟩
     case round =>
      obtain ⟨k, rfl, hk, hall, hb⟩ := hrel
      have r0 := R0'.later hb
      have r1 := R1'.later hb
      obtain ⟨c00, c01, _, _⟩ := r0.two
      obtain ⟨c10, c11, _, _⟩ := r1.two
      have HALL := Lib.hid hall
      clear hall
      by_cases hlt : k < L1.length
      · have hlt2 : k < L2.length := by have := HLN.out; omega
        have hbw := hBW1.trans (hb.mono hBW1.size)
        obtain ⟨bb, o, x0, x1, x2, q, hbo, hqk, e0, e1, e2, hraw⟩ := (HT1.out.el.later hbw (fun v x _ k => k.later hbw)).at hlt
        obtain ⟨bd, od, y0, y1, y2, t, hbd, htk, d0, d1, d2, hrat⟩ := (HT2.out.el.later hbw (fun v x _ k => k.later hbw)).at hlt2
        have hm1 := List.mem_of_getElem? hqk
        have hm2 := List.mem_of_getElem? htk
        subst hbo
        subst hbd
        have hcall := fun X (hX : Below wr.heap.size wr X) => isRaw_any (ArgR.later hraw hX) (hrat.later hX) hn (hl t hm2).1 (hl t hm2).2
        have hltI : (k : Int) < (L1.length : Int) := by omega
        have hltI2 : (k : Int) < (L2.length : Int) := by omega
        have HQK := Lib.hid hqk
        have HTK := Lib.hid htk
        have mkS : ∀ X, Below wr.heap.size wr X → X.cell? ⟨w.heap.size, 1, none⟩ = some (.slice (some ⟨bb, o, none⟩) L1.length cb1) ∧ X.cell? ⟨w.heap.size + 1, 1, none⟩ = some (.slice (some ⟨bd, od, none⟩) L2.length cb2) ∧ X.cell? ⟨bb, o + k * 3, none⟩ = some x0 ∧ X.cell? ⟨bb, o + k * 3 + 1, none⟩ = some x1 ∧ X.cell? ⟨bb, o + k * 3 + 2, none⟩ = some x2 ∧
         X.cell? ⟨bd, od + k * 3, none⟩ = some y0 ∧ X.cell? ⟨bd, od + k * 3 + 1, none⟩ = some y1 ∧ X.cell? ⟨bd, od + k * 3 + 2, none⟩ = some y2 ∧ Below wr.heap.size wr X := fun X h =>
         ⟨(r0.later h).cell 1, (r1.later h).cell 1, (h.cell (World.block_lt_of_cell? wr _ e0)).trans e0, (h.cell (World.block_lt_of_cell? wr _ e1)).trans e1, (h.cell (World.block_lt_of_cell? wr _ e2)).trans e2, (h.cell (World.block_lt_of_cell? wr _ d0)).trans d0, (h.cell (World.block_lt_of_cell? wr _ d1)).trans d1, (h.cell (World.block_lt_of_cell? wr _ d2)).trans d2, h⟩
        clear hqk htk hraw hrat
        obtain ⟨bo, hbo⟩ : ∃ bo, validB t.neg t.num t.den q = bo := ⟨_, rfl⟩
        rw [hbo] at hcall
        have HBO := Lib.hid hbo
        clear hbo
        cases bo with
        | true =>
          go_wp2_with fail
          go_region_held3 (fun X => X.cell? ⟨w.heap.size, 1, none⟩ = some (.slice (some ⟨bb, o, none⟩) L1.length cb1) ∧ X.cell? ⟨w.heap.size + 1, 1, none⟩ = some (.slice (some ⟨bd, od, none⟩) L2.length cb2) ∧ X.cell? ⟨bb, o + k * 3, none⟩ = some x0 ∧ X.cell? ⟨bb, o + k * 3 + 1, none⟩ = some x1 ∧ X.cell? ⟨bb, o + k * 3 + 2, none⟩ = some x2 ∧
           X.cell? ⟨bd, od + k * 3, none⟩ = some y0 ∧ X.cell? ⟨bd, od + k * 3 + 1, none⟩ = some y1 ∧ X.cell? ⟨bd, od + k * 3 + 2, none⟩ = some y2 ∧ Below wr.heap.size wr X)
           (((refine mkS _ ?_; (repeat' (first | exact Below.refl _ _ | refine Below.drew ?_ | assumption)))))
           ((go_at_call 82; (with_reducible refine (hcall _ (show Below wr.heap.size wr _ by (repeat' (first | exact Below.refl _ _ | refine Below.drew ?_)))).mono ?_); rintro e w2 ⟨rfl, hb2⟩; have hb2 : Below wr.heap.size wr w2 := ((Below.refl _ _).drew).trans hb2))
          go_wp2
          go_roundw
          case rel =>
           refine ⟨k + 1, by go_num, by omega, fun i x y hi h1 h2 => ?_, hb.trans (hb2.mono hb.size)⟩
           by_cases hik : i = k
           · subst hik
             rw [HQK.out] at h1
             rw [HTK.out] at h2
             cases h1
             cases h2
             exact HBO.out
           · exact HALL.out i x y (by omega) h1 h2
          case measure => simp [intOf]; omega
        | false =>
          obtain rfl : c = false := by rw [← HC.out]; exact allBC_no fun ⟨_, _, h⟩ => by have := h k q t HQK.out HTK.out; rw [show validB t.neg t.num t.den q = false from HBO.out] at this; cases this
          go_wp2_with fail
          go_region_held3 (fun X => X.cell? ⟨w.heap.size, 1, none⟩ = some (.slice (some ⟨bb, o, none⟩) L1.length cb1) ∧ X.cell? ⟨w.heap.size + 1, 1, none⟩ = some (.slice (some ⟨bd, od, none⟩) L2.length cb2) ∧ X.cell? ⟨bb, o + k * 3, none⟩ = some x0 ∧ X.cell? ⟨bb, o + k * 3 + 1, none⟩ = some x1 ∧ X.cell? ⟨bb, o + k * 3 + 2, none⟩ = some x2 ∧
           X.cell? ⟨bd, od + k * 3, none⟩ = some y0 ∧ X.cell? ⟨bd, od + k * 3 + 1, none⟩ = some y1 ∧ X.cell? ⟨bd, od + k * 3 + 2, none⟩ = some y2 ∧ Below wr.heap.size wr X)
           (((refine mkS _ ?_; (repeat' (first | exact Below.refl _ _ | refine Below.drew ?_ | assumption)))))
           ((go_at_call 82; (with_reducible refine (hcall _ (show Below wr.heap.size wr _ by (repeat' (first | exact Below.refl _ _ | refine Below.drew ?_)))).mono ?_); rintro e w2 ⟨rfl, hb2⟩; have hb2 : Below wr.heap.size wr w2 := ((Below.refl _ _).drew).trans hb2))
          go_wp2
          go_ret
          exact ⟨rfl, hBW1.trans ((hb.trans (hb2.mono hb.size)).mono hBW1.size)⟩
      · obtain rfl : k = L1.length := by omega
        have hltI : ¬ (L1.length : Int) < (L1.length : Int) := by omega
        obtain rfl : c = true := by rw [← HC.out]; exact allBC_yes HSH.out HLN.out fun i x y h1 h2 => HALL.out i x y (by
         rcases Nat.lt_or_ge i L1.length with g | g
         · exact g
         · rw [List.getElem?_eq_none g] at h1; cases h1) h1 h2
        go_wp2
        go_ret
        exact ⟨rfl, hBW1.trans (hb.mono hBW1.size)⟩
   · have hne : ((L1.length : Int) != (L2.length : Int)) = true := by simp; omega
     obtain rfl : c = false := by rw [← HC.out]; exact allBC_no fun h => hlen h.2.1
     clear hlen
     go_enter Tryz.func33, Tryz.ntmps33
     go_wp2_with (go_at_call 81; refine q1.mono ?_; rintro e w1 ⟨rfl, hb1⟩; have R0' := R0.later hb1; have R1' := R1.later hb1; obtain ⟨c00, c01, _, _⟩ := R0'.two; obtain ⟨c10, c11, _, _⟩ := R1'.two)
     go_ret
     exact ⟨rfl, hBW.trans (hb1.mono hBW.size)⟩
 · rw [decide_eq_false hsh] at q1
   obtain rfl : c = false := by rw [← HC.out]; exact allBC_no fun h => hsh h.1
   clear hsh
   go_enter Tryz.func33, Tryz.ntmps33
   go_wp2_with (go_at_call 81; refine q1.mono ?_; rintro e w1 ⟨rfl, hb1⟩; have R0' := R0.later hb1; have R1' := R1.later hb1; obtain ⟨c00, c01, _, _⟩ := R0'.two; obtain ⟨c10, c11, _, _⟩ := R1'.two)
   go_ret
   exact ⟨rfl, hBW.trans (hb1.mono hBW.size)⟩
end
section
open Go.RowKit
theorem each_any {N F : Nat} {cap : Array Value} {f : Rat → Rat} {w : World} {v : Value} {s : List Int} {qs : List Q3} {a b : Option Addr} {ca cb : Nat} (T : TensQ w v s qs a ca b cb) (hs : s.length ≤ 17592186044416) (hq : qs.length ≤ 1000000)
 (heF : ∀ args w, (callFunc F args).run Tryz.prog w = .ok (.enter F args) w)
 (hdo : ∀ (W : World) (x : Value) (q : Q3), q ∈ qs → Below w.heap.size w W → RawQ W x q → Calls Tryz.prog F (#[x] ++ cap) W fun e w' => ∃ r, e = .returned r ∧ ResQ W.heap.size w' r (f q.rat) N ∧ Below W.heap.size W w') :
 Calls Tryz.prog 139 #[v, .func (.func F) #[] cap] w fun e w' => ∃ r, e = .returned r ∧ ResT w.heap.size w' r s (qs.map fun q => f q.rat) N ∧ Below w.heap.size w w' := by
 obtain ⟨i0, hi, hz0, hz1, hz2⟩ := info_parts infoQ
 have HT := Lib.hid T
 have HDO := Lib.hid hdo
 obtain rfl := T.is
 obtain ⟨W, hW⟩ : ∃ W, ((w.alloc (.cells #[.slice a s.length ca, .slice b qs.length cb] 26)).alloc (.cells #[.slice none 0 0, .slice none 0 0] 26)) = W := ⟨_, rfl⟩
 have R0 : Row W w.heap.size 26 #[.slice a s.length ca, .slice b qs.length cb] := by rw [← hW]; exact (Row.new _ _ _).alloc _
 have R1 : Row W (w.heap.size + 1) 26 #[.slice none 0 0, .slice none 0 0] := by rw [← hW]; have h := (Row.new (w.alloc (.cells #[.slice a s.length ca, .slice b qs.length cb] 26)) 26 #[.slice none 0 0, .slice none 0 0]); simp only [World.size_alloc] at h; exact h
 have hBW : Below w.heap.size w W := by rw [← hW]; exact ((Below.refl _ _).alloc (by simp) _).alloc (by simp) _
 have hsW : W.heap.size = w.heap.size + 1 + 1 := by rw [← hW]; simp
 have HSW := Lib.hid hsW
 have hmk := make_rowP qs.length (by omega)
 obtain ⟨p0, p1, _, _⟩ := R0.two
 obtain ⟨k0, k1, _, _⟩ := (R0.alloc (.cells (madeCells #[.bool false, .slice none 0 0, .slice none 0 0] (qs.length * 3)) 54)).two
 clear T hdo hsW
 go_enter Tryz.func139, Tryz.ntmps139
 (try rw [hW])
 go_wp2_with fail
 obtain ⟨V, hV⟩ : ∃ V, W.alloc (.cells (madeCells #[.bool false, .slice none 0 0, .slice none 0 0] (qs.length * 3)) 54) = V := ⟨_, rfl⟩
 have r0 : Row V w.heap.size 26 #[.slice a s.length ca, .slice b qs.length cb] := by rw [← hV]; exact R0.alloc _
 have r1 : Row V (w.heap.size + 1) 26 #[.slice none 0 0, .slice none 0 0] := by rw [← hV]; exact R1.alloc _
 have r2 : OwnE w.heap.size 54 V (.slice (some ⟨w.heap.size + 1 + 1, 0, none⟩) 0 qs.length) [] := by
  rw [← hV, ← HSW.out]
  exact (show OwnE W.heap.size 54 _ (.slice (some ⟨W.heap.size, 0, none⟩) 0 qs.length) [] from World.ownsRow_made W _ qs.length (Nat.le_refl _) (by unfold maxLen; omega) (madeP_len _ _)).mono (by rw [HSW.out]; omega)
 have hBV : Below w.heap.size w V := by rw [← hV]; exact hBW.alloc (by rw [HSW.out]; omega) _
 (try rw [HSW.out])
 (try rw [hV])
 have H0 := Lib.hid r0
 have H1 := Lib.hid r1
 have H2 := Lib.hid r2
 have HB := Lib.hid hBV
 clear r0 r1 r2 hBV hmk R0 R1 hBW p0 p1 hV hW
 clear k0 k1
 go_loopw [5, 7, 15] (fun v _ i wr => ∃ (k : Nat), i = .int .i64 (k : Int) ∧ k ≤ qs.length ∧ Row wr w.heap.size 26 #[.slice a s.length ca, .slice b qs.length cb] ∧ Row wr (w.heap.size + 1) 26 #[.slice none 0 0, .slice none 0 0] ∧
  RowO w.heap.size 54 (fun W v x => ResQ w.heap.size W v x N) wr v ((qs.take k).map fun q => f q.rat) ∧ Below w.heap.size w wr) (fun _ _ i _ => qs.length - (intOf i).toNat)
 case atStart => exact ⟨0, rfl, Nat.zero_le _, H0.out, H1.out, ⟨[], H2.out, AllE.nil _⟩, HB.out⟩
 case round =>
  obtain ⟨k, rfl, hk, r0, r1, ⟨es, hown, hall⟩, hb⟩ := hrel
  have hsz := hb.size
  obtain ⟨av, cv, rfl⟩ := ownT_slice hown
  have hle : es.length = k := by rw [hall.1]; simp [hk]
  subst hle
  by_cases hlt : es.length < qs.length
  · obtain ⟨bb, o, x0, x1, x2, q, hbo, hqk, e0, e1, e2, hraw⟩ := (HT.out.el.later hb (fun v x _ k => k.later hb)).at hlt
    have hmem := List.mem_of_getElem? hqk
    subst hbo
    obtain ⟨u1, u2, j1, j2, hraw', _⟩ := id hraw
    simp only [Value.agg.injEq, Array.mk.injEq, List.cons.injEq, and_true] at hraw'
    obtain ⟨rfl, rfl, rfl⟩ := hraw'
    have hltI : (es.length : Int) < (qs.length : Int) := by omega
    obtain ⟨V1, hV1⟩ : ∃ V1, wr.alloc (.cells #[.bool q.neg, .slice u1 q.num.length j1, .slice u2 q.den.length j2] 54) = V1 := ⟨_, rfl⟩
    have P1 : Row V1 wr.heap.size 54 #[.bool q.neg, .slice u1 q.num.length j1, .slice u2 q.den.length j2] := by rw [← hV1]; exact Row.new _ _ _
    have b1 : Below wr.heap.size wr V1 := by rw [← hV1]; exact (Below.refl _ _).alloc (Nat.le_refl _) _
    obtain ⟨d0, d1, d2, _, _, _⟩ := P1.three
    have hraw1 := hraw.later b1
    have hB1 : Below w.heap.size w V1 := hb.trans (b1.mono hsz)
    have hcall := HDO.out V1 _ q hmem hB1 hraw1
    have HRAW := Lib.hid hraw
    have HRAW1 := Lib.hid hraw1
    clear hraw hraw1
    go_wp2_with fail
    (try rw [hV1])
    refine hcall.mono ?_
    rintro e w5 ⟨rv, rfl, qv, hb5⟩
    have Q5 := Lib.hid qv
    obtain ⟨m5, f1, l1, i1, f2, l2, i2, rfl⟩ := qv.shape
    clear qv
    have hb5w : Below wr.heap.size wr w5 := b1.trans (hb5.mono b1.size)
    have hown5 : OwnE w.heap.size 54 w5 (.slice av es.length cv) es := hown.later hb5w
    have hall5 : AllE (fun v x => ResQ w.heap.size w5 v x N) es ((qs.take es.length).map fun q => f q.rat) := hall.imp fun u x _ h => h.later hb5w
    have hB5 : Below w.heap.size w w5 := hb.trans (hb5w.mono hsz)
    have hsz5 := hB5.size
    obtain ⟨r, hrv, hrb, hrne⟩ := hown.hits hsz
    have n0 := hrne _ _ _ r0 (by decide)
    have n1 := hrne _ _ _ r1 (by decide)
    have hk5 : Kept r wr w5 := (Kept.refl r wr).below hb5w
    have hx5 : ResQ w.heap.size w5 (E3.agg ⟨.bool m5, .slice f1 l1 i1, .slice f2 l2 i2⟩) (f q.rat) N := Q5.out.mono hB1.size
    have HALL := Lib.hid hall5
    clear hall hall5 hown
    go_wp2_with (at_builtin; refine wpList_append_own _ rfl _ _ 24 rfl w.heap.size 54 i0 _ 3 56 Tryz.underlying24 hi hz0 hz1 hz2 rfl (by decide) _ es.length (flat3 es) rfl (hown5.later ((Below.refl _ _).alloc (Nat.le_refl _) _)) ⟨w5.heap.size, 0, none⟩ 1 1 [.bool m5, .slice f1 l1 i1, .slice f2 l2 i2] rfl rfl (cell_three_new _ _ _ _ _) (by simp [Value.oneCell']) (by unfold maxLen; omega) (by omega) (by simp; omega) ?_)
    intro v' w6 hown' hgrow _
    obtain ⟨av', cv', rfl⟩ := ownT_slice hown'
    have hk6 : Kept r wr w6 := (hk5.alloc _).grown hgrow hrv
    go_wp2
    go_roundw
    case rel =>
     obtain ⟨hrow6, hb6⟩ := pushE (P := fun W v x => ResQ w.heap.size W v x N) (e := ⟨.bool m5, .slice f1 l1 i1, .slice f2 l2 i2⟩) hB5 hsz5 hown5 HALL.out hx5 (fun u y h => ResQ.apart hown5 hgrow (by decide) h) hown' hgrow
     refine ⟨es.length + 1, by go_num, by omega, r0.kept hk6 n0, r1.kept hk6 n1, ?_, hb6⟩
     rw [take_nextL hqk, List.map_append]
     exact hrow6
    case measure => simp [intOf]; omega
  · have hkl : es.length = qs.length := by omega
    have hltI : ¬ (es.length : Int) < (qs.length : Int) := by omega
    have hT := HT.out.later hb
    have hown' : OwnE w.heap.size 54 wr (.slice av es.length cv) es := hown
    have hrow : RowO w.heap.size 54 (fun W v x => ResQ w.heap.size W v x N) wr (.slice av es.length cv) (qs.map fun q => f q.rat) := ⟨es, hown, by rw [hkl, List.take_length] at hall; exact hall⟩
    have HROW := Lib.hid hrow
    have HKL := Lib.hid hkl
    obtain ⟨d0, d1, _, _⟩ := r0.two
    have hsh := shaped_any (b := av) (n := es.length) (cb := cv) hT.sh HT.out.nila hs
    have HR1 := Lib.hid r1
    clear hown hall hkl hrow hlt hown' r1
    go_wp2_with fail
    refine hsh.mono ?_
    rintro e w7 ⟨a', ca', rfl, R7, hb7⟩
    have P7 := HR1.out.later hb7
    have hs7 := hb7.size
    obtain ⟨u0, u1, g0, g1⟩ := P7.two
    go_wp2_with fail
    have P8 := P7.set2 (.slice a' s.length ca') (.slice av es.length cv)
    obtain ⟨z0, z1, _, _⟩ := P8.two
    refine bodyPost_ret (v := .agg #[.slice a' s.length ca', .slice av es.length cv]) (by simp [results, Tryz.results139, go_sem, z0, z1]) rfl ⟨_, rfl, ⟨a', av, ca', cv, by rw [List.length_map, HKL.out], (R7.mono hsz).far P7 (by decide) (kept2 _ _), ?_⟩, below_set2 (hb.trans (hb7.mono hsz)) (by omega) _ _⟩
    rw [List.length_map, ← HKL.out]
    exact RowO.far (HROW.out.later hb7 (fun v x h => h.later hb7)) P7 (by decide) (kept2 _ _) (fun u y h => h.far P7 (by decide) (kept2 _ _))
end
section
open Go.RowKit Go.Shelf
attribute [local go_sem] Oper.semAt_some
theorem ResT.keepC {base m : Nat} {w w' : World} {v : Value} {s : List Int} {L : List Rat} (h : ResT base w v s L m) (k : KeepC w w') : ResT base w' v s L m := by
 obtain ⟨a, b, ca, cb, e, RS, es, hown, hall⟩ := h
 exact ⟨a, b, ca, cb, e, RS.keepC k, es, hown.keepC k, hall.imp fun v x _ h => h.keepC k⟩
end
section
open Go.RowKit
def axC (l : List Int) (rank : Int) : Int := if ∃ i, i < l.length ∧ l.getD i 0 ≤ lastS l i then 11 else if rank ≤ lastS l l.length then 13 else 0
theorem axC_bad {l : List Int} {rank : Int} {i : Nat} (hi : i < l.length) (h : l.getD i 0 ≤ lastS l i) : axC l rank = 11 := if_pos ⟨i, hi, h⟩
theorem axC_good {l : List Int} {rank : Int} (h : ∀ i, i < l.length → ¬ l.getD i 0 ≤ lastS l i) : axC l rank = if rank ≤ lastS l l.length then 13 else 0 := if_neg fun ⟨i, hi, h2⟩ => h i hi h2
theorem mayAxes_any {l : List Int} {a : Option Addr} {ca : Nat} {w : World} (rank : Int) (A : ArgS w (.slice a l.length ca) l a ca) (hx : l.length ≤ 17592186044416) (h0 : -9223372036854775808 ≤ rank) (h1 : rank ≤ 9223372036854775807) :
 Calls Tryz.prog 42 #[.slice a l.length ca, .int .i64 rank] w fun e w' => e = .returned (.int .i64 (axC l rank)) ∧ w = w' := by
 have HA := Lib.hid A
 obtain ⟨c, hc⟩ : ∃ c, axC l rank = c := ⟨_, rfl⟩
 obtain ⟨L, hL⟩ : ∃ L, l.length = L := ⟨_, rfl⟩
 rw [hL] at hx
 rw [hc, hL]
 have HC := Lib.hid hc
 have HL := Lib.hid hL
 clear A hc hL
 go_enter Tryz.func42, Tryz.ntmps42
 go_wp2
 go_loop [5, 7, 10] (fun p _ i => ∃ (k : Nat), i = .int .i64 (k : Int) ∧ p = .int .i64 (lastS l k) ∧ k ≤ L ∧ ∀ i, i < k → ¬ l.getD i 0 ≤ lastS l i) (fun _ _ i => L - (intOf i).toNat)
 case atStart => exact ⟨0, rfl, rfl, Nat.zero_le _, fun i hi => by omega⟩
 case round =>
  obtain ⟨k, rfl, rfl, hk, hax⟩ := hrel
  have HX := Lib.hid hax
  obtain ⟨p, hp⟩ : ∃ p, lastS l k = p := ⟨_, rfl⟩
  have HP := Lib.hid hp
  rw [hp]
  clear hax hp
  by_cases hlt : k < L
  · obtain ⟨b1, o1, rfl, c1⟩ := HA.out.at (i := k) (by rw [HL.out]; exact hlt)
    obtain ⟨x, hxe⟩ : ∃ x, l.getD k 0 = x := ⟨_, rfl⟩
    rw [hxe] at c1
    have HXE := Lib.hid hxe
    have hltI : (k : Int) < (L : Int) := by omega
    clear hxe
    by_cases hg : x ≤ p
    · obtain rfl : c = 11 := by rw [← HC.out]; exact axC_bad (i := k) (by rw [HL.out]; exact hlt) (by rw [HXE.out, HP.out]; exact hg)
      go_wp2
      go_ret
      exact ⟨rfl, rfl⟩
    · go_wp2
      go_round
      case rel => exact ⟨k + 1, by go_num, congrArg (Value.int .i64) HXE.out.symm, by omega, fun i hi => by
       by_cases e : i = k
       · subst e; rw [HXE.out, HP.out]; exact hg
       · exact HX.out i (by omega)⟩
      case measure => simp [intOf]; omega
  · obtain rfl : k = L := by omega
    have hcc : c = if rank ≤ p then 13 else 0 := by rw [← HC.out, axC_good (by rw [HL.out]; exact HX.out), HL.out, HP.out]
    have hltI : ¬ (k : Int) < (k : Int) := by omega
    by_cases hr : rank ≤ p
    · rw [if_pos hr] at hcc
      subst hcc
      have hrI : p ≥ rank := hr
      go_wp2
      go_ret
      exact ⟨rfl, rfl⟩
    · rw [if_neg hr] at hcc
      subst hcc
      have hrI : ¬ p ≥ rank := hr
      go_wp2
      go_ret
      exact ⟨rfl, rfl⟩
theorem CellsE.take {w : World} {b o : Nat} {es : List E3} (h : CellsE w b o es) (m : Nat) : CellsE w b o (es.take m) := fun i e he => h i e (by
 rw [List.getElem?_take] at he
 split at he
 · exact he
 · cases he)
theorem CellsE.drop {w : World} {b o : Nat} {es : List E3} (h : CellsE w b o es) (m : Nat) : CellsE w b (o + m * 3) (es.drop m) := fun i e he => by
 rw [List.getElem?_drop] at he
 have := h (m + i) e he
 rwa [show o + (m + i) * 3 = o + m * 3 + i * 3 by omega] at this
theorem AllE.take {α : Type} {P : Value → α → Prop} {es : List E3} {L : List α} (h : AllE P es L) (m : Nat) : AllE P (es.take m) (L.take m) := ⟨by rw [List.length_take, List.length_take, h.1], fun i e x h1 h2 => by
 rw [List.getElem?_take] at h1 h2
 split at h1
 · next hlt => rw [if_pos hlt] at h2; exact h.2 i e x h1 h2
 · cases h1⟩
theorem AllE.drop {α : Type} {P : Value → α → Prop} {es : List E3} {L : List α} (h : AllE P es L) (m : Nat) : AllE P (es.drop m) (L.drop m) := ⟨by rw [List.length_drop, List.length_drop, h.1], fun i e x h1 h2 => by
 rw [List.getElem?_drop] at h1 h2
 exact h.2 _ e x h1 h2⟩
theorem RowA.takeL {α : Type} {P : World → Value → α → Prop} {w : World} {u : Value} {L : List α} {ad : Option Addr} {cap : Nat} (h : RowA P w u L ad cap) (m : Nat) : RowA P w (.slice ad (L.take m).length cap) (L.take m) ad cap := by
 refine ⟨rfl, Nat.le_trans (by rw [List.length_take]; exact Nat.min_le_right _ _) h.le, ?_⟩
 rcases h.els with e | ⟨b, o, es, e, c, k⟩
 · exact .inl (by rw [e]; simp)
 · exact .inr ⟨b, o, es.take m, e, c.take m, k.take m⟩
theorem RowA.dropL {α : Type} {P : World → Value → α → Prop} {w : World} {u : Value} {L : List α} {b o cap : Nat} (h : RowA P w u L (some ⟨b, o, none⟩) cap) (m : Nat) (hm : m ≤ L.length) : RowA P w (.slice (some ⟨b, o + m * 3, none⟩) (L.drop m).length (cap - m)) (L.drop m) (some ⟨b, o + m * 3, none⟩) (cap - m) := by
 refine ⟨rfl, by rw [List.length_drop]; have := h.le; omega, ?_⟩
 rcases h.els with e | ⟨b', o', es, e, c, k⟩
 · exact .inl (by rw [e]; simp)
 · cases e
   exact .inr ⟨b, o + m * 3, es.drop m, rfl, c.drop m, k.drop m⟩
def TotQ (k base N : Nat) : Prop := ∀ {w : World} {L : List Rat} {ad : Option Addr} {cap : Nat}, RowA (fun W v x => ResQ base W v x N) w (.slice ad L.length cap) L ad cap → 1 ≤ L.length → L.length ≤ 2 ^ k → base ≤ w.heap.size →
 Calls Tryz.prog 87 #[.slice ad L.length cap] w fun e w' => ∃ r, e = .returned r ∧ ResQ base w' r (totL L) ((N + 10) * 2 ^ k - 10) ∧ Below w.heap.size w w'
theorem total_one {B base N : Nat} {w : World} {x : Rat} {ad : Option Addr} {cap : Nat} (E : RowA (fun W v x => ResQ base W v x N) w (.slice ad 1 cap) [x] ad cap) (hb : base ≤ w.heap.size) (hB : N ≤ B) :
 Calls Tryz.prog 87 #[.slice ad 1 cap] w fun e w' => ∃ r, e = .returned r ∧ ResQ base w' r x B ∧ Below w.heap.size w w' := by
 obtain ⟨bb, o, y0, y1, y2, q, hbo, hqk, f0, f1, f2, hq⟩ := E.at (i := 0) (by simp)
 simp only [List.getElem?_cons_zero, Option.some.injEq] at hqk
 subst hqk
 subst hbo
 have HQ := Lib.hid hq
 obtain ⟨m5, f1', l1, j1, f2', l2, j2, e0⟩ := hq.shape
 simp only [Value.agg.injEq, Array.mk.injEq, List.cons.injEq, and_true] at e0
 obtain ⟨rfl, rfl, rfl⟩ := e0
 obtain ⟨W, hW⟩ : ∃ W, w.alloc (.cells #[.bool false, .slice none 0 0, .slice none 0 0] 54) = W := ⟨_, rfl⟩
 have R0 : Row W w.heap.size 54 #[.bool false, .slice none 0 0, .slice none 0 0] := by rw [← hW]; exact Row.new _ _ _
 have hBW : Below w.heap.size w W := by rw [← hW]; exact (Below.refl _ _).alloc (Nat.le_refl _) _
 have g0 := (hBW.cell (World.block_lt_of_cell? _ _ f0)).trans f0
 have g1 := (hBW.cell (World.block_lt_of_cell? _ _ f1)).trans f1
 have g2 := (hBW.cell (World.block_lt_of_cell? _ _ f2)).trans f2
 obtain ⟨u0, u1, u2, k0, k1, k2⟩ := R0.three
 have HR := Lib.hid R0
 simp only [Nat.zero_mul, Nat.add_zero] at g0 g1 g2
 clear E hq f0 f1 f2 R0
 go_enter Tryz.func87, Tryz.ntmps87
 (try rw [hW])
 go_wp2_with fail
 have P3 := HR.out.set3 (.bool m5) (.slice f1' l1 j1) (.slice f2' l2 j2)
 obtain ⟨z0, z1, z2, _, _, _⟩ := P3.three
 refine bodyPost_ret (v := .agg #[.bool m5, .slice f1' l1 j1, .slice f2' l2 j2]) (by simp [results, Tryz.results87, go_sem, z0, z1, z2]) rfl ⟨_, rfl, ?_, below_set3 hBW (Nat.le_refl _) _ _ _⟩
 exact ((HQ.out.later hBW).far HR.out (by decide) (kept3 _ _ _)).more hB
theorem total_two {k base N : Nat} (ih : TotQ k base N) (hN : (N + 10) * 2 ^ k ≤ 16000000) {w : World} {L : List Rat} {ad : Option Addr} {cap : Nat} (E : RowA (fun W v x => ResQ base W v x N) w (.slice ad L.length cap) L ad cap) (h2 : 2 ≤ L.length) (hk : L.length ≤ 2 ^ (k + 1)) (hb : base ≤ w.heap.size) :
 Calls Tryz.prog 87 #[.slice ad L.length cap] w fun e w' => ∃ r, e = .returned r ∧ ResQ base w' r (totL L) ((N + 10) * 2 ^ (k + 1) - 10) ∧ Below w.heap.size w w' := by
 obtain ⟨P, hP⟩ : ∃ P, (N + 10) * 2 ^ k = P := ⟨_, rfl⟩
 have hP2 : (N + 10) * 2 ^ (k + 1) = 2 * P := by rw [Nat.pow_succ, ← Nat.mul_assoc, hP, Nat.mul_comm]
 have hPk : 2 ^ k ≤ P := by rw [← hP]; exact Nat.le_mul_of_pos_left _ (by omega)
 have hPN : N + 10 ≤ P := by rw [← hP]; exact Nat.le_mul_of_pos_right _ (Nat.pow_pos (by omega))
 rw [Nat.pow_succ] at hk
 obtain ⟨M, hM⟩ : ∃ M, L.length = M := ⟨_, rfl⟩
 obtain ⟨h, hh⟩ : ∃ h, M / 2 = h := ⟨_, rfl⟩
 have hcap := E.le
 obtain ⟨b, o, rfl⟩ : ∃ b o, ad = some ⟨b, o, none⟩ := by
  rcases E.els with e | ⟨b, o, es, e, _, _⟩
  · rw [e] at h2; simp at h2
  · exact ⟨b, o, e⟩
 have E1 := E.takeL h
 have E2 := E.dropL h (by omega)
 have l1 : (L.take h).length = h := by rw [List.length_take]; omega
 have l2 : (L.drop h).length = M - h := by rw [List.length_drop, hM]
 have hs : totL L = totL (L.take h) + totL (L.drop h) := by rw [← totL_append, List.take_append_drop]
 rw [hM] at h2 hk hcap
 obtain ⟨L1, hL1⟩ : ∃ L1, L.take h = L1 := ⟨_, rfl⟩
 obtain ⟨L2, hL2⟩ : ∃ L2, L.drop h = L2 := ⟨_, rfl⟩
 rw [hL1] at E1 l1 hs
 rw [hL2] at E2 l2 hs
 have c1 := fun (X : World) (hX : Below w.heap.size w X) => ih (E1.later hX (fun _ _ _ h => h.later hX)) (by rw [l1]; omega) (by rw [l1]; omega) (Nat.le_trans hb hX.size)
 have c2 := fun (X : World) (hX : Below w.heap.size w X) => ih (E2.later hX (fun _ _ _ h => h.later hX)) (by rw [l2]; omega) (by rw [l2]; omega) (Nat.le_trans hb hX.size)
 rw [l1, hP] at c1
 rw [l2, hP] at c2
 rw [hs, hP2, hM]
 have HC1 := Lib.hid c1
 have HC2 := Lib.hid c2
 obtain ⟨W, hW⟩ : ∃ W, w.alloc (.cells #[.bool false, .slice none 0 0, .slice none 0 0] 54) = W := ⟨_, rfl⟩
 have R0 : Row W w.heap.size 54 #[.bool false, .slice none 0 0, .slice none 0 0] := by rw [← hW]; exact Row.new _ _ _
 have hBW : Below w.heap.size w W := by rw [← hW]; exact (Below.refl _ _).alloc (Nat.le_refl _) _
 have hsW : W.heap.size = w.heap.size + 1 := by rw [← hW]; simp
 have et : Int.tdiv (M : Int) 2 = (h : Int) := by rw [Int.tdiv_eq_ediv_of_nonneg (by omega)]; omega
 have hne : ((M : Int) == 1) = false := by rw [beq_eq_false_iff_ne]; omega
 have b1 : (h : Int) ≤ (cap : Int) := by omega
 have b2 : (h : Int) ≤ (M : Int) := by omega
 have hPb : P ≤ 16000000 := by omega
 have hM32 : M ≤ 32000000 := by omega
 have HM := Lib.hid hM
 have mkS : ∀ X, Kept w.heap.size W X → Kept w.heap.size W X := fun X h => h
 clear E E1 E2 hM hs hP hP2 hL1 hL2 c1 c2 l1 l2 hN hk hPk
 go_enter Tryz.func87, Tryz.ntmps87
 (try rw [hW])
 go_wp2_with fail
 have b0 : (0 : Int) ≤ (h : Int) := by clear et; omega
 have bn : ¬ cap = h := by clear et; omega
 clear et hh hW
 have k0 : Kept w.heap.size W W.drew := (Kept.refl _ _).drew
 refine wp_region_L (S := fun X => Kept w.heap.size W X) (z := 9) (by kernel_rfl) k0 (fun hHeld => ?_)
 refine todo [0, 1, 2, 4, 5, 6] ?_
 iterate 6
  refine todoL (v := ?_) rfl (by kernel_rfl) (fun _ _ _ h => h) (by assumption) (Or.inl ⟨by rfl, ?_⟩) ?_
  rotate_left
  · intro w hSw; (try dsimp only at hSw); go_simp; (try with_reducible rfl)
  try simp only [Act.put, nA, nB, nC, nD, nE, nF]
 refine todone ?_
 refine wpAnyL_one (i := 3) (by kernel_rfl) rfl (fun K hK => ?sbt_3)
 go_simp
 refine (HC1.out _ (Kept.under k0 hBW (by omega) (Nat.le_refl _))).mono ?_
 rintro e w1 ⟨r1, rfl, q1, hb1⟩
 have k1 : Kept w.heap.size W w1 := k0.below hb1
 go_simp
 refine hK.out _ _ (fun _ => k0.below hb1) (fun hHeld2 => ?mbt_3)
 clear hK K hHeld
 have hHeld := hHeld2 (by decide)
 clear hHeld2
 try simp only [Act.put, nA, nB, nC, nD, nE, nF]
 refine wpAnyL_one (i := 7) (by kernel_rfl) rfl (fun K hK => ?sbt_7)
 go_simp
 refine (HC2.out _ (Kept.under k1 hBW (by omega) (Nat.le_refl _))).mono ?_
 rintro e w2 ⟨r2, rfl, q2, hb2⟩
 have k2 : Kept w.heap.size W w2 := k1.below hb2
 go_simp
 refine hK.out _ _ (fun _ => k1.below hb2) (fun hHeld2 => ?mbt_7)
 clear hK K hHeld
 have hHeld := hHeld2 (by decide)
 clear hHeld2
 try simp only [Act.put, nA, nB, nC, nD, nE, nF]
 refine wpAnyL_one (i := 8) (by kernel_rfl) rfl (fun K hK => ?sbt_8)
 go_simp
 refine (addQ_any (n := P - 10) (q1.later hb2).arg q2.arg (by omega)).mono ?_
 rintro e w3 ⟨r3, rfl, q3, hb3⟩
 have k3 : Kept w.heap.size W w3 := k2.below hb3
 have B3 : Below w.heap.size w w3 := Kept.under k3 hBW (by omega) (Nat.le_refl _)
 have Q3 := Lib.hid q3
 obtain ⟨m5, f1, l1, j1, f2, l2, j2, rfl⟩ := q3.shape
 clear q3
 go_simp
 refine hK.out _ _ (fun _ => k2.below hb3) (fun hHeld2 => ?mbt_8)
 clear hK K hHeld
 have hHeld := hHeld2 (by decide)
 clear hHeld2
 try simp only [Act.put, nA, nB, nC, nD, nE, nF]
 have d0 : Below W.heap.size W W.drew := (Below.refl _ W).drew
 have d1 : Below W.heap.size W w1 := d0.trans hb1
 have d2 : Below W.heap.size W w2 := d1.trans (hb2.mono d1.size)
 have d3 : Below W.heap.size W w3 := d2.trans (hb3.mono d2.size)
 have P3 := R0.later d3
 obtain ⟨u0, u1, u2, g0, g1, g2⟩ := P3.three
 refine wpAnyL_one (i := 9) (by kernel_rfl) rfl (fun K hK => ?sbt_9)
 go_simp
 refine hK.out _ _ (fun h => absurd rfl h) (fun _ => ?mbt_9)
 clear hK K
 try simp only [Act.put, nA, nB, nC, nD, nE, nF]
 refine wpAnyL_done (by kernel_rfl) ?_ _
 go_wp2_with fail
 have Z3 := P3.set3 (.bool m5) (.slice f1 l1 j1) (.slice f2 l2 j2)
 obtain ⟨z0, z1, z2, _, _, _⟩ := Z3.three
 refine bodyPost_ret (v := .agg #[.bool m5, .slice f1 l1 j1, .slice f2 l2 j2]) (by simp [results, Tryz.results87, go_sem, z0, z1, z2]) rfl ⟨_, rfl, ?_, below_set3 B3 (Nat.le_refl _) _ _ _⟩
 exact (((Q3.out.mono (Nat.le_trans hb (Nat.le_trans hBW.size d2.size))).far P3 (by decide) (kept3 _ _ _))).more (by omega)
theorem totalF_any (k : Nat) {base N : Nat} (hN : (N + 10) * 2 ^ k ≤ 16000000) : TotQ k base N := by
 induction k with
 | zero =>
   intro w L ad cap E h1 h2 hb
   match L, h1, h2 with
   | [x], _, _ =>
     rw [show totL [x] = x from totL_one x]
     exact total_one E hb (by omega)
   | x :: y :: l, _, h2 => simp at h2
 | succ k ih =>
   have h3 : (N + 10) * 2 ^ k ≤ 16000000 := by rw [Nat.pow_succ, ← Nat.mul_assoc] at hN; omega
   intro w L ad cap E h1 h2 hb
   by_cases e : L.length = 1
   · match L, e with
     | [x], _ =>
       rw [show totL [x] = x from totL_one x]
       have : N + 10 ≤ (N + 10) * 2 ^ (k + 1) := Nat.le_mul_of_pos_right _ (Nat.pow_pos (by omega))
       exact total_one E hb (by omega)
   · exact total_two (ih h3) h3 E (by omega) h2 hb
end
section
open Go.RowKit
theorem cnt_two10 (a b : Nat) : cntF [(a : Int), (b : Int)] = a * b := by
 unfold cntF
 have : prodS [(a : Int), (b : Int)] = ((a * b : Nat) : Int) := by
  simp only [prodS, Int.mul_one]
  exact (Int.natCast_mul a b).symm
 rw [this]
 rfl
end
section
open Go.RowKit
theorem orL_first10 : ∀ (ms : List Int) (k : Nat), k < ms.length → (∀ j, j < k → ms.getD j 0 = 0) → ms.getD k 0 ≠ 0 → orL ms = ms.getD k 0
 | [], k, h, _, _ => by simp at h
 | x :: r, 0, _, _, h => by
   simp only [List.getD_cons_zero] at h ⊢
   simp only [orL, if_neg h]
 | x :: r, k + 1, h, h0, h1 => by
   have hx : x = 0 := by have := h0 0 (by omega); simpa using this
   subst hx
   simp only [List.getD_cons_succ] at h1 ⊢
   simp only [orL, if_true]
   exact orL_first10 r k (by simpa using h) (fun j hj => by have := h0 (j + 1) (by omega); simpa using this) h1
theorem orL_zeros10 {ms : List Int} (h : ∀ j, j < ms.length → ms.getD j 0 = 0) : orL ms = 0 := orL_nil fun x hx => by
 obtain ⟨i, hi, rfl⟩ := List.mem_iff_getElem.1 hx
 have := h i hi
 rwa [List.getD_eq_getElem?_getD, List.getElem?_eq_getElem hi] at this
def Tens10 (w : World) (g : Nat) (ms : List Int) : Prop := ∀ i, i < ms.length → ∃ (a b : Option Addr) (n ca m cb : Nat), w.cell? ⟨g, i * 2, none⟩ = some (.slice a n ca) ∧ w.cell? ⟨g, i * 2 + 1, none⟩ = some (.slice b m cb) ∧
 ∀ X, Below w.heap.size w X → Calls Tryz.prog 15 #[.agg #[.slice a n ca, .slice b m cb]] X fun e w' => e = .returned (.int .i64 (ms.getD i 0)) ∧ Below X.heap.size X w'
theorem first10_any {w : World} {g cap : Nat} {ms : List Int} (H : Tens10 w g ms) (hm : ms.length ≤ 1000) :
 Calls Tryz.prog 21 #[.slice (some ⟨g, 0, none⟩) ms.length cap] w fun e w' => e = .returned (.int .i64 (orL ms)) ∧ Below w.heap.size w w' := by
 have HH := Lib.hid H
 obtain ⟨t, ht⟩ : ∃ t, orL ms = t := ⟨_, rfl⟩
 have HT := Lib.hid ht
 rw [ht]
 obtain ⟨N, hN⟩ : ∃ n, ms.length = n := ⟨_, rfl⟩
 have HN := Lib.hid hN
 rw [hN] at hm ⊢
 clear H ht hN
 have hBW : Below w.heap.size w w := Below.refl _ _
 have HB := Lib.hid hBW
 clear hBW
 go_enter Tryz.func21, Tryz.ntmps21
 go_wp2_with fail
 go_loopw [3] (fun i wr => ∃ k : Nat, i = .int .i64 (k : Int) ∧ k ≤ N ∧ (∀ j, j < k → ms.getD j 0 = 0) ∧ Below w.heap.size w wr) (fun i _ => N - (intOf i).toNat)
 case atStart => exact ⟨0, rfl, Nat.zero_le _, (fun j hj => by omega), HB.out⟩
 case round =>
  obtain ⟨k, rfl, hk, hall, hb⟩ := hrel
  have HA := Lib.hid hall
  clear hall
  by_cases hlt : k < N
  · have hltI : (k : Int) < (N : Int) := by omega
    have hk0 : (0 : Int) ≤ (k : Int) := by omega
    obtain ⟨a, b, n, ca, m, cb, c0, c1, hmay⟩ := HH.out k (by rw [HN.out]; exact hlt)
    have d0 := (hb.cell (World.block_lt_of_cell? _ _ c0)).trans c0
    have d1 := (hb.cell (World.block_lt_of_cell? _ _ c1)).trans c1
    have hcall := hmay wr hb
    obtain ⟨x, hx⟩ : ∃ x, ms.getD k 0 = x := ⟨_, rfl⟩
    rw [hx] at hcall
    have HX := Lib.hid hx
    clear c0 c1 hmay hx
    go_wp2_with fail
    refine hcall.mono ?_
    rintro e y ⟨rfl, hy⟩
    have hb2 := hb.trans (hy.mono hb.size)
    clear d0 d1 hcall hy
    by_cases h0 : x = 0
    · subst h0
      go_wp2
      go_roundw
      case rel =>
       refine ⟨k + 1, by go_num, by omega, fun j hj => ?_, hb2⟩
       by_cases h : j = k
       · rw [h]; exact HX.out
       · exact HA.out j (by omega)
      case measure => simp [intOf]; omega
    · have hne : (x != 0) = true := by simp [h0]
      obtain rfl : t = x := by rw [← HT.out, ← HX.out]; exact orL_first10 ms k (by rw [HN.out]; exact hlt) HA.out (by rw [HX.out]; exact h0)
      go_wp2
      go_ret
      exact ⟨rfl, hb2⟩
  · obtain rfl : k = N := by omega
    have hltI : ¬ (k : Int) < (k : Int) := by omega
    obtain rfl : t = 0 := by rw [← HT.out]; exact orL_zeros10 fun j hj => HA.out j (by rw [HN.out] at hj; exact hj)
    go_wp2
    go_ret
    exact ⟨rfl, hb⟩
end
section
open Go.RowKit
theorem flat3_set10 : ∀ (es : List E3) (i : Nat) (e : E3), (((flat3 es).set (i * 3) e.a).set (i * 3 + 1) e.b).set (i * 3 + 2) e.c = flat3 (es.set i e)
 | [], i, e => by simp [flat3]
 | x :: es, 0, e => by simp [flat3]
 | x :: es, i + 1, e => by
   have h := flat3_set10 es i e
   have e1 : (i + 1) * 3 = i * 3 + 3 := by omega
   rw [e1]
   simp only [flat3, List.set_cons_succ]
   rw [← h]
theorem flat3_length10 : ∀ (es : List E3), (flat3 es).length = es.length * 3
 | [] => rfl
 | x :: es => by
   have h := flat3_length10 es
   simp only [flat3, List.length_cons, h]
   omega
def put3 (w : World) (g o : Nat) (a b c : Value) : World := ((w.setCell ⟨g, o, none⟩ a).setCell ⟨g, o + 1, none⟩ b).setCell ⟨g, o + 2, none⟩ c
theorem put3_kept {w : World} {g o : Nat} {a b c : Value} : ∀ k, k ≠ g → (put3 w g o a b c).heap[k]? = w.heap[k]? := fun k hk => by
 unfold put3
 rw [Below.heap_setCell _ _ _ _ hk, Below.heap_setCell _ _ _ _ hk, Below.heap_setCell _ _ _ _ hk]
theorem OwnE.slice10 {base : Nat} {T : TypeId} {w : World} {v : Value} {es : List E3} (h : OwnE base T w v es) (hn : 0 < es.length) : ∃ g cap cur, v = .slice (some ⟨g, 0, none⟩) es.length cap ∧ base ≤ g ∧ Row w g T cur ∧ es.length * 3 ≤ cur.size ∧ ∀ i e, es[i]? = some e → w.cell? ⟨g, i * 3, none⟩ = some e.a ∧ w.cell? ⟨g, i * 3 + 1, none⟩ = some e.b ∧ w.cell? ⟨g, i * 3 + 2, none⟩ = some e.c := by
 obtain ⟨h1, h2⟩ := id h
 rcases h2 with ⟨_, h0⟩ | ⟨g, cap, cur, rfl, hb, hg, hc, hm, hs, ht⟩
 · omega
 · refine ⟨g, cap, cur, rfl, hb, hg, by rw [hs]; exact Nat.mul_le_mul_right 3 hc, fun i e he => ?_⟩
   have hi : i < es.length := (List.getElem?_eq_some_iff.1 he).1
   have hat := fun k (hk : k < es.length * 3) => World.ownsRow.cellAt (w := w) (base := base) (e := T) (size := 3) (g := g) (n := es.length) (cap := cap) (xs := flat3 es) h k (by first | exact hk | (rw [h1]; exact hk) | omega)
   have hfl : ∀ (es : List E3) (i : Nat) (e : E3), es[i]? = some e → (flat3 es)[i * 3]? = some e.a ∧ (flat3 es)[i * 3 + 1]? = some e.b ∧ (flat3 es)[i * 3 + 2]? = some e.c := by
    intro es
    induction es with
    | nil => intro i e h; simp at h
    | cons x es ih =>
      intro i e h
      cases i with
      | zero => simp only [List.getElem?_cons_zero, Option.some.injEq] at h; subst h; simp [flat3]
      | succ i =>
        have e1 : (i + 1) * 3 = i * 3 + 3 := by omega
        rw [e1]
        simp only [List.getElem?_cons_succ] at h
        simpa only [flat3, List.getElem?_cons_succ] using ih i e h
   obtain ⟨k0, k1, k2⟩ := hfl es i e he
   exact ⟨(hat _ (by omega)).trans k0, (hat _ (by omega)).trans k1, (hat _ (by omega)).trans k2⟩
theorem OwnE.put10 {base g cap i n : Nat} {T : TypeId} {w : World} {es : List E3} {e : E3} (h : OwnE base T w (.slice (some ⟨g, 0, none⟩) n cap) es) : OwnE base T (put3 w g (i * 3) e.a e.b e.c) (.slice (some ⟨g, 0, none⟩) n cap) (es.set i e) := by
 obtain ⟨h1, h2⟩ := id h
 refine ⟨by rw [flat3_length10, List.length_set], ?_⟩
 rcases h2 with ⟨e0, _⟩ | ⟨g', cap', cur, hv, hb, hg, hc, hm, hs, ht⟩
 · cases e0
 · cases hv
   have R : Row w g T cur := hg
   have R3 := ((R.set (i * 3) e.a).set (i * 3 + 1) e.b).set (i * 3 + 2) e.c
   refine .inr ⟨g, cap, _, by rw [List.length_set], hb, R3, by rw [List.length_set]; exact hc, hm, by simp [hs], ?_⟩
   rw [Array.toList_setIfInBounds, Array.toList_setIfInBounds, Array.toList_setIfInBounds, List.take_set, List.take_set, List.take_set, List.length_set, ht]
   exact flat3_set10 es i e
theorem RowO.put10 {α : Type} {base g n cap i : Nat} {T : TypeId} {P : World → Value → α → Prop} {w : World} {L : List α} {a b c : Value} {x : α} (h : RowO base T P w (.slice (some ⟨g, 0, none⟩) n cap) L)
 (hst : ∀ u y, P w u y → P (put3 w g (i * 3) a b c) u y) (hx : P (put3 w g (i * 3) a b c) (.agg #[a, b, c]) x) : RowO base T P (put3 w g (i * 3) a b c) (.slice (some ⟨g, 0, none⟩) n cap) (L.set i x) := by
 obtain ⟨es, h1, h2⟩ := h
 refine ⟨es.set i ⟨a, b, c⟩, h1.put10 (e := ⟨a, b, c⟩), by rw [List.length_set, List.length_set]; exact h2.1, fun j e y hj hy => ?_⟩
 by_cases hij : i = j
 · subst hij
   rw [List.getElem?_set] at hj hy
   simp only [if_true] at hj hy
   split at hj
   · split at hy
     · cases hj
       cases hy
       exact hx
     · cases hy
   · cases hj
 · rw [List.getElem?_set_ne hij] at hj hy
   exact hst _ _ (h2.2 j e y hj hy)
def gemU (M P : List Rat) (i : Nat) : List Rat := P.take i ++ M.drop i
theorem gemU_zero (M P : List Rat) : gemU M P 0 = M := by simp [gemU]
theorem gemU_all {M P : List Rat} (h : M.length = P.length) : gemU M P P.length = P := by unfold gemU; rw [List.take_length, List.drop_of_length_le (by omega), List.append_nil]
theorem gemU_len {M P : List Rat} {i : Nat} (h : M.length = P.length) (hi : i ≤ P.length) : (gemU M P i).length = P.length := by
 unfold gemU
 rw [List.length_append, List.length_take, List.length_drop]
 omega
theorem gemU_at {M P : List Rat} {i : Nat} (h : M.length = P.length) (hi : i < P.length) : (gemU M P i)[i]? = some (M.getD i 0) := by
 unfold gemU
 have e : (P.take i).length = i := by rw [List.length_take]; omega
 rw [List.getElem?_append_right (by omega), e, Nat.sub_self, List.getElem?_drop, Nat.add_zero, List.getD_eq_getElem?_getD, List.getElem?_eq_getElem (by omega)]
 rfl
theorem gemU_set {M P : List Rat} {i : Nat} (h : M.length = P.length) (hi : i < P.length) : (gemU M P i).set i (P.getD i 0) = gemU M P (i + 1) := by
 unfold gemU
 have e : (P.take i).length = i := by rw [List.length_take]; omega
 have hM : i < M.length := by omega
 rw [List.set_append_right _ _ (by omega), e, Nat.sub_self, List.drop_eq_getElem_cons hM, List.set_cons_zero, List.take_add_one, List.getElem?_eq_getElem hi, List.getD_eq_getElem?_getD, List.getElem?_eq_getElem hi, List.append_assoc]
 rfl
theorem RowsS.far10 {base g : Nat} {w w' : World} {v : Value} {L : List (List Int)} {t : TypeId} {cs : Array Value} (h : RowsS base w v L) (R : Row w g t cs) (h1 : t ≠ 3) (h2 : t ≠ 22) (hk : ∀ k, k ≠ g → w'.heap[k]? = w.heap[k]?) : RowsS base w' v L := by
 obtain ⟨vals, m, hl, h3⟩ := h
 refine ⟨vals, ?_, hl, fun i hi => ?_⟩
 · obtain ⟨m1, m2⟩ := m
   refine ⟨m1, ?_⟩
   rcases m2 with m2 | ⟨r, cap, cur, rfl, hr, hh, hrest⟩
   · exact .inl m2
   · refine .inr ⟨r, cap, cur, rfl, hr, (hk r fun e => h2 ?_).trans hh, hrest⟩
     subst e
     have := (show w.heap[r]? = _ from R).symm.trans hh
     simp only [Option.some.injEq, Obj.cells.injEq] at this
     exact this.2.1
 · obtain ⟨u, e, S⟩ := h3 i hi
   exact ⟨u, e, S.far R h1 hk⟩
end
end Go.Proofs.YtengpgodmbfmkaaGreat
