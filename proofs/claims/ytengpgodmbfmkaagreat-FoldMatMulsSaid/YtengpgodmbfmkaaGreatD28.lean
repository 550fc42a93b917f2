/-
  Layer 10's laws: the helpers few, is, told, of. (Made by wip/gen/gen_fkit.py.)
-/
import Derived.Test.YtengpgodmbfmkaaGreatD25
namespace Go.Proofs.YtengpgodmbfmkaaGreat
set_option linter.unusedVariables false
set_option linter.unusedSimpArgs false
set_option maxRecDepth 100000
set_option maxHeartbeats 40000000
section
open Go.RowKit
def few10 (qs : List Q3) : Bool := decide (qs.length ≤ 64) && qs.all fun q => decide (q.num.length ≤ 3) && decide (q.den.length ≤ 3)
theorem few10_true {qs : List Q3} (h : few10 qs = true) : qs.length ≤ 64 ∧ lensQ qs 3 := by
 unfold few10 at h
 rw [Bool.and_eq_true, decide_eq_true_iff, List.all_eq_true] at h
 refine ⟨h.1, fun q hq => ?_⟩
 have := h.2 q hq
 simpa using this
theorem few10_ok {qs : List Q3} (h : qs.length ≤ 64) (h2 : ∀ (k : Nat) (q : Q3), qs[k]? = some q → q.num.length ≤ 3 ∧ q.den.length ≤ 3) : few10 qs = true := by
 unfold few10
 rw [Bool.and_eq_true, decide_eq_true_iff, List.all_eq_true]
 refine ⟨h, fun q hq => ?_⟩
 obtain ⟨k, hk, rfl⟩ := List.mem_iff_getElem.1 hq
 have := h2 k _ (List.getElem?_eq_getElem hk)
 simpa using this
theorem few10_bad {qs : List Q3} {k : Nat} {q : Q3} (h : qs[k]? = some q) (h2 : ¬ (q.num.length ≤ 3 ∧ q.den.length ≤ 3)) : few10 qs = false := by
 cases e : few10 qs with
 | false => rfl
 | true => exact absurd ((few10_true e).2 q (List.mem_of_getElem? h)) h2
theorem few10_long {qs : List Q3} (h : 64 < qs.length) : few10 qs = false := by
 cases e : few10 qs with
 | false => rfl
 | true => exact absurd (few10_true e).1 (by omega)
theorem few10_any {w : World} {v : Value} {s : List Int} {qs : List Q3} {a b : Option Addr} {ca cb : Nat} (T : TensQ w v s qs a ca b cb) :
 Calls Tryz.prog 11 #[v] w fun e w' => e = .returned (.bool (few10 qs)) ∧ Below w.heap.size w w' := by
 have HT := Lib.hid T
 obtain rfl := T.is
 obtain ⟨t, ht⟩ : ∃ t, few10 qs = t := ⟨_, rfl⟩
 rw [ht]
 have HTT := Lib.hid ht
 clear ht
 obtain ⟨W, hW⟩ : ∃ W, (w.alloc (.cells #[.slice a s.length ca, .slice b qs.length cb] 26)) = W := ⟨_, rfl⟩
 have R0 : Row W (w.heap.size) 26 #[.slice a s.length ca, .slice b qs.length cb] := by rw [← hW]; have h := Row.new w 26 #[.slice a s.length ca, .slice b qs.length cb]; (try simp only [World.size_alloc] at h); exact h
 have hBW : Below w.heap.size w W := by rw [← hW]; exact ((Below.refl _ _).alloc (by (try simp) <;> omega) _)
 have hsW : W.heap.size = w.heap.size + 1 := by rw [← hW]; simp
 obtain ⟨c0, c1, _, _⟩ := R0.two
 clear T
 by_cases hlong : 64 < qs.length
 · obtain rfl : t = false := by rw [← HTT.out]; exact few10_long hlong
   have hI : (qs.length : Int) > 64 := by omega
   go_enter Tryz.func11, Tryz.ntmps11
   (try rw [hW])
   go_wp2
   go_ret
   exact ⟨rfl, hBW⟩
 · have hI : ¬ (qs.length : Int) > 64 := by omega
   have H0 := Lib.hid R0
   have HB := Lib.hid hBW
   go_enter Tryz.func11, Tryz.ntmps11
   (try rw [hW])
   go_wp2_with fail
   clear c0 c1 R0 hBW hsW hW
   go_loopw [3] (fun i wr => ∃ k : Nat, i = .int .i64 (k : Int) ∧ k ≤ qs.length ∧ (∀ (j : Nat) (q : Q3), j < k → qs[j]? = some q → q.num.length ≤ 3 ∧ q.den.length ≤ 3) ∧ Row wr w.heap.size 26 #[.slice a s.length ca, .slice b qs.length cb] ∧ Below w.heap.size w wr) (fun i _ => qs.length - (intOf i).toNat)
   case atStart => exact ⟨0, rfl, Nat.zero_le _, (fun j q hj => by omega), H0.out, HB.out⟩
   case round =>
    obtain ⟨k, rfl, hk, hall, r0, hb⟩ := hrel
    have HA := Lib.hid hall
    clear hall
    obtain ⟨c0, c1, _, _⟩ := r0.two
    by_cases hlt : k < qs.length
    · obtain ⟨bb, o, x0, x1, x2, q, hbo, hqk, e0, e1, e2, hraw⟩ := (HT.out.el.later hb (fun v x _ k => k.later hb)).at hlt
      subst hbo
      obtain ⟨u1, u2, j1, j2, hraw', _⟩ := id hraw
      simp only [Value.agg.injEq, Array.mk.injEq, List.cons.injEq, and_true] at hraw'
      obtain ⟨rfl, rfl, rfl⟩ := hraw'
      have hltI : (k : Int) < (qs.length : Int) := by omega
      have HQ := Lib.hid hqk
      clear hqk hraw
      obtain ⟨n1, hn1⟩ : ∃ n, q.num.length = n := ⟨_, rfl⟩
      obtain ⟨n2, hn2⟩ : ∃ n, q.den.length = n := ⟨_, rfl⟩
      have HN1 := Lib.hid hn1
      have HN2 := Lib.hid hn2
      rw [hn1] at e1
      rw [hn2] at e2
      clear hn1 hn2
      by_cases h1 : n1 ≤ 3
      · have h1I : ¬ (n1 : Int) > 3 := by omega
        by_cases h2 : n2 ≤ 3
        · have h2I : ¬ (n2 : Int) > 3 := by omega
          go_wp2
          go_roundw
          case rel =>
           refine ⟨k + 1, by go_num, by omega, fun j p hj hp => ?_, r0, hb⟩
           by_cases h : j = k
           · rw [h, HQ.out] at hp
             cases hp
             rw [HN1.out, HN2.out]
             exact ⟨h1, h2⟩
           · exact HA.out j p (by omega) hp
          case measure => simp [intOf]; omega
        · have h2I : (n2 : Int) > 3 := by omega
          obtain rfl : t = false := by rw [← HTT.out]; exact few10_bad HQ.out (by rw [HN1.out, HN2.out]; omega)
          go_wp2
          go_ret
          exact ⟨rfl, hb⟩
      · have h1I : (n1 : Int) > 3 := by omega
        obtain rfl : t = false := by rw [← HTT.out]; exact few10_bad HQ.out (by rw [HN1.out, HN2.out]; omega)
        go_wp2
        go_ret
        exact ⟨rfl, hb⟩
    · obtain rfl : k = qs.length := by omega
      have hltI : ¬ (qs.length : Int) < (qs.length : Int) := by omega
      obtain rfl : t = true := by
       rw [← HTT.out]
       exact few10_ok (by omega) fun j q hq => HA.out j q (by rcases Nat.lt_or_ge j qs.length with g | g; exact g; rw [List.getElem?_eq_none g] at hq; cases hq) hq
      go_wp2
      go_ret
      exact ⟨rfl, hb⟩
def An10 (base : Nat) (w : World) (r : Value) (c : Int) (s : List Int) (L : List Rat) (N : Nat) : Prop := (c = 0 ∧ ResT base w r s L N) ∨ (c ≠ 0 ∧ r = noTensor)
theorem An10.later {base N : Nat} {w w' : World} {r : Value} {c : Int} {s : List Int} {L : List Rat} (h : An10 base w r c s L N) (hb : Below w.heap.size w w') : An10 base w' r c s L N := h.imp (fun h => ⟨h.1, h.2.later hb⟩) id
theorem An10.mono {base base' N : Nat} {w : World} {r : Value} {c : Int} {s : List Int} {L : List Rat} (h : An10 base w r c s L N) (hb : base' ≤ base) : An10 base' w r c s L N := h.imp (fun h => ⟨h.1, h.2.mono hb⟩) id
theorem An10.box {base N : Nat} {w : World} {r : Value} {c : Int} {s : List Int} {L : List Rat} (h : An10 base w r c s L N) : ∃ a b n m ca cb, r = .agg #[.slice a n ca, .slice b m cb] := by
 rcases h with ⟨_, a, b, ca, cb, rfl, _⟩ | ⟨_, rfl⟩
 · exact ⟨_, _, _, _, _, _, rfl⟩
 · exact ⟨_, _, _, _, _, _, rfl⟩
theorem allBC_eq10 {s : List Int} {L : List Rat} {qs : List Q3} (h : qs.map Q3.rat = L) (hok : ∀ q ∈ qs, okQ q = true) : allBC (fun (x : Rat) (q : Q3) => validB q.neg q.num q.den x) s s L qs = true := by
 subst h
 refine allBC_yes rfl (by simp) fun k x q hx hq => ?_
 rw [List.getElem?_map, hq] at hx
 cases hx
 exact hok q (List.mem_of_getElem? hq)
theorem is10_true {base n N : Nat} {w : World} {r t : Value} {s : List Int} {L : List Rat} (h : ResT base w r s L N) (ht : TenR w t s L n) (hs : s.length ≤ 17592186044416) (hL : L.length ≤ 1000000) (hn : n ≤ 1000000) (hN : N ≤ 1000000) :
 Calls Tryz.prog 40 #[r, .int .i64 0, t] w fun e w' => e = .returned (.bool true) ∧ Below w.heap.size w w' := by
 obtain ⟨qs, a, b, ca, cb, T, hqs, hl, hok⟩ := h.tens
 obtain ⟨a2, ca2, b2, cb2, U⟩ := ht
 have hlen : qs.length = L.length := by rw [← hqs]; simp
 obtain rfl := T.is
 obtain rfl := U.is
 obtain ⟨W, hW⟩ : ∃ W, ((w.alloc (.cells #[.slice a s.length ca, .slice b qs.length cb] 26)).alloc (.cells #[.slice a2 s.length ca2, .slice b2 L.length cb2] 36)) = W := ⟨_, rfl⟩
 have R0 : Row W (w.heap.size) 26 #[.slice a s.length ca, .slice b qs.length cb] := by rw [← hW]; have h := Row.new w 26 #[.slice a s.length ca, .slice b qs.length cb]; (try simp only [World.size_alloc] at h); exact (h.alloc _)
 have R1 : Row W (w.heap.size + 1) 36 #[.slice a2 s.length ca2, .slice b2 L.length cb2] := by rw [← hW]; have h := Row.new (w.alloc (.cells #[.slice a s.length ca, .slice b qs.length cb] 26)) 36 #[.slice a2 s.length ca2, .slice b2 L.length cb2]; (try simp only [World.size_alloc] at h); exact h
 have hBW : Below w.heap.size w W := by rw [← hW]; exact (((Below.refl _ _).alloc (by (try simp) <;> omega) _).alloc (by (try simp) <;> omega) _)
 have hsW : W.heap.size = w.heap.size + 1 + 1 := by rw [← hW]; simp
 have hi := isT_any (U.later hBW) (T.later hBW) (by omega) (by omega) (by omega) (by omega) (fun q hq => by have := hl q hq; omega)
 rw [allBC_eq10 hqs hok] at hi
 obtain ⟨c0, c1, _, _⟩ := R0.two
 obtain ⟨c2, c3, _, _⟩ := R1.two
 have HI := Lib.hid hi
 clear T U h hqs hl hok hlen hi
 go_enter Tryz.func40, Tryz.ntmps40
 (try rw [hW])
 go_wp2_with (go_at_call 33; refine HI.out.mono ?_; rintro e w1 ⟨rfl, hb1⟩)
 go_ret
 exact ⟨rfl, hBW.trans (hb1.mono (by omega))⟩
theorem of10_any {w : World} {u v : Value} {s xs : List Int} {a b : Option Addr} {ca cb : Nat} (A : ArgS w u s a ca) (na : a = none → ca = 0) (B : ArgS w v xs b cb) (hs : s.length ≤ 1000) (hq : xs.length ≤ 1000) :
 Calls Tryz.prog 39 #[u, v] w fun e w' => ∃ r, e = .returned r ∧ TenR w' r s (xs.map intQ) 6 ∧ Below w.heap.size w w' := by
 obtain ⟨i0, hi, hz0, hz1, hz2⟩ := info_parts infoR
 have HA := Lib.hid A
 have NA := Lib.hid na
 have HB := Lib.hid B
 obtain rfl := A.is
 obtain rfl := B.is
 clear A na B
 go_enter Tryz.func39, Tryz.ntmps39
 go_wp2
 have R1 : Row ((w.alloc (.cells #[.slice none 0 0, .slice none 0 0] 36)).alloc (.cells #[.slice a s.length ca, .slice none 0 0] 36)) w.heap.size 36 #[.slice none 0 0, .slice none 0 0] := (Row.new _ _ _).alloc _
 have R2 : Row ((w.alloc (.cells #[.slice none 0 0, .slice none 0 0] 36)).alloc (.cells #[.slice a s.length ca, .slice none 0 0] 36)) (w.heap.size + 1) 36 #[.slice a s.length ca, .slice none 0 0] := by have h := (Row.new (w.alloc (.cells #[.slice none 0 0, .slice none 0 0] 36)) 36 #[.slice a s.length ca, .slice none 0 0]); simp only [World.size_alloc] at h; exact h
 have hBW : Below w.heap.size w ((w.alloc (.cells #[.slice none 0 0, .slice none 0 0] 36)).alloc (.cells #[.slice a s.length ca, .slice none 0 0] 36)) := ((Below.refl _ _).alloc (by simp) _).alloc (by simp) _
 have H1 := Lib.hid R1
 have H2 := Lib.hid R2
 have HBW := Lib.hid hBW
 clear R1 R2 hBW
 go_loopw [6] (fun i wr => ∃ (k : Nat) (v : Value), i = .int .i64 (k : Int) ∧ k ≤ xs.length ∧ Row wr w.heap.size 36 #[.slice none 0 0, .slice none 0 0] ∧
  Row wr (w.heap.size + 1) 36 #[.slice a s.length ca, v] ∧ RowO w.heap.size 58 (fun W v x => ResR w.heap.size W v x 6) wr v ((xs.take k).map intQ) ∧ Below w.heap.size w wr) (fun i _ => xs.length - (intOf i).toNat)
 case atStart => exact ⟨0, _, rfl, Nat.zero_le _, H1.out, H2.out, RowO.nil _ _ _ _, HBW.out⟩
 case round =>
  obtain ⟨k, v, rfl, hk, r1, r2, ⟨es, hown, hall⟩, hb⟩ := hrel
  have hsz := hb.size
  have hlt2 := r2.lt
  have c21 := r2.cell 1
  have hle : es.length = k := by rw [hall.1]; simp [hk]
  by_cases hlt : k < xs.length
  · obtain ⟨bb, o, hbo, hc⟩ := (HB.out.later hb).at hlt
    have hc0 := (HB.out.at hlt)
    have hqk := getD_some hlt
    have hwx := HB.out.wf.getD k
    obtain ⟨x, hxe⟩ : ∃ x, xs.getD k 0 = x := ⟨_, rfl⟩
    rw [hxe] at hc hqk hwx hc0
    have hb0 : bb < w.heap.size := by
     obtain ⟨b', o', e', h'⟩ := hc0
     rw [hbo] at e'
     cases e'
     exact World.block_lt_of_cell? w _ h'
    obtain ⟨hx0, hx1⟩ := hwx
    subst hbo
    obtain ⟨r, hrv, hrb, hrne⟩ := hown.hits hsz
    have n2 := hrne _ _ _ r2 (by decide)
    have n1 := hrne _ _ _ r1 (by decide)
    have mkS : ∀ X, Kept r wr X → X.cell? ⟨w.heap.size + 1, 1, none⟩ = some v ∧ X.cell? ⟨bb, o + k, none⟩ = some (.int .i64 x) ∧ Kept r wr X := fun X h => ⟨h.cell c21 n2, h.cell hc (by show bb ≠ r; omega), h⟩
    have hltI : (k : Int) < (xs.length : Int) := by omega
    have hS0 := mkS wr.drew ((Kept.refl r wr).drew)
    have HQK := Lib.hid hqk
    clear hc0 hxe hqk
    go_wp2_with fail
    refine wp_region_L (S := (fun X => X.cell? ⟨w.heap.size + 1, 1, none⟩ = some v ∧ X.cell? ⟨bb, o + k, none⟩ = some (.int .i64 x) ∧ Kept r wr X)) (z := 10) (by kernel_rfl) hS0 (fun hHeld => ?_)
    refine todo [0, 1, 2, 3, 4, 5] ?_
    iterate 6
     refine todoL (v := ?_) rfl (by kernel_rfl) (fun _ _ _ h => h) (by assumption) (Or.inl ⟨by rfl, ?_⟩) ?_
     rotate_left
     · intro w hSw; (try dsimp only at hSw); go_simp; (try with_reducible rfl)
     try simp only [Act.put, nA, nB, nC, nD, nE, nF]
    refine todone ?_
    refine wpAnyL_one (i := 6) (by kernel_rfl) rfl (fun K hK => ?sb6)
    go_simp
    refine (intRR_any x _ hx0 hx1).mono ?_
    rintro e w5 ⟨rv, rfl, qv, hb5⟩
    have Q5 := Lib.hid qv
    obtain ⟨m5, f1, l1, j1, f2, l2, j2, rfl⟩ := qv.shape
    clear qv
    go_simp
    have hB5 : Below w.heap.size w w5 := (hb.drew).trans (hb5.mono hsz)
    have hk5 : Kept r wr w5 := ((Kept.refl r wr).drew).below hb5
    refine hK.out _ _ (fun _ => mkS _ hk5) (fun hHeld2 => ?mb6)
    clear hK K hHeld
    have hHeld := hHeld2 (by decide)
    clear hHeld2
    try simp only [Act.put, nD, nE, nF]
    refine wpAnyL_one (i := 7) (by kernel_rfl) rfl (fun K hK => ?sb7)
    go_simp
    refine hK.out _ _ (fun _ => mkS _ (hk5.alloc _)) (fun hHeld2 => ?mb7)
    clear hK K hHeld
    have hHeld := hHeld2 (by decide)
    clear hHeld2
    try simp only [Act.put, nD, nE, nF]
    refine wpAnyL_one (i := 8) (by kernel_rfl) rfl (fun K hK => ?sb8)
    have hb5w : Below wr.heap.size wr w5 := (Below.refl _ wr).drew.trans hb5
    have hown5 : OwnE w.heap.size 58 w5 v es := hown.later hb5w
    have hall5 : AllE (fun v x => ResR w.heap.size w5 v x 6) es ((xs.take k).map intQ) := hall.imp fun u x _ h => h.later hb5w
    have hsz5 := hB5.size
    refine step_append_ownT rfl _ _ 34 rfl w.heap.size 58 i0 _ 3 56 Tryz.underlying34 hi hz0 hz1 hz2 rfl (by decide) _ es.length (flat3 es) rfl (hown5.later ((Below.refl _ _).alloc (Nat.le_refl _) _)) ⟨w5.heap.size, 0, none⟩ 1 1 [.bool m5, .slice f1 l1 j1, .slice f2 l2 j2] rfl rfl (cell_three_new _ _ _ _ _) (by simp [Value.oneCell']) (by unfold maxLen; omega) (by omega) (by simp; omega) ?_
    intro v' w6 hown' hgrow _
    obtain ⟨av, cv, rfl⟩ := ownT_slice hown'
    have hk6 : Kept r wr w6 := (hk5.alloc _).grown hgrow hrv
    refine hK.out _ _ (fun _ => mkS _ hk6) (fun hHeld2 => ?mb8)
    clear hK K hHeld
    have hHeld := hHeld2 (by decide)
    clear hHeld2
    try simp only [Act.put, nD, nE, nF]
    refine wpAnyL_take (i := 9) (v := ?va9) rfl (by kernel_rfl) (by kernel_rfl) (by kernel_rfl) (by kernel_rfl) (fun _ _ _ h => h) (Or.inl ⟨by rfl, ?ha9⟩) (by assumption) ?ra9
    case ha9 =>
     intro w hSw
     try dsimp only at hSw
     go_simp
     try with_reducible rfl
    try simp only [Act.put, nD, nE, nF]
    have R26 := r2.kept hk6 n2
    have f21 := R26.free 1
    have d21 := R26.cell 1
    refine wpAnyL_one (i := 10) (by kernel_rfl) rfl (fun K hK => ?sb10)
    go_simp
    refine hK.out _ _ (fun h => absurd rfl h) (fun _ => ?mb10)
    clear hK K
    try simp only [Act.put, nD, nE, nF]
    refine wpAnyL_done (by kernel_rfl) ?_ _
    go_wp2
    go_roundw
    case rel =>
     have hx5 : ResR w.heap.size w5 (E3.agg ⟨.bool m5, .slice f1 l1 j1, .slice f2 l2 j2⟩) (intQ x) 6 := Q5.out.mono (by show w.heap.size ≤ wr.heap.size; exact hsz)
     obtain ⟨hrow6, hb6⟩ := pushE (P := fun W v x => ResR w.heap.size W v x 6) (e := ⟨.bool m5, .slice f1 l1 j1, .slice f2 l2 j2⟩) hB5 hsz5 hown5 hall5 hx5 (fun u y h => ResR.apart hown5 hgrow (by decide) h) hown' hgrow
     rw [hle] at hrow6
     have r16 := r1.kept hk6 n1
     refine ⟨k + 1, _, by go_num, by omega, r16.far (by show w.heap.size ≠ w.heap.size + 1; omega) _, R26.set21 _, ?_, hb6.setCell (by show w.heap.size ≤ w.heap.size + 1; omega) _⟩
     rw [take_nextL HQK.out, List.map_append]
     exact hrow6.far R26 (by decide) (kept1 _) (fun u y h => h.far R26 (by decide) (kept1 _))
    case measure => simp [intOf]; omega
  · obtain rfl : k = xs.length := by omega
    have hltI : ¬ (xs.length : Int) < (xs.length : Int) := by omega
    rw [List.take_length] at hall
    obtain ⟨av, cv, rfl⟩ := ownT_slice hown
    rw [hle] at r2 hown
    have fE : RowO w.heap.size 58 (fun W v x => ResR w.heap.size W v x 6) wr (.slice av xs.length cv) (xs.map intQ) := ⟨es, hown, hall⟩
    have fT := fE.at_
    have TT : TensR wr (.agg #[.slice a s.length ca, .slice av xs.length cv]) s (xs.map intQ) 6 a ca av cv := ⟨by rw [List.length_map], HA.out.later hb, NA.out, by rw [List.length_map]; exact fT.2.1.imp (fun v x _ h => h.arg), fT.2.2⟩
    have c20 := r2.cell 0
    have d21 := r2.cell 1
    obtain ⟨c10, c11, g10, g11⟩ := r1.two
    have HTT := Lib.hid TT
    clear hown hall hle fE fT TT c21
    go_wp2_with fail
    have R1s := r1.set2 (.slice a s.length ca) (.slice av xs.length cv)
    obtain ⟨zz0, zz1, _, _⟩ := R1s.two
    refine bodyPost_ret (v := .agg #[.slice a s.length ca, .slice av xs.length cv]) (by simp [results, Tryz.results39, go_sem, zz0, zz1]) rfl ⟨_, rfl, ?_, below_set2 hb (Nat.le_refl _) _ _⟩
    exact ⟨a, ca, av, cv, HTT.out.far r1 (kept2 _ _)⟩
end
end Go.Proofs.YtengpgodmbfmkaaGreat
