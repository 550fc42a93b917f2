/-
  Contracts of package quo: takeAway, giveBack.
-/
import Derived.Test.YtdcdaielfkikhaaQEst
namespace Go.Proofs.Ytdcdaielfkikhaa
open Go.RowKit
set_option linter.unusedVariables false
set_option linter.unusedSimpArgs false

/-- the row zs, from i on k limbs replaced by ls -/
def putAt (zs : List Int) (i : Nat) (ls : List Int) : List Int := zs.take i ++ ls ++ zs.drop (i + ls.length)
theorem putAt_length (zs ls : List Int) (i : Nat) (h : i + ls.length ≤ zs.length) : (putAt zs i ls).length = zs.length := by
  unfold putAt; simp only [List.length_append, List.length_take, List.length_drop]; omega
theorem putAt_nil (zs : List Int) (i : Nat) : putAt zs i [] = zs := by simp [putAt]
theorem putAt_far (zs ls : List Int) (i k : Nat) (h : i + ls.length ≤ zs.length) (hk : i + ls.length ≤ k) : (putAt zs i ls).getD k 0 = zs.getD k 0 := by
  unfold putAt
  simp only [List.getD]
  rw [List.getElem?_append_right (by simp only [List.length_append, List.length_take]; omega), List.getElem?_drop]
  congr 2
  simp only [List.length_append, List.length_take]
  omega
theorem putAt_snoc (zs ls : List Int) (i : Nat) (x : Int) (h : i + ls.length < zs.length) : (putAt zs i ls).set (i + ls.length) x = putAt zs i (ls ++ [x]) := by
  unfold putAt
  have hl : (zs.take i ++ ls).length = i + ls.length := by simp only [List.length_append, List.length_take]; omega
  rw [List.set_append_right _ _ (by omega), hl, Nat.sub_self, List.drop_eq_getElem_cons h, List.set_cons_zero]
  simp [List.append_assoc, Nat.add_assoc]
theorem putAt_take (zs ls : List Int) (i : Nat) (h : i + ls.length ≤ zs.length) : (putAt zs i ls).take i = zs.take i := by
  unfold putAt
  rw [List.append_assoc, List.take_append_of_le_length (by rw [List.length_take]; omega), List.take_take]
  congr 1; omega
theorem putAt_mid (zs ls : List Int) (i : Nat) (h : i + ls.length ≤ zs.length) : ((putAt zs i ls).drop i).take ls.length = ls := by
  unfold putAt
  rw [List.append_assoc, List.drop_left' (by rw [List.length_take]; omega), List.take_left' rfl]
theorem putAt_drop (zs ls : List Int) (i : Nat) (h : i + ls.length ≤ zs.length) : (putAt zs i ls).drop (i + ls.length) = zs.drop (i + ls.length) := by
  unfold putAt
  rw [List.drop_left' (by simp only [List.length_append, List.length_take]; omega)]
theorem putAt_wf {zs ls : List Int} (i : Nat) (hz : Wf zs) (hl : Wf ls) : Wf (putAt zs i ls) := ((hz.take i).append hl).append (hz.drop _)

/-- m limbs from i on -/
def sub (zs : List Int) (i m : Nat) : List Int := (zs.drop i).take m
theorem sub_getD (zs : List Int) (i m k : Nat) (h : k < m) : (sub zs i m).getD k 0 = zs.getD (i + k) 0 := by
  unfold sub
  simp only [List.getD]
  rw [List.getElem?_take_of_lt h, List.getElem?_drop]
theorem sub_length (zs : List Int) (i m : Nat) (h : i + m ≤ zs.length) : (sub zs i m).length = m := by unfold sub; rw [List.length_take, List.length_drop]; omega
theorem sub_wf {zs : List Int} (i m : Nat) (h : Wf zs) : Wf (sub zs i m) := (h.drop i).take m
theorem sub_putAt (zs ls : List Int) (i m : Nat) (hm : ls.length = m) (h : i + m ≤ zs.length) : sub (putAt zs i ls) i m = ls := by unfold sub; rw [← hm]; exact putAt_mid _ _ _ (by omega)
theorem putAt_twice (zs ls ks : List Int) (i : Nat) (h : i + ls.length ≤ zs.length) (hk : ks.length = ls.length) : putAt (putAt zs i ls) i ks = putAt zs i ks := by
  have h1 := putAt_take zs ls i h
  have h2 := putAt_drop zs ls i h
  unfold putAt at *
  rw [hk, h1, h2]

/-- what takeAway leaves, of n + 1 limbs, and whether they were less -/
def takeL (ps ys : List Int) (q : Int) : List Int := (takeTo ps ys q ys.length).1 ++ [(ps.getD ys.length 0 - (takeTo ps ys q ys.length).2 % 4294967296) % 4294967296]
def takeB (ps ys : List Int) (q : Int) : Bool := decide (ps.getD ys.length 0 < (takeTo ps ys q ys.length).2)
theorem takeL_length (ps ys : List Int) (q : Int) : (takeL ps ys q).length = ys.length + 1 := by simp [takeL, takeTo_length]
theorem takeL_wf (ps ys : List Int) (q : Int) : Wf (takeL ps ys q) := (takeTo_wf _ _ _ _).append (Wf.cons (by omega) Wf.nil)
theorem val_takeL {ps ys : List Int} {q : Int} (hp : Wf ps) (hy : Wf ys) (hq : 0 ≤ q ∧ q ≤ 4294967295) (hl : ps.length = ys.length + 1) :
    val (takeL ps ys q) = val ps - q * val ys + (if takeB ps ys q then 4294967296 ^ (ys.length + 1) else 0) := by
  have h1 := val_takeTo ps ys q hp ys.length
  have h2 := takeTo_owed ps ys q hy hq ys.length
  have h3 := val_take_succ ps ys.length
  rw [← hl, List.take_of_length_le (Nat.le_refl _)] at h3
  rw [List.take_of_length_le (Nat.le_refl ys.length)] at h1
  have hb := hp.getD ys.length
  unfold takeL takeB
  rw [val_append, takeTo_length]
  simp only [val, Int.mul_zero, Int.add_zero]
  generalize (takeTo ps ys q ys.length).2 = o at *
  generalize ps.getD ys.length 0 = p at *
  rw [Int.pow_succ]
  generalize (4294967296 : Int) ^ ys.length = P at *
  have hs : (p - o % 4294967296) % 4294967296 = p - o + (if decide (p < o) = true then 4294967296 else 0) := by
    by_cases h : p < o
    · rw [if_pos (decide_eq_true h)]; omega
    · rw [if_neg (by simpa using h)]; omega
  rw [hs, h3]
  by_cases h : p < o
  · rw [if_pos (decide_eq_true h), if_pos (decide_eq_true h)]
    have e : P * (p - o + 4294967296) = P * p - P * o + P * 4294967296 := by rw [Int.mul_add, Int.mul_sub]
    omega
  · rw [if_neg (by simpa using h), if_neg (by simpa using h)]
    have e : P * (p - o + 0) = P * p - P * o := by rw [Int.add_zero, Int.mul_sub]
    omega

set_option maxRecDepth 100000 in
set_option maxHeartbeats 4000000 in
theorem take_any {g cap capp i : Nat} {bg bo capb : Nat} {zs ys : List Int} {w : World} (q : Int) (hz : Part w g cap zs) (hwz : Wf zs) (hwy : Wf ys) (hq : 0 ≤ q ∧ q ≤ 4294967295) (hi : i + ys.length < zs.length) (hm : zs.length ≤ 1099511627776)
    (cy : ∀ j, j < ys.length → w.cell? ⟨bg, bo + j, none⟩ = some (.int .u32 (ys.getD j 0))) (hbg : bg ≠ g) :
    Calls Try.prog 68 #[.slice (some ⟨g, i, none⟩) (ys.length + 1 : Nat) capp, .int .u64 q, .slice (some ⟨bg, bo, none⟩) ys.length capb] w fun e w' =>
      e = .returned (.bool (takeB (sub zs i (ys.length + 1)) ys q)) ∧ Part w' g cap (putAt zs i (takeL (sub zs i (ys.length + 1)) ys q)) ∧ Only g w w' := by
  obtain ⟨N, hN⟩ : ∃ N, ys.length + 1 = N := ⟨_, rfl⟩
  rw [hN]
  obtain ⟨hq0, hq1⟩ := hq
  go_enter Try.func68, Try.ntmps68
  go_wp2
  go_loopw [7, 8, 9, 10, 15] (fun o _ _ _ k wr => ∃ k' : Nat, k' ≤ ys.length ∧ k = .int .i64 k' ∧ o = .int .u64 (takeTo (sub zs i N) ys q k').2 ∧ Part wr g cap (putAt zs i (takeTo (sub zs i N) ys q k').1) ∧ Only g w wr) (fun _ _ _ _ k _ => ys.length - (intOf k).toNat)
  case atStart => exact ⟨0, Nat.zero_le _, rfl, rfl, by simp only [takeTo, putAt_nil]; exact hz, Only.refl _ _⟩
  case round =>
    obtain ⟨k, hk, rfl, rfl, hpart, ho⟩ := hrel
    obtain ⟨o, hok⟩ : ∃ o, (takeTo (sub zs i N) ys q k).2 = o := ⟨_, rfl⟩
    obtain ⟨bo0, bo1⟩ : 0 ≤ o ∧ o ≤ 4294967296 := hok ▸ takeTo_owed (sub zs i N) ys q hwy ⟨hq0, hq1⟩ k
    have hll := takeTo_length (sub zs i N) ys q k
    rw [hok]
    by_cases hlt : k < ys.length
    · obtain ⟨y, hyk⟩ : ∃ y, ys.getD k 0 = y := ⟨_, rfl⟩
      obtain ⟨by0, by1⟩ : 0 ≤ y ∧ y < 4294967296 := hyk ▸ hwy.getD k
      obtain ⟨p, hpk⟩ : ∃ p, zs.getD (i + k) 0 = p := ⟨_, rfl⟩
      have hpk2 : (sub zs i N).getD k 0 = p := by rw [← hpk]; exact sub_getD _ _ _ _ (by omega)
      obtain ⟨bp0, bp1⟩ : 0 ≤ p ∧ p < 4294967296 := hpk ▸ hwz.getD (i + k)
      have cY := (ho.cell (p := ⟨bg, bo + k, none⟩) hbg).trans (cy k hlt)
      rw [hyk] at cY
      have hpl : (putAt zs i (takeTo (sub zs i N) ys q k).1).length = zs.length := putAt_length _ _ _ (by omega)
      have cZ := hpart.cell (i + k) (by omega)
      rw [putAt_far _ _ _ _ (by omega) (by omega), hpk] at cZ
      have fZ := hpart.free (i + k)
      have hpr := limb_prod (q := q) (y := y) ⟨hq0, hq1⟩ ⟨by0, by1⟩
      obtain ⟨s, hs⟩ : ∃ s, q * y = s := ⟨_, rfl⟩
      rw [hs] at hpr
      obtain ⟨bs0, bs1⟩ := hpr
      have hkN : (k : Int) < (N : Int) := by omega
      have hset := hpart.set (i + k) (by omega) ((p - (o + s) % 4294967296) % 4294967296)
      have e1 : takeTo (sub zs i N) ys q (k + 1) = ((takeTo (sub zs i N) ys q k).1 ++ [(p - (o + s) % 4294967296) % 4294967296], (o + s) / 4294967296 + (if p < (o + s) % 4294967296 then 1 else 0)) := by
        simp only [takeTo]; rw [hpk2, hyk, hok, hs]
      rw [show i + k = i + (takeTo (sub zs i N) ys q k).1.length by omega, putAt_snoc _ _ _ _ (by omega), hll] at hset
      have e2 : (p - (o + s) % 4294967296) % 4294967296 = (p - (o + s)) % 4294967296 := by omega
      rw [e2] at e1 hset
      have H1 := Lib.hid e1
      have hsv : ∀ v, v = (p - (o + s)) % 4294967296 → Part (wr.setCell ⟨g, i + k, none⟩ (.int .u32 v)) g cap (putAt zs i ((takeTo (sub zs i N) ys q k).1 ++ [(p - (o + s)) % 4294967296])) := fun v hv => by rw [hv]; exact hset
      have HSET := Lib.hid hsv
      clear hsv
      have HSS := Lib.hid hs
      clear hpart cy hyk hpk hpk2 e1 e2 hset hok hll hpl hN
      have hO : ∀ v, Only g w (wr.setCell ⟨g, i + k, none⟩ v) := fun v => ho.trans (Only.set _ _ _ _)
      have HO := Lib.hid hO
      clear hO
      by_cases hb : p < (o + s) % 4294967296
      · have e3 : takeTo (sub zs i N) ys q (k + 1) = ((takeTo (sub zs i N) ys q k).1 ++ [(p - (o + s)) % 4294967296], (o + s) / 4294967296 + 1) := by rw [H1.out, if_pos hb]
        have H3 := Lib.hid e3
        clear e3
        go_wp2
        go_roundw
        case rel => exact ⟨k + 1, by omega, by go_num, by rw [H3.out], by rw [H3.out]; exact HSET.out _ (by omega), HO.out _⟩
        case measure => simp [intOf]; omega
      · have e3 : takeTo (sub zs i N) ys q (k + 1) = ((takeTo (sub zs i N) ys q k).1 ++ [(p - (o + s)) % 4294967296], (o + s) / 4294967296) := by rw [H1.out, if_neg hb, Int.add_zero]
        have H3 := Lib.hid e3
        clear e3
        go_wp2
        go_roundw
        case rel => exact ⟨k + 1, by omega, by go_num, by rw [H3.out], by rw [H3.out]; exact HSET.out _ (by omega), HO.out _⟩
        case measure => simp [intOf]; omega
    · obtain rfl : k = ys.length := by omega
      obtain ⟨p, hpk⟩ : ∃ p, zs.getD (i + ys.length) 0 = p := ⟨_, rfl⟩
      have hpk2 : (sub zs i N).getD ys.length 0 = p := by rw [← hpk]; exact sub_getD _ _ _ _ (by omega)
      obtain ⟨bp0, bp1⟩ : 0 ≤ p ∧ p < 4294967296 := hpk ▸ hwz.getD (i + ys.length)
      have hpl : (putAt zs i (takeTo (sub zs i N) ys q ys.length).1).length = zs.length := putAt_length _ _ _ (by omega)
      have cZ := hpart.cell (i + ys.length) (by omega)
      rw [putAt_far _ _ _ _ (by omega) (by omega), hpk] at cZ
      have fZ := hpart.free (i + ys.length)
      have hmN : (ys.length : Int) < (N : Int) := by omega
      have hset := hpart.set (i + ys.length) (by omega) ((p - o % 4294967296) % 4294967296)
      have eL : takeL (sub zs i N) ys q = (takeTo (sub zs i N) ys q ys.length).1 ++ [(p - o % 4294967296) % 4294967296] := by unfold takeL; rw [hpk2, hok]
      have eB : takeB (sub zs i N) ys q = decide (p < o) := by unfold takeB; rw [hpk2, hok]
      rw [show i + ys.length = i + (takeTo (sub zs i N) ys q ys.length).1.length by omega, putAt_snoc _ _ _ _ (by omega), hll, ← eL] at hset
      have e2 : (p - o % 4294967296) % 4294967296 = (p - o) % 4294967296 := by omega
      rw [e2] at hset
      have HB := Lib.hid eB
      have hsv : ∀ v, v = (p - o) % 4294967296 → Part (wr.setCell ⟨g, i + ys.length, none⟩ (.int .u32 v)) g cap (putAt zs i (takeL (sub zs i N) ys q)) ∧ Only g w (wr.setCell ⟨g, i + ys.length, none⟩ (.int .u32 v)) := fun v hv => by rw [hv]; exact ⟨hset, ho.trans (Only.set _ _ _ _)⟩
      have HSET := Lib.hid hsv
      clear hsv
      clear hpart cy hpk hpk2 e2 hset hok hll hpl hN eL eB ho
      go_wp2
      go_ret
      exact ⟨by rw [HB.out]; rfl, HSET.out _ (by omega)⟩

/-- what giveBack leaves -/
def giveL (ps ys : List Int) : List Int := (addTo ps ys ys.length).1 ++ [(ps.getD ys.length 0 + (addTo ps ys ys.length).2) % 4294967296]
theorem giveL_length (ps ys : List Int) : (giveL ps ys).length = ys.length + 1 := by simp [giveL, addTo_length]
theorem giveL_wf (ps ys : List Int) : Wf (giveL ps ys) := (addTo_wf _ _ _).append (Wf.cons (by omega) Wf.nil)
theorem val_giveL {ps ys : List Int} (hp : Wf ps) (hy : Wf ys) (hl : ps.length = ys.length + 1) :
    val (giveL ps ys) = val ps + val ys ∨ val (giveL ps ys) = val ps + val ys - 4294967296 ^ (ys.length + 1) := by
  have h1 := val_addTo ps ys ys.length
  have h2 := addTo_carry ps ys hp hy ys.length
  have h3 := val_take_succ ps ys.length
  rw [← hl, List.take_of_length_le (Nat.le_refl _)] at h3
  rw [List.take_of_length_le (Nat.le_refl ys.length)] at h1
  have hb := hp.getD ys.length
  unfold giveL
  rw [val_append, addTo_length]
  simp only [val, Int.mul_zero, Int.add_zero]
  generalize (addTo ps ys ys.length).2 = o at *
  generalize ps.getD ys.length 0 = p at *
  rw [Int.pow_succ]
  generalize (4294967296 : Int) ^ ys.length = P at *
  rw [h3]
  by_cases h : p + o < 4294967296
  · left
    have e : P * ((p + o) % 4294967296) = P * p + P * o := by rw [Int.emod_eq_of_lt (by omega) h, Int.mul_add]
    omega
  · right
    have e1 : (p + o) % 4294967296 = p + o - 4294967296 := by omega
    have e : P * ((p + o) % 4294967296) = P * p + P * o - P * 4294967296 := by rw [e1, Int.mul_sub, Int.mul_add]
    omega

set_option maxRecDepth 100000 in
set_option maxHeartbeats 4000000 in
theorem give_any {g cap capp i : Nat} {bg bo capb : Nat} {zs ys : List Int} {w : World} (hz : Part w g cap zs) (hwz : Wf zs) (hwy : Wf ys) (hi : i + ys.length < zs.length) (hm : zs.length ≤ 1099511627776)
    (cy : ∀ j, j < ys.length → w.cell? ⟨bg, bo + j, none⟩ = some (.int .u32 (ys.getD j 0))) (hbg : bg ≠ g) :
    Calls Try.prog 69 #[.slice (some ⟨g, i, none⟩) (ys.length + 1 : Nat) capp, .slice (some ⟨bg, bo, none⟩) ys.length capb] w fun e w' =>
      e = .returned (.tuple #[]) ∧ Part w' g cap (putAt zs i (giveL (sub zs i (ys.length + 1)) ys)) ∧ Only g w w' := by
  obtain ⟨N, hN⟩ : ∃ N, ys.length + 1 = N := ⟨_, rfl⟩
  rw [hN]
  have hws := sub_wf i N hwz
  go_enter Try.func69, Try.ntmps69
  go_wp2
  go_loopw [4, 5, 6, 9] (fun o _ _ k wr => ∃ k' : Nat, k' ≤ ys.length ∧ k = .int .i64 k' ∧ o = .int .u64 (addTo (sub zs i N) ys k').2 ∧ Part wr g cap (putAt zs i (addTo (sub zs i N) ys k').1) ∧ Only g w wr) (fun _ _ _ k _ => ys.length - (intOf k).toNat)
  case atStart => exact ⟨0, Nat.zero_le _, rfl, rfl, by simp only [addTo, putAt_nil]; exact hz, Only.refl _ _⟩
  case round =>
    obtain ⟨k, hk, rfl, rfl, hpart, ho⟩ := hrel
    obtain ⟨o, hok⟩ : ∃ o, (addTo (sub zs i N) ys k).2 = o := ⟨_, rfl⟩
    obtain ⟨bo0, bo1⟩ : 0 ≤ o ∧ o ≤ 1 := hok ▸ addTo_carry (sub zs i N) ys hws hwy k
    have hll := addTo_length (sub zs i N) ys k
    rw [hok]
    obtain ⟨p, hpk⟩ : ∃ p, zs.getD (i + k) 0 = p := ⟨_, rfl⟩
    have hpk2 : (sub zs i N).getD k 0 = p := by rw [← hpk]; exact sub_getD _ _ _ _ (by omega)
    obtain ⟨bp0, bp1⟩ : 0 ≤ p ∧ p < 4294967296 := hpk ▸ hwz.getD (i + k)
    have hpl : (putAt zs i (addTo (sub zs i N) ys k).1).length = zs.length := putAt_length _ _ _ (by omega)
    have cZ := hpart.cell (i + k) (by omega)
    rw [putAt_far _ _ _ _ (by omega) (by omega), hpk] at cZ
    have fZ := hpart.free (i + k)
    have hkN : (k : Int) < (N : Int) := by omega
    by_cases hlt : k < ys.length
    · obtain ⟨y, hyk⟩ : ∃ y, ys.getD k 0 = y := ⟨_, rfl⟩
      obtain ⟨by0, by1⟩ : 0 ≤ y ∧ y < 4294967296 := hyk ▸ hwy.getD k
      have cY := (ho.cell (p := ⟨bg, bo + k, none⟩) hbg).trans (cy k hlt)
      rw [hyk] at cY
      have hset := hpart.set (i + k) (by omega) ((o + p + y) % 4294967296)
      have e1 : addTo (sub zs i N) ys (k + 1) = ((addTo (sub zs i N) ys k).1 ++ [(o + p + y) % 4294967296], (o + p + y) / 4294967296) := by
        simp only [addTo]; rw [hpk2, hyk, hok]
      rw [show i + k = i + (addTo (sub zs i N) ys k).1.length by omega, putAt_snoc _ _ _ _ (by omega), hll] at hset
      have hsv : ∀ v, v = (o + p + y) % 4294967296 → Part (wr.setCell ⟨g, i + k, none⟩ (.int .u32 v)) g cap (putAt zs i ((addTo (sub zs i N) ys k).1 ++ [(o + p + y) % 4294967296])) ∧ Only g w (wr.setCell ⟨g, i + k, none⟩ (.int .u32 v)) := fun v hv => by rw [hv]; exact ⟨hset, ho.trans (Only.set _ _ _ _)⟩
      have HSET := Lib.hid hsv
      have H1 := Lib.hid e1
      clear hsv hpart cy hyk hpk hpk2 e1 hset hok hll hpl hN ho
      go_wp2
      go_roundw
      case rel => exact ⟨k + 1, by omega, by go_num, by rw [H1.out]; congr 1; omega, by rw [H1.out]; exact (HSET.out _ (by omega)).1, (HSET.out _ (by omega)).2⟩
      case measure => simp [intOf]; omega
    · obtain rfl : k = ys.length := by omega
      have hset := hpart.set (i + ys.length) (by omega) ((p + o) % 4294967296)
      have eL : giveL (sub zs i N) ys = (addTo (sub zs i N) ys ys.length).1 ++ [(p + o) % 4294967296] := by unfold giveL; rw [hpk2, hok]
      rw [show i + ys.length = i + (addTo (sub zs i N) ys ys.length).1.length by omega, putAt_snoc _ _ _ _ (by omega), hll, ← eL] at hset
      have hsv : ∀ v, v = (p + o) % 4294967296 → Part (wr.setCell ⟨g, i + ys.length, none⟩ (.int .u32 v)) g cap (putAt zs i (giveL (sub zs i N) ys)) ∧ Only g w (wr.setCell ⟨g, i + ys.length, none⟩ (.int .u32 v)) := fun v hv => by rw [hv]; exact ⟨hset, ho.trans (Only.set _ _ _ _)⟩
      have HSET := Lib.hid hsv
      clear hsv hpart cy hpk hpk2 hset hok hll hpl hN eL ho
      go_wp2
      go_end0
      exact ⟨rfl, HSET.out _ (by omega)⟩
end Go.Proofs.Ytdcdaielfkikhaa
