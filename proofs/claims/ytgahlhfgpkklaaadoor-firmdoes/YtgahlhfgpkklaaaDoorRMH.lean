/- The document: within, lesser, RampMay, RampSpeeds, RampTotal walked. -/
import Derived.Test.YtgahlhfgpkklaaaDoorRGH
namespace Go.Proofs.YtgahlhfgpkklaaaDoor
open Go.RowKit

theorem withinRef_any (x lo hi : Int) (w : World) :
    Calls Tryd.prog 27 #[.int .i64 x, .int .i64 lo, .int .i64 hi] w fun e w' => e = .returned (.bool (inR lo hi x)) ∧ w' = w := by
  by_cases h1 : lo ≤ x
  · by_cases h2 : x ≤ hi
    · go_enter Tryd.func27, Tryd.ntmps27
      go_wp2
      go_ret
      exact ⟨ret_bool (inR_yes h1 h2).symm, rfl⟩
    · go_enter Tryd.func27, Tryd.ntmps27
      go_wp2
      go_ret
      exact ⟨ret_bool (inR_no (by omega)).symm, rfl⟩
  · go_enter Tryd.func27, Tryd.ntmps27
    go_wp2
    go_ret
    exact ⟨ret_bool (inR_no (by omega)).symm, rfl⟩
theorem lesser_any (x y : Int) (w : World) :
    Calls Tryd.prog 58 #[.int .i64 x, .int .i64 y] w fun e w' => e = .returned (.int .i64 (min x y)) ∧ w' = w := by
  by_cases h : x < y
  · have HE : Hid (min x y = x) := by show _ = _; omega
    go_enter Tryd.func58, Tryd.ntmps58
    go_wp2
    go_ret
    exact ⟨ret_int HE.out.symm, rfl⟩
  · have HE : Hid (min x y = y) := by show _ = _; omega
    go_enter Tryd.func58, Tryd.ntmps58
    go_wp2
    go_ret
    exact ⟨ret_int HE.out.symm, rfl⟩
theorem rpOk_ref (r : Rp) : rpOk r = (inR 1 100000000 r.c && (inR 1 r.c r.m && (inR 1 r.m r.f && inR 0 100000 r.r))) := by
  rw [Bool.eq_iff_iff, rpOk_iff]
  simp only [Bool.and_eq_true, inR_iff]
  omega
set_option maxHeartbeats 1600000 in
theorem rampMay_any (r : Rp) (w : World) :
    Calls Tryd.prog 26 #[rv r] w fun e w' => e = .returned (.bool (rpOk r)) ∧ Below w.heap.size w w' := by
  have HC : Hid (∀ x lo hi W, Calls Tryd.prog 27 #[.int .i64 x, .int .i64 lo, .int .i64 hi] W fun e w' => e = .returned (.bool (inR lo hi x)) ∧ w' = W) := withinRef_any
  have HE : Hid (rpOk r = (inR 1 100000000 r.c && (inR 1 r.c r.m && (inR 1 r.m r.f && inR 0 100000 r.r)))) := rpOk_ref r
  have HB : Hid (Below w.heap.size w (w.alloc (ro r))) := (Below.refl _ _).alloc (Nat.le_refl _) _
  go_enter Tryd.func26, Tryd.ntmps26
  go_wp2_with fail
  refine Calls.mono (HC.out _ _ _ _) ?_
  rintro e w1 ⟨rfl, rfl⟩
  cases h1 : inR 1 100000000 r.c with
  | false =>
    rw [h1] at HE
    go_wp2
    go_ret
    exact ⟨ret_bool (by rw [HE.out]; rfl), HB.out⟩
  | true =>
    rw [h1] at HE
    go_wp2_with fail
    refine Calls.mono (HC.out _ _ _ _) ?_
    rintro e w1 ⟨rfl, rfl⟩
    cases h2 : inR 1 r.c r.m with
    | false =>
      rw [h2] at HE
      go_wp2
      go_ret
      exact ⟨ret_bool (by rw [HE.out]; rfl), HB.out⟩
    | true =>
      rw [h2] at HE
      go_wp2_with fail
      refine Calls.mono (HC.out _ _ _ _) ?_
      rintro e w1 ⟨rfl, rfl⟩
      cases h3 : inR 1 r.m r.f with
      | false =>
        rw [h3] at HE
        go_wp2
        go_ret
        exact ⟨ret_bool (by rw [HE.out]; rfl), HB.out⟩
      | true =>
        rw [h3] at HE
        go_wp2_with fail
        refine Calls.mono (HC.out _ _ _ _) ?_
        rintro e w1 ⟨rfl, rfl⟩
        go_wp2
        go_ret
        exact ⟨ret_bool (by rw [HE.out]; rfl), HB.out⟩
/-- The number that the document's answer carries from step to step. -/
def vR (r : Rp) : Nat → Int
  | 0 => r.f
  | k + 1 => if vR r k < r.m then vR r k + r.r else vR r k
theorem vR_is {r : Rp} (hr : rpOk r = true) (k : Nat) : (vR r k < r.m ∧ vR r k = r.f + r.r * k) ∨ (r.m ≤ vR r k ∧ r.m ≤ r.f + r.r * k) := by
  have h := rpOk_iff.1 hr
  induction k with
  | zero => simp [vR]; omega
  | succ k ih =>
    have e : r.r * ((k + 1 : Nat) : Int) = r.r * (k : Int) + r.r := by rw [Int.natCast_add, Int.mul_add]; simp
    rw [e]
    simp only [vR]
    rcases ih with ⟨h1, h2⟩ | ⟨h1, h2⟩
    · rw [if_pos h1]; omega
    · rw [if_neg (by omega)]; omega
theorem vR_min {r : Rp} (hr : rpOk r = true) (k : Nat) : min (vR r k) r.m = spA r k := by
  unfold spA
  rcases vR_is hr k with ⟨h1, h2⟩ | ⟨h1, h2⟩ <;> omega
theorem vR_bd {r : Rp} (hr : rpOk r = true) (k : Nat) : 1 ≤ vR r k ∧ vR r k ≤ 100100000 := by
  have h := rpOk_iff.1 hr
  induction k with
  | zero => simp only [vR]; omega
  | succ k ih =>
    simp only [vR]
    split <;> omega
theorem made_zero (n : Nat) : (madeCells (Value.int .i64 0).cells n).toList = (List.replicate n (0 : Int)).map (Value.int .i64) := by
  rw [List.map_replicate]
  refine List.ext_getElem (by simp [madeCells]) fun k h1 h2 => ?_
  simp [madeCells, Value.cells, Nat.mod_one]
/-- A made slice, full of zeros. -/
theorem make_full (n : Nat) (hn : n ≤ 20000) : ∃ cs : Array Value, cs.toList = (List.replicate n (0 : Int)).map (Value.int .i64) ∧ ∀ W : World, (Instr.makeSlice 76 (.int .i64 (n : Int)) (.int .i64 (n : Int))).run Tryd.prog W = .ok (.slice (some ⟨W.heap.size, 0, none⟩) n n) (W.alloc (.cells cs 3)) := by
  obtain ⟨i0, hi, hz0, hz1, hz2⟩ := info_parts infoI
  refine ⟨madeCells (Value.int .i64 0).cells (n * 1), by rw [Nat.mul_one]; exact made_zero n, fun W => ?_⟩
  have := run_make (P := Tryd.prog) W 76 3 i0 (.int .i64 0) Tryd.underlying76 hi hz0 .i64 .i64 n n (by omega) (by omega) (by rw [hz2]; omega) (by omega)
  rw [hz1] at this
  simpa using this
/-- What is set behind so many rounds. -/
def Set (r : Rp) (n k : Nat) (ys : List Int) : Prop := ys.length = n ∧ ∀ j (h : j < ys.length), j < k ∨ n ≤ j + k → ys[j]'h = spA r (min j (n - 1 - j))
theorem Set.next {r : Rp} {n k : Nat} {ys : List Int} (h : Set r n k ys) (hk : 2 * k < n) : Set r n (k + 1) ((ys.set k (spA r k)).set (n - 1 - k) (spA r k)) := by
  obtain ⟨h1, h2⟩ := h
  refine ⟨by simp [h1], fun j hj hc => ?_⟩
  have hj2 : j < ys.length := by simpa using hj
  rw [List.getElem_set]
  split
  · rename_i e; subst e; congr 1; omega
  · rw [List.getElem_set]
    split
    · rename_i e; subst e; congr 1; omega
    · exact h2 j hj2 (by omega)
theorem Set.all {r : Rp} {n k : Nat} {ys : List Int} (h : Set r n k ys) (hk : n ≤ 2 * k) : ys = speedsL r n := by
  refine List.ext_getElem (by rw [h.1, speedsL_length]) fun j h1 h2 => ?_
  rw [speedsL_at, h.2 j h1 (by omega)]
theorem map_at {ys : List Int} {k : Nat} (h : k < ys.length) : (ys.map (Value.int .i64))[k]? = some (.int .i64 (ys[k]'h)) := by
  rw [List.getElem?_map, List.getElem?_eq_getElem h]; rfl
theorem bk_new {cs : Array Value} {l : List Value} (h : cs.toList = l) (w : World) (t n : Nat) (hn : n = w.heap.size) : Bk n l (w.alloc (.cells cs t)) := by
  have : cs = l.toArray := by rw [← h]
  rw [this]
  exact Bk.new w l t n hn
/-- Between two rounds. -/
structure SpI (r : Rp) (n A G : Nat) (w : World) (k : Nat) (W : World) : Prop where
  set : ∃ ys, Set r n k ys ∧ Bk G (ys.map (Value.int .i64)) W
  a : Bk A (rcl r) W
  below : Below w.heap.size w W
set_option maxHeartbeats 6400000 in
set_option maxRecDepth 100000 in
theorem rampSpeeds_any (r : Rp) (n : Nat) (w : World) (hr : rpOk r = true) (hn : n ≤ 20000) :
    Calls Tryd.prog 43 #[rv r, .int .i64 (n : Int)] w fun e w' => ∃ G, e = .returned (.slice (some ⟨G, 0, none⟩) n n) ∧ w.heap.size ≤ G ∧ Ints (speedsL r n) G w' ∧ Below w.heap.size w w' := by
  obtain ⟨cs, hcs, hmk⟩ := make_full n hn
  have HR : Hid (rpOk r = true) := hr
  have HLE : Hid (∀ x y W, Calls Tryd.prog 58 #[.int .i64 x, .int .i64 y] W fun e w' => e = .returned (.int .i64 (min x y)) ∧ w' = W) := lesser_any
  obtain ⟨w1, hw1⟩ : ∃ x, x = (w.alloc (ro r)).alloc (.cells cs 3) := ⟨_, rfl⟩
  obtain ⟨G, hG⟩ : ∃ G, G = w.heap.size + 1 := ⟨_, rfl⟩
  have KG : Hid (Bk G ((List.replicate n (0 : Int)).map (Value.int .i64)) w1) := by show Bk _ _ _; rw [hw1]; exact bk_new hcs _ 3 G (by rw [hG]; simp)
  have KA : Hid (Bk w.heap.size (rcl r) w1) := by show Bk _ _ _; rw [hw1]; exact (Bk.new w (rcl r) 25 w.heap.size rfl).later ((Below.refl _ _).alloc (Nat.le_refl _) _)
  have HB1 : Hid (Below w.heap.size w w1) := by show Below _ _ _; rw [hw1]; exact ((Below.refl _ _).alloc (Nat.le_refl _) _).alloc (by simp) _
  clear hr hcs
  go_enter Tryd.func43, Tryd.ntmps43
  go_wp2_with fail
  rw [← hw1]
  simp only [← hG]
  have hGw : w.heap.size ≠ G := by omega
  have hGl0 : w.heap.size ≤ G := by omega
  clear hw1 hmk hG
  go_loopw [6, 7] (fun v i wr => ∃ k : Nat, 2 * k < n + 2 ∧ v = .int .i64 (vR r k) ∧ i = .int .i64 ((k : Nat) : Int) ∧ SpI r n w.heap.size G w k wr) (fun _ i _ => n + 2 - 2 * (intOf i).toNat)
  case atStart => exact ⟨0, by omega, rfl, rfl, ⟨_, ⟨by simp, fun j hj hc => by simp at hj; omega⟩, KG.out⟩, KA.out, HB1.out⟩
  case round =>
    obtain ⟨k, hk, rfl, rfl, ⟨ys, hy1, hy2⟩, ha, hb⟩ := hrel
    have HS : Hid (Set r n k ys) := hy1
    have HY : Hid (Bk G (ys.map (Value.int .i64)) wr) := hy2
    have HA : Hid (Bk w.heap.size (rcl r) wr) := ha
    have HB : Hid (Below w.heap.size w wr) := hb
    clear hy1 hy2 ha hb
    by_cases hlt : 2 * k < n
    · have hyl : ys.length = n := HS.out.1
      have hkl : k < ys.length := by omega
      obtain ⟨j, hj⟩ : ∃ j, j = n - 1 - k := ⟨_, rfl⟩
      have hjl : j < ys.length := by omega
      have hvb := vR_bd HR.out k
      have HV : Hid (vR r (k + 1) = if vR r k < r.m then vR r k + r.r else vR r k) := rfl
      have HM : Hid (min (vR r k) r.m = spA r k) := vR_min HR.out k
      obtain ⟨h1, h2, h3, h4, h5, h6⟩ := rpOk_iff.1 HR.out
      have cG := HY.out.c k (map_at hkl)
      have fG := HY.out.f k (map_at hkl)
      have a2 := HA.out.c 2 rfl
      have a3 := HA.out.c 3 rfl
      have hkn : k < n := by omega
      have hjn : j < n := by omega
      generalize vR r k = v at *
      obtain ⟨hv1, hv2⟩ := hvb
      generalize ys[k]'hkl = y0 at *
      go_wp2_with fail
      refine Calls.mono (HLE.out _ _ _) ?_
      rintro e w2 ⟨rfl, rfl⟩
      rw [HM.out]
      have HJ : Hid (j = n - 1 - k) := hj
      have hj2 : (n : Int) - 1 - (k : Int) = (j : Int) := by omega
      have HXX : Hid (SpI r n w.heap.size G w (k + 1) ((w2.setCell ⟨G, k, none⟩ (.int .i64 (spA r k))).setCell ⟨G, j, none⟩ (.int .i64 (spA r k)))) := by
        refine ⟨⟨_, HS.out.next hlt, ?_⟩, (HA.out.other (by omega) _ _).other (by omega) _ _, (HB.out.setCell (by show w.heap.size ≤ G; omega) _).setCell (by show w.heap.size ≤ G; omega) _⟩
        rw [List.map_set, List.map_set, ← HJ.out]
        exact (HY.out.put k _).put j _
      have hGl : G < w2.heap.size := HY.out.1
      have cJ := HY.out.c j (map_at hjl)
      have fJ := HY.out.f j (map_at hjl)
      generalize spA r k = x at *
      have hji : (j : Int) < (n : Int) := by omega
      clear hyl
      by_cases hjk : k = j
      · have HX : Hid (SpI r n w.heap.size G w (k + 1) ((w2.setCell ⟨G, k, none⟩ (.int .i64 x)).setCell ⟨G, k, none⟩ (.int .i64 x))) := by have := HXX.out; rw [← hjk] at this; exact this
        have hj3 : (n : Int) - 1 - (k : Int) = (k : Int) := by omega
        clear cJ fJ hj2 hj HXX HJ hjl hjn hji
        subst hjk
        by_cases hvm : v < r.m
        · have HV2 : Hid (vR r (k + 1) = v + r.r) := by show _ = _; rw [HV.out, if_pos hvm]
          go_wp2
          go_roundw
          case rel => exact ⟨k + 1, by omega, by rw [HV2.out], by go_num, HX.out⟩
          case measure => simp [intOf]; omega
        · have HV2 : Hid (vR r (k + 1) = v) := by show _ = _; rw [HV.out, if_neg hvm]
          go_wp2
          go_roundw
          case rel => exact ⟨k + 1, by omega, by rw [HV2.out], by go_num, HX.out⟩
          case measure => simp [intOf]; omega
      · have HX := HXX
        generalize ys[j]'hjl = y1 at *
        clear hj
        by_cases hvm : v < r.m
        · have HV2 : Hid (vR r (k + 1) = v + r.r) := by show _ = _; rw [HV.out, if_pos hvm]
          go_wp2
          go_roundw
          case rel => exact ⟨k + 1, by omega, by rw [HV2.out], by go_num, HX.out⟩
          case measure => simp [intOf]; omega
        · have HV2 : Hid (vR r (k + 1) = v) := by show _ = _; rw [HV.out, if_neg hvm]
          go_wp2
          go_roundw
          case rel => exact ⟨k + 1, by omega, by rw [HV2.out], by go_num, HX.out⟩
          case measure => simp [intOf]; omega
    · have HE : Hid (ys = speedsL r n) := HS.out.all (by omega)
      have hyl := HS.out.1
      have HIN : Hid (Ints (speedsL r n) G wr) := by
        refine ⟨HY.out.1, fun k hk => ?_⟩
        have hk2 : k < ys.length := by rw [HE.out]; exact hk
        have := HY.out.c k (map_at hk2)
        simp only [HE.out] at this
        exact this
      have HGG : Hid (w.heap.size ≤ G) := by show _ ≤ _; omega
      clear hyl
      go_wp2
      go_ret
      exact ⟨G, rfl, HGG.out, HIN.out, HB.out⟩
theorem timesL_at (r : Rp) (xs : List Int) {k : Nat} (h : k < (timesL r xs).length) : (timesL r xs)[k]'h = Int.tdiv r.c (xs[k]'(by rw [timesL_length] at h; exact h)) := by simp [timesL]
set_option maxHeartbeats 6400000 in
set_option maxRecDepth 100000 in
theorem rampTotal_any (r : Rp) (n : Nat) (w : World) (hr : rpOk r = true) (hn : n ≤ 20000) :
    Calls Tryd.prog 31 #[rv r, .int .i64 (n : Int)] w fun e w' => e = .returned (.int .i64 (totR r n)) ∧ Below w.heap.size w w' := by
  have HR : Hid (rpOk r = true) := hr
  have HS : Hid (∀ W, Calls Tryd.prog 43 #[rv r, .int .i64 (n : Int)] W fun e w' => ∃ G, e = .returned (.slice (some ⟨G, 0, none⟩) n n) ∧ W.heap.size ≤ G ∧ Ints (speedsL r n) G w' ∧ Below W.heap.size W w') := fun W => rampSpeeds_any r n W hr hn
  have HB0 : Hid (Below w.heap.size w (w.alloc (ro r))) := (Below.refl _ _).alloc (Nat.le_refl _) _
  have KA0 : Hid (Bk w.heap.size (rcl r) (w.alloc (ro r))) := Bk.new w (rcl r) 25 w.heap.size rfl
  have HT : Hid (totR r n = (timesL r (speedsL r n)).sum) := rfl
  clear hr
  go_enter Tryd.func31, Tryd.ntmps31
  go_wp2_with fail
  refine Calls.mono (HS.out _) ?_
  rintro e w1 ⟨G, rfl, hG, hI, hb1⟩
  have HB1 : Hid (Below w.heap.size w w1) := HB0.out.trans (hb1.mono HB0.out.size)
  have KA1 : Hid (Bk w.heap.size (rcl r) w1) := KA0.out.later hb1
  have HI : Hid (Ints (speedsL r n) G w1) := hI
  clear hb1 hI hG
  go_wp2
  go_loopw [6, 7] (fun s i wr => ∃ k : Nat, k ≤ n ∧ s = .int .i64 ((timesL r (speedsL r n)).take k).sum ∧ i = .int .i64 ((k : Nat) : Int) ∧ ∃ q, wr = w1.drewN q) (fun _ i _ => n - (intOf i).toNat)
  case atStart => exact ⟨0, Nat.zero_le _, rfl, rfl, 0, rfl⟩
  case round =>
    obtain ⟨k, hk, rfl, rfl, q, rfl⟩ := hrel
    by_cases hlt : k < n
    · have hkl : k < (speedsL r n).length := by rw [speedsL_length]; exact hlt
      have hkt : k < (timesL r (speedsL r n)).length := by rw [timesL_length]; exact hkl
      have hx := HI.out.2 k hkl
      have hx1 := speedsL_pos HR.out hn _ (List.getElem_mem hkl)
      have HE : Hid (((timesL r (speedsL r n)).take (k + 1)).sum = ((timesL r (speedsL r n)).take k).sum + Int.tdiv r.c ((speedsL r n)[k]'hkl)) := by show _ = _; rw [sum_take hkt, timesL_at]
      have hs := sum_bd (xs := (timesL r (speedsL r n)).take k) (fun x hx => timesL_bd HR.out (speedsL_pos HR.out hn) x (List.mem_of_mem_take hx))
      have hsl : ((timesL r (speedsL r n)).take k).length ≤ 20000 := by rw [List.length_take, timesL_length, speedsL_length]; omega
      generalize (speedsL r n)[k]'hkl = x at *
      generalize ((timesL r (speedsL r n)).take k).sum = s at *
      have hd := tdiv_bd (c := r.c) (x := x) (by have := rpOk_iff.1 HR.out; omega) hx1
      have hc := rpOk_iff.1 HR.out
      have hc0 : 0 ≤ r.c := by omega
      have hc1 : r.c ≤ 100000000 := by omega
      have hs0 : 0 ≤ s := hs.1
      have hs1 : s ≤ 2000000000000 := by omega
      have hx0 : x ≠ 0 := by omega
      have a0 := KA1.out.c 0 rfl
      have HTD : Hid (Int.tdiv r.c x = r.c / x) := Int.tdiv_eq_ediv_of_nonneg (by omega)
      obtain ⟨hd0, hd1⟩ := hd
      rw [HTD.out] at hd0 hd1
      clear hs hsl hc
      go_wp2_with fail
      go_big_quiet (fail)
      go_wp2
      go_roundw
      case rel => exact ⟨k + 1, by omega, by rw [HE.out, HTD.out], by go_num, q + nq, by first | rfl | simp⟩
      case measure => simp [intOf]; omega
    · have HE : Hid (((timesL r (speedsL r n)).take k).sum = totR r n) := by show _ = _; rw [HT.out, List.take_of_length_le (by rw [timesL_length, speedsL_length]; omega)]
      have HBQ : Hid (Below w.heap.size w (w1.drewN q)) := below_drewN HB1.out q
      generalize ((timesL r (speedsL r n)).take k).sum = s at *
      go_wp2
      go_ret
      exact ⟨ret_int HE.out, HBQ.out⟩
end Go.Proofs.YtgahlhfgpkklaaaDoor
