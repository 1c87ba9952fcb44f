/- The order of places and of pairs. -/
import Derived.Test.YtgbnjgenopdmfaaLH
namespace Go.Proofs.Ytgbnjgenopdmfaa
open Go.RowKit

/-- The first number that is not 0. -/
def orL : List Int → Int
  | [] => 0
  | n :: l => if n = 0 then orL l else n
theorem orL_skip : ∀ {a l : List Int}, (∀ n ∈ a, n = 0) → orL (a ++ l) = orL l
  | [], _, _ => rfl
  | n :: a, l, h => by
    simp only [List.cons_append, orL]
    rw [if_pos (h n (by simp)), orL_skip fun c hc => h c (by simp [hc])]
theorem orL_at {l : List Int} {k : Nat} (h : k < l.length) (ha : ∀ n ∈ l.take k, n = 0) (hb : l[k]'h ≠ 0) : orL l = l[k]'h := by
  have e : l = l.take k ++ l[k]'h :: l.drop (k + 1) := by rw [← List.drop_eq_getElem_cons h, List.take_append_drop]
  conv => lhs; rw [e]
  rw [orL_skip ha]
  simp only [orL]; rw [if_neg hb]
theorem orL_zero {l : List Int} (ha : ∀ n ∈ l, n = 0) : orL l = 0 := by
  have := orL_skip (l := []) ha
  simpa [orL] using this
/-- A slice of some numbers. -/
def IsInts (xs : List Int) (v : Value) (w : World) : Prop := ∃ b, v = .slice (some ⟨b, 0, none⟩) xs.length xs.length ∧ ∀ k, k < xs.length → w.cell? ⟨b, k, none⟩ = some (.int .i64 (xs.getD k 0))
theorem IsInts.later {xs : List Int} {v : Value} {w w' : World} (h : IsInts xs v w) (hb : Below w.heap.size w w') : IsInts xs v w' := by
  obtain ⟨b, rfl, hc⟩ := h
  exact ⟨b, rfl, fun k hk => cell_later hb (hc k hk)⟩
theorem new_three (x y z : Int) (w : World) (t : Nat) : IsInts [x, y, z] (.slice (some ⟨w.heap.size, 0, none⟩) 3 3) (w.alloc (.cells #[.int .i64 x, .int .i64 y, .int .i64 z] t)) :=
  ⟨_, rfl, fun k hk => by
    rcases (show k = 0 ∨ k = 1 ∨ k = 2 by simp at hk; omega) with e | e | e
    all_goals (subst e; simp [go_sem])⟩
theorem new_two2 (x y : Int) (w : World) (t : Nat) : IsInts [x, y] (.slice (some ⟨w.heap.size, 0, none⟩) 2 2) (w.alloc (.cells #[.int .i64 x, .int .i64 y] t)) :=
  ⟨w.heap.size, rfl, fun k hk => by
    match k, hk with
    | 0, _ => go_simp
    | 1, _ => go_simp⟩
def cmpI (x y : Int) : Int := if x < y then -1 else if y < x then 1 else 0
theorem isNaN_any (x : Int) (w : World) : Calls Try.prog 48 #[.int .i64 x] w fun e w' => e = .returned (.bool false) ∧ w' = w := by
  go_enter Try.func48, Try.ntmps48
  go_wp2
  go_ret
  exact ⟨rfl, rfl⟩
set_option maxHeartbeats 1600000 in
theorem compare_any (x y : Int) (w : World) : Calls Try.prog 31 #[.int .i64 x, .int .i64 y] w fun e w' => e = .returned (.int .i64 (cmpI x y)) ∧ w' = w := by
  by_cases h : x < y
  · have HR : Hid (cmpI x y = -1) := if_pos h
    go_enter Try.func31, Try.ntmps31
    go_wp2_with fail
    refine (isNaN_any x _).mono ?_
    rintro e w1 ⟨rfl, rfl⟩
    go_wp2_with fail
    refine (isNaN_any y _).mono ?_
    rintro e w1 ⟨rfl, rfl⟩
    go_wp2
    go_ret
    exact ⟨ret_int HR.out.symm, rfl⟩
  · by_cases h2 : y < x
    · have HR : Hid (cmpI x y = 1) := by show cmpI x y = 1; rw [cmpI, if_neg h, if_pos h2]
      go_enter Try.func31, Try.ntmps31
      go_wp2_with fail
      refine (isNaN_any x _).mono ?_
      rintro e w1 ⟨rfl, rfl⟩
      go_wp2_with fail
      refine (isNaN_any y _).mono ?_
      rintro e w1 ⟨rfl, rfl⟩
      go_wp2
      go_ret
      exact ⟨ret_int HR.out.symm, rfl⟩
    · have HR : Hid (cmpI x y = 0) := by show cmpI x y = 0; rw [cmpI, if_neg h, if_neg h2]
      go_enter Try.func31, Try.ntmps31
      go_wp2_with fail
      refine (isNaN_any x _).mono ?_
      rintro e w1 ⟨rfl, rfl⟩
      go_wp2_with fail
      refine (isNaN_any y _).mono ?_
      rintro e w1 ⟨rfl, rfl⟩
      go_wp2
      go_ret
      exact ⟨ret_int HR.out.symm, rfl⟩
theorem compare_r (x y r : Int) (h : cmpI x y = r) (w : World) : Calls Try.prog 31 #[.int .i64 x, .int .i64 y] w fun e w' => e = .returned (.int .i64 r) ∧ w' = w := by
  rw [← h]; exact compare_any x y w
set_option maxHeartbeats 1600000 in
theorem cmpOrI_any (b cap : Nat) (xs : List Int) (w : World) (hl : xs.length ≤ 100) (hc : ∀ k (h : k < xs.length), w.cell? ⟨b, k, none⟩ = some (.int .i64 (xs[k]'h))) :
    Calls Try.prog 27 #[.slice (some ⟨b, 0, none⟩) xs.length cap] w fun e w' => e = .returned (.int .i64 (orL xs)) ∧ w' = w := by
  have HC : Hid (∀ k (h : k < xs.length), w.cell? ⟨b, k, none⟩ = some (.int .i64 (xs[k]'h))) := hc
  clear hc
  go_enter Try.func27, Try.ntmps27
  go_wp2
  go_loopw [5, 8] (fun _ i wr => ∃ k : Nat, k ≤ xs.length ∧ i = .int .i64 k ∧ (∀ n ∈ xs.take k, n = 0) ∧ wr = w) (fun _ i _ => xs.length - (intOf i).toNat)
  case atStart => exact ⟨0, Nat.zero_le _, rfl, (fun f hf => by simp at hf), rfl⟩
  case round =>
    obtain ⟨k, hk, rfl, hok, rfl⟩ := hrel
    have HO : Hid (∀ n ∈ xs.take k, n = 0) := hok
    clear hok
    by_cases hlt : k < xs.length
    · have c0 := HC.out k hlt
      have HHit : Hid (xs[k]'hlt ≠ 0 → orL xs = xs[k]'hlt) := orL_at hlt HO.out
      have HMiss : Hid (xs[k]'hlt = 0 → ∀ n ∈ xs.take (k + 1), n = 0) := fun h n hn => by
        rw [List.take_succ_eq_append_getElem hlt] at hn
        rcases List.mem_append.1 hn with hn | hn
        · exact HO.out n hn
        · simp at hn; rw [hn]; exact h
      generalize xs[k]'hlt = a at *
      by_cases ha : a = 0
      · have hne : (a != 0) = false := by simp [ha]
        have HM := (show Hid _ from HMiss.out ha)
        clear ha
        go_wp2
        go_roundw
        case rel => exact ⟨k + 1, by omega, by go_num, HM.out, by trivial⟩
        case measure => simp [intOf]; omega
      · have hne : (a != 0) = true := by simp [ha]
        have HM := (show Hid _ from HHit.out ha)
        clear ha
        go_wp2
        go_ret
        exact ⟨ret_int HM.out.symm, rfl⟩
    · go_wp2
      go_ret
      exact ⟨ret_int (orL_zero fun n hn => HO.out n (by rw [List.take_of_length_le (by omega)]; exact hn)).symm, rfl⟩

theorem cmpOrI_is (xs : List Int) (r : Int) (hr : orL xs = r) (v : Value) (w : World) (hl : xs.length ≤ 100) (h : IsInts xs v w) :
    Calls Try.prog 27 #[v] w fun e w' => e = .returned (.int .i64 r) ∧ w' = w := by
  subst hr
  obtain ⟨b, rfl, hc⟩ := h
  refine cmpOrI_any b xs.length xs w hl fun k hk => ?_
  rw [hc k hk, List.getD_eq_getElem?_getD, List.getElem?_eq_getElem hk]; rfl
/-- How two places compare. -/
def cmpP (p q : Plc) : Int := orL [cmpI p.1 q.1, cmpI p.2.2 q.2.2, cmpI p.2.1 q.2.1]
theorem cmpI_lt {x y : Int} (h : x < y) : cmpI x y = -1 := if_pos h
theorem cmpI_eq (x : Int) : cmpI x x = 0 := by simp [cmpI]
theorem cmpI_gt {x y : Int} (h : y < x) : cmpI x y = 1 := by rw [cmpI, if_neg (by omega), if_pos h]
theorem cmpP_lt (p q : Plc) : decide (cmpP p q < 0) = pltB p q := by
  rw [Bool.eq_iff_iff, plt_iff, decide_eq_true_eq]
  unfold cmpP
  rcases Int.lt_trichotomy p.1 q.1 with h | h | h
  · rw [cmpI_lt h]; simp [orL]; omega
  · rw [h, cmpI_eq]
    rcases Int.lt_trichotomy p.2.2 q.2.2 with h2 | h2 | h2
    · rw [cmpI_lt h2]; simp [orL]; omega
    · rw [h2, cmpI_eq]
      rcases Int.lt_trichotomy p.2.1 q.2.1 with h3 | h3 | h3
      · rw [cmpI_lt h3]; simp [orL]; omega
      · rw [h3, cmpI_eq]; simp [orL]
      · rw [cmpI_gt h3]; simp [orL]; omega
    · rw [cmpI_gt h2]; simp [orL]; omega
  · rw [cmpI_gt h]; simp [orL]; omega
abbrev pcl (p : Plc) : List Value := [.int .i64 p.1, .int .i64 p.2.1, .int .i64 p.2.2]
def bpV (P Q : Nat) (xp yp : Plc) (a b c r : Int) (i : Nat) (l : List Value) (w : World) : Prop :=
  match i, l with
  | 0, [v] => v = .pointer (some ⟨P, 0, none⟩)
  | 1, [v] => v = .int .i64 xp.1
  | 2, [v] => v = .pointer (some ⟨Q, 0, none⟩)
  | 3, [v] => v = .int .i64 yp.1
  | 4, [v] => v = .int .i64 a
  | 5, [v] => v = .pointer (some ⟨P, 1, none⟩)
  | 6, [v] => v = .pointer (some ⟨P, 2, none⟩)
  | 7, [v] => v = .int .i64 xp.2.2
  | 8, [v] => v = .pointer (some ⟨Q, 1, none⟩)
  | 9, [v] => v = .pointer (some ⟨Q, 2, none⟩)
  | 10, [v] => v = .int .i64 yp.2.2
  | 11, [v] => v = .int .i64 b
  | 12, [v] => v = .pointer (some ⟨P, 1, none⟩)
  | 13, [v] => v = .pointer (some ⟨P, 1, none⟩)
  | 14, [v] => v = .int .i64 xp.2.1
  | 15, [v] => v = .pointer (some ⟨Q, 1, none⟩)
  | 16, [v] => v = .pointer (some ⟨Q, 1, none⟩)
  | 17, [v] => v = .int .i64 yp.2.1
  | 18, [v] => v = .int .i64 c
  | 19, [v] => IsInts [a, b, c] v w
  | 20, [v] => v = .int .i64 r
  | 21, [v] => v = .int .i64 r
  | _, _ => True
theorem bpV_mono (P Q : Nat) (xp yp : Plc) (a b c r : Int) (i : Nat) (l : List Value) (w w' : World) (h : bpV P Q xp yp a b c r i l w) (hb : Below w.heap.size w w') : bpV P Q xp yp a b c r i l w' := by
  unfold bpV at h ⊢
  split <;> simp only [] at h <;> first | exact h | exact h.later hb
set_option maxHeartbeats 6400000 in
set_option maxRecDepth 100000 in
theorem byPlace_any (xp yp : Plc) (W : World) : Calls Try.prog 19 #[plv xp, plv yp] W fun e w' => e = .returned (.int .i64 (cmpP xp yp)) ∧ Below W.heap.size W w' ∧ W.drawn ≤ w'.drawn := by
  obtain ⟨a, ha⟩ : ∃ a, cmpI xp.1 yp.1 = a := ⟨_, rfl⟩
  obtain ⟨b, hbb⟩ : ∃ b, cmpI xp.2.2 yp.2.2 = b := ⟨_, rfl⟩
  obtain ⟨c, hc⟩ : ∃ c, cmpI xp.2.1 yp.2.1 = c := ⟨_, rfl⟩
  obtain ⟨r, hr⟩ : ∃ r, orL [a, b, c] = r := ⟨_, rfl⟩
  have HA : Hid (cmpI xp.1 yp.1 = a) := ha
  have HB : Hid (cmpI xp.2.2 yp.2.2 = b) := hbb
  have HC : Hid (cmpI xp.2.1 yp.2.1 = c) := hc
  have HR : Hid (orL [a, b, c] = r) := hr
  have HQ : Hid (cmpP xp yp = r) := by show _ = _; rw [cmpP, ha, hbb, hc, hr]
  clear ha hbb hc hr
  obtain ⟨w0, hw0⟩ : ∃ w0, w0 = (W.alloc (pobj xp)).alloc (pobj yp) := ⟨_, rfl⟩
  have HW0 : Hid (w0 = (W.alloc (pobj xp)).alloc (pobj yp)) := hw0
  have HB0 : Hid (Below W.heap.size W w0) := by show Below _ _ _; rw [hw0]; exact ((Below.refl _ _).alloc (Nat.le_refl _) _).alloc (by simp) _
  have HD0 : Hid (W.drawn = w0.drawn) := by show _ = _; rw [hw0]; rfl
  have KP : Hid (Bk W.heap.size (pcl xp) w0) := by
    show Bk _ _ _; rw [hw0]; exact (Bk.new W (pcl xp) 26 W.heap.size rfl).later ((Below.refl _ _).alloc (Nat.le_refl _) _)
  have KQ : Hid (Bk (W.heap.size + 1) (pcl yp) w0) := by
    show Bk _ _ _; rw [hw0]; exact Bk.new (W.alloc _) (pcl yp) 26 (W.heap.size + 1) (by simp)
  clear hw0
  go_enter Try.func19, Try.ntmps19
  go_wp2_with fail
  rw [← HW0.out]
  refine region_allD [false, false, false, false, true, true, true, true, true, true, true, true, true, true, true, true, true, true, true, true, true, true, true, true, true, true]
    [([], [5], none), ([0], [6], none), ([], [7], none), ([2], [8], none), ([1, 3], [9], none), ([], [10], none), ([5], [11], none), ([6], [12], none), ([], [13], none), ([8], [14], none), ([9], [15], none), ([7, 10], [16], none), ([], [17], none), ([12], [18], none), ([13], [19], none), ([], [20], none), ([15], [21], none), ([16], [22], none), ([14, 17], [23], none), ([4, 11, 18], [24], none), ([19], [25], none), ([20], [4], none)]
    (bpV W.heap.size (W.heap.size + 1) xp yp a b c r) (fun _ w => w0.drawn ≤ w.drawn) (by kernel_rfl) (by kernel_rfl) (Nat.le_succ _) ?_ ?_
  · refine ⟨?_, ?_, ?_, ?_, ?_, ?_, ?_, ?_, ?_, ?_, ?_, ?_, ?_, ?_, ?_, ?_, ?_, ?_, ?_, ?_, ?_, ?_, trivial⟩
    · intro f w1 hb hJ _ K hK
      simp only [over, overL, Nat.reduceAdd]
      go_simp
      exact hK _ _ ⟨_, by simp only [over, overL, Nat.reduceAdd]; rfl, rfl, hb, hJ, fun _ h => h⟩
    · intro f w1 hb hJ ⟨h5, _⟩ K hK
      replace h5 : f 5 = _ := h5
      have q0 := (KP.out.later hb).c 0 rfl
      simp only [over, overL, Nat.reduceAdd, h5]
      go_simp
      exact hK _ _ ⟨_, by simp only [over, overL, Nat.reduceAdd, h5]; rfl, rfl, hb, hJ, fun _ h => h⟩
    · intro f w1 hb hJ _ K hK
      simp only [over, overL, Nat.reduceAdd]
      go_simp
      exact hK _ _ ⟨_, by simp only [over, overL, Nat.reduceAdd]; rfl, rfl, hb, hJ, fun _ h => h⟩
    · intro f w1 hb hJ ⟨h7, _⟩ K hK
      replace h7 : f 7 = _ := h7
      have q0 := (KQ.out.later hb).c 0 rfl
      simp only [over, overL, Nat.reduceAdd, h7]
      go_simp
      exact hK _ _ ⟨_, by simp only [over, overL, Nat.reduceAdd, h7]; rfl, rfl, hb, hJ, fun _ h => h⟩
    · intro f w1 hb hJ ⟨h6, h8, _⟩ K hK
      replace h6 : f 6 = _ := h6
      replace h8 : f 8 = _ := h8
      simp only [over, overL, Nat.reduceAdd, h6, h8]
      go_simp
      refine (compare_r xp.1 yp.1 a (by exact HA.out) w1).mono ?_
      rintro e w2 ⟨rfl, rfl⟩
      exact hK _ _ ⟨_, by simp only [over, overL, Nat.reduceAdd, h6, h8]; rfl, rfl, hb, hJ, fun _ h => h⟩
    · intro f w1 hb hJ _ K hK
      simp only [over, overL, Nat.reduceAdd]
      go_simp
      exact hK _ _ ⟨_, by simp only [over, overL, Nat.reduceAdd]; rfl, rfl, hb, hJ, fun _ h => h⟩
    · intro f w1 hb hJ ⟨h10, _⟩ K hK
      replace h10 : f 10 = _ := h10
      simp only [over, overL, Nat.reduceAdd, h10]
      go_simp
      exact hK _ _ ⟨_, by simp only [over, overL, Nat.reduceAdd, h10]; rfl, rfl, hb, hJ, fun _ h => h⟩
    · intro f w1 hb hJ ⟨h11, _⟩ K hK
      replace h11 : f 11 = _ := h11
      have q2 := (KP.out.later hb).c 2 rfl
      simp only [over, overL, Nat.reduceAdd, h11]
      go_simp
      exact hK _ _ ⟨_, by simp only [over, overL, Nat.reduceAdd, h11]; rfl, rfl, hb, hJ, fun _ h => h⟩
    · intro f w1 hb hJ _ K hK
      simp only [over, overL, Nat.reduceAdd]
      go_simp
      exact hK _ _ ⟨_, by simp only [over, overL, Nat.reduceAdd]; rfl, rfl, hb, hJ, fun _ h => h⟩
    · intro f w1 hb hJ ⟨h13, _⟩ K hK
      replace h13 : f 13 = _ := h13
      simp only [over, overL, Nat.reduceAdd, h13]
      go_simp
      exact hK _ _ ⟨_, by simp only [over, overL, Nat.reduceAdd, h13]; rfl, rfl, hb, hJ, fun _ h => h⟩
    · intro f w1 hb hJ ⟨h14, _⟩ K hK
      replace h14 : f 14 = _ := h14
      have q2 := (KQ.out.later hb).c 2 rfl
      simp only [over, overL, Nat.reduceAdd, h14]
      go_simp
      exact hK _ _ ⟨_, by simp only [over, overL, Nat.reduceAdd, h14]; rfl, rfl, hb, hJ, fun _ h => h⟩
    · intro f w1 hb hJ ⟨h12, h15, _⟩ K hK
      replace h12 : f 12 = _ := h12
      replace h15 : f 15 = _ := h15
      simp only [over, overL, Nat.reduceAdd, h12, h15]
      go_simp
      refine (compare_r xp.2.2 yp.2.2 b (by exact HB.out) w1).mono ?_
      rintro e w2 ⟨rfl, rfl⟩
      exact hK _ _ ⟨_, by simp only [over, overL, Nat.reduceAdd, h12, h15]; rfl, rfl, hb, hJ, fun _ h => h⟩
    · intro f w1 hb hJ _ K hK
      simp only [over, overL, Nat.reduceAdd]
      go_simp
      exact hK _ _ ⟨_, by simp only [over, overL, Nat.reduceAdd]; rfl, rfl, hb, hJ, fun _ h => h⟩
    · intro f w1 hb hJ ⟨h17, _⟩ K hK
      replace h17 : f 17 = _ := h17
      simp only [over, overL, Nat.reduceAdd, h17]
      go_simp
      exact hK _ _ ⟨_, by simp only [over, overL, Nat.reduceAdd, h17]; rfl, rfl, hb, hJ, fun _ h => h⟩
    · intro f w1 hb hJ ⟨h18, _⟩ K hK
      replace h18 : f 18 = _ := h18
      have q1 := (KP.out.later hb).c 1 rfl
      simp only [over, overL, Nat.reduceAdd, h18]
      go_simp
      exact hK _ _ ⟨_, by simp only [over, overL, Nat.reduceAdd, h18]; rfl, rfl, hb, hJ, fun _ h => h⟩
    · intro f w1 hb hJ _ K hK
      simp only [over, overL, Nat.reduceAdd]
      go_simp
      exact hK _ _ ⟨_, by simp only [over, overL, Nat.reduceAdd]; rfl, rfl, hb, hJ, fun _ h => h⟩
    · intro f w1 hb hJ ⟨h20, _⟩ K hK
      replace h20 : f 20 = _ := h20
      simp only [over, overL, Nat.reduceAdd, h20]
      go_simp
      exact hK _ _ ⟨_, by simp only [over, overL, Nat.reduceAdd, h20]; rfl, rfl, hb, hJ, fun _ h => h⟩
    · intro f w1 hb hJ ⟨h21, _⟩ K hK
      replace h21 : f 21 = _ := h21
      have q1 := (KQ.out.later hb).c 1 rfl
      simp only [over, overL, Nat.reduceAdd, h21]
      go_simp
      exact hK _ _ ⟨_, by simp only [over, overL, Nat.reduceAdd, h21]; rfl, rfl, hb, hJ, fun _ h => h⟩
    · intro f w1 hb hJ ⟨h19, h22, _⟩ K hK
      replace h19 : f 19 = _ := h19
      replace h22 : f 22 = _ := h22
      simp only [over, overL, Nat.reduceAdd, h19, h22]
      go_simp
      refine (compare_r xp.2.1 yp.2.1 c (by exact HC.out) w1).mono ?_
      rintro e w2 ⟨rfl, rfl⟩
      exact hK _ _ ⟨_, by simp only [over, overL, Nat.reduceAdd, h19, h22]; rfl, rfl, hb, hJ, fun _ h => h⟩
    · intro f w1 hb hJ ⟨h9, h16, h23, _⟩ K hK
      replace h9 : f 9 = _ := h9
      replace h16 : f 16 = _ := h16
      replace h23 : f 23 = _ := h23
      simp only [over, overL, Nat.reduceAdd, h9, h16, h23]
      go_simp
      exact hK _ _ ⟨_, by simp only [over, overL, Nat.reduceAdd, h9, h16, h23]; rfl, new_three _ _ _ _ _, below_on hb ((Below.refl _ _).alloc (Nat.le_refl _) _), hJ, fun j h => bpV_mono W.heap.size (W.heap.size + 1) xp yp a b c r j _ _ _ h ((Below.refl _ _).alloc (Nat.le_refl _) _)⟩
    · intro f w1 hb hJ ⟨h24, _⟩ K hK
      replace h24 : IsInts [a, b, c] (f 24) w1 := h24
      simp only [over, overL, Nat.reduceAdd]
      go_simp
      refine (cmpOrI_is [a, b, c] r HR.out _ w1 (by simp) h24).mono ?_
      rintro e w2 ⟨rfl, rfl⟩
      exact hK _ _ ⟨_, by simp only [over, overL, Nat.reduceAdd]; rfl, rfl, hb, hJ, fun _ h => h⟩
    · intro f w1 hb hJ ⟨h25, _⟩ K hK
      replace h25 : f 25 = _ := h25
      simp only [over, overL, Nat.reduceAdd, h25]
      go_simp
      exact hK _ _ ⟨_, by simp only [over, overL, Nat.reduceAdd, h25]; rfl, rfl, hb, hJ, fun _ h => h⟩
  · intro f w1 hb hJ hv
    have h25 : f 25 = .int .i64 r := hv.2.2.2.2.2.2.2.2.2.2.2.2.2.2.2.2.2.2.2.2.1
    have h4 : f 4 = .int .i64 r := hv.2.2.2.2.2.2.2.2.2.2.2.2.2.2.2.2.2.2.2.2.2.1
    simp only [over, overL, Nat.reduceAdd, h25, h4]
    go_wp2
    go_ret
    exact ⟨ret_int HQ.out.symm, below_on HB0.out hb, by rw [HD0.out]; exact hJ⟩
theorem byPlace_r (xp yp : Plc) (r : Int) (h : cmpP xp yp = r) (W : World) : Calls Try.prog 19 #[plv xp, plv yp] W fun e w' => e = .returned (.int .i64 r) ∧ Below W.heap.size W w' ∧ W.drawn ≤ w'.drawn := by
  rw [← h]; exact byPlace_any xp yp W
/-- A pair, as it is handed over. -/
abbrev prl (x : Rt × Int) : List Value := [.int .i64 x.1.1.1, .int .i64 x.1.1.2.1, .int .i64 x.1.1.2.2, .int .i64 x.1.2.1, .int .i64 x.1.2.2.1, .int .i64 x.1.2.2.2, .int .i64 x.2]
abbrev prv (x : Rt × Int) : Value := .agg #[.int .i64 x.1.1.1, .int .i64 x.1.1.2.1, .int .i64 x.1.1.2.2, .int .i64 x.1.2.1, .int .i64 x.1.2.2.1, .int .i64 x.1.2.2.2, .int .i64 x.2]
abbrev probj (x : Rt × Int) : Obj := .cells #[.int .i64 x.1.1.1, .int .i64 x.1.1.2.1, .int .i64 x.1.1.2.2, .int .i64 x.1.2.1, .int .i64 x.1.2.2.1, .int .i64 x.1.2.2.2, .int .i64 x.2] 39
def cmpR (x y : Rt × Int) : Int := orL [cmpP x.1.1 y.1.1, cmpP x.1.2 y.1.2]
theorem cmpP_cases (p q : Plc) : (cmpP p q < 0 ∧ pltB p q = true) ∨ (cmpP p q = 0 ∧ p = q) ∨ (0 < cmpP p q ∧ pltB q p = true) := by
  have h1 := cmpP_lt p q
  by_cases hlt : pltB p q = true
  · rw [hlt] at h1; exact .inl ⟨by simpa using h1, hlt⟩
  · by_cases he : p = q
    · subst he
      exact .inr (.inl ⟨by simp [cmpP, cmpI_eq, orL], rfl⟩)
    · have hgt := (plt_total he).resolve_left hlt
      refine .inr (.inr ⟨?_, hgt⟩)
      rw [plt_iff] at hgt
      unfold cmpP
      rcases hgt with h | ⟨h, h2 | ⟨h2, h3⟩⟩
      · rw [cmpI_gt h]; simp [orL]
      · rw [← h, cmpI_eq, cmpI_gt h2]; simp [orL]
      · rw [← h, cmpI_eq, ← h2, cmpI_eq, cmpI_gt h3]; simp [orL]
theorem cmpR_lt (x y : Rt × Int) : decide (cmpR x y < 0) = rltB x.1 y.1 := by
  rw [Bool.eq_iff_iff, rlt_iff, decide_eq_true_eq]
  unfold cmpR
  rcases cmpP_cases x.1.1 y.1.1 with ⟨h1, h2⟩ | ⟨h1, h2⟩ | ⟨h1, h2⟩
  · have hne : cmpP x.1.1 y.1.1 ≠ 0 := by omega
    simp only [orL, if_neg hne, h2, true_or, iff_true]
    exact h1
  · have h3 : pltB x.1.1 y.1.1 = false := by rw [h2]; cases h : pltB y.1.1 y.1.1 with | false => rfl | true => exact absurd rfl (plt_ne h)
    have h4 := cmpP_lt x.1.2 y.1.2
    rw [h1, h3]
    simp only [orL]
    rcases cmpP_cases x.1.2 y.1.2 with ⟨g1, g2⟩ | ⟨g1, g2⟩ | ⟨g1, g2⟩
    · have hne : cmpP x.1.2 y.1.2 ≠ 0 := by omega
      simp [hne, g2, h2, g1]
    · have g3 : pltB x.1.2 y.1.2 = false := by rw [g2]; cases h : pltB y.1.2 y.1.2 with | false => rfl | true => exact absurd rfl (plt_ne h)
      simp [g1, g3]
    · have hne : cmpP x.1.2 y.1.2 ≠ 0 := by omega
      have g3 : pltB x.1.2 y.1.2 = false := plt_not g2
      simp [hne, g3]
      omega
  · have hne : cmpP x.1.1 y.1.1 ≠ 0 := by omega
    have h3 : pltB x.1.1 y.1.1 = false := plt_not h2
    have h4 : x.1.1 ≠ y.1.1 := fun e => plt_ne h2 e.symm
    simp only [orL, if_neg hne, h3, h4]
    simp
    omega
def brV (P Q : Nat) (x y : Rt × Int) (a b r : Int) (i : Nat) (l : List Value) (w : World) : Prop :=
  match i, l with
  | 0, [v] => v = .pointer (some ⟨P, 0, none⟩)
  | 1, [v] => v = .agg #[.int .i64 x.1.1.1, .int .i64 x.1.1.2.1, .int .i64 x.1.1.2.2]
  | 2, [v] => v = .pointer (some ⟨Q, 0, none⟩)
  | 3, [v] => v = .agg #[.int .i64 y.1.1.1, .int .i64 y.1.1.2.1, .int .i64 y.1.1.2.2]
  | 4, [v] => v = .int .i64 a
  | 5, [v] => v = .pointer (some ⟨P, 3, none⟩)
  | 6, [v] => v = .agg #[.int .i64 x.1.2.1, .int .i64 x.1.2.2.1, .int .i64 x.1.2.2.2]
  | 7, [v] => v = .pointer (some ⟨Q, 3, none⟩)
  | 8, [v] => v = .agg #[.int .i64 y.1.2.1, .int .i64 y.1.2.2.1, .int .i64 y.1.2.2.2]
  | 9, [v] => v = .int .i64 b
  | 10, [v] => IsInts [a, b] v w
  | 11, [v] => v = .int .i64 r
  | 12, [v] => v = .int .i64 r
  | _, _ => True
theorem brV_mono (P Q : Nat) (x y : Rt × Int) (a b r : Int) (i : Nat) (l : List Value) (w w' : World) (h : brV P Q x y a b r i l w) (hb : Below w.heap.size w w') : brV P Q x y a b r i l w' := by
  unfold brV at h ⊢
  split <;> simp only [] at h <;> first | exact h | exact h.later hb
set_option maxHeartbeats 6400000 in
set_option maxRecDepth 100000 in
theorem byRoute_any (x y : Rt × Int) (W : World) : Calls Try.prog 16 #[prv x, prv y] W fun e w' => e = .returned (.int .i64 (cmpR x y)) ∧ Below W.heap.size W w' ∧ W.drawn ≤ w'.drawn := by
  obtain ⟨a, ha⟩ : ∃ a, cmpP x.1.1 y.1.1 = a := ⟨_, rfl⟩
  obtain ⟨b, hbb⟩ : ∃ b, cmpP x.1.2 y.1.2 = b := ⟨_, rfl⟩
  obtain ⟨r, hr⟩ : ∃ r, orL [a, b] = r := ⟨_, rfl⟩
  have HA : Hid (cmpP x.1.1 y.1.1 = a) := ha
  have HB : Hid (cmpP x.1.2 y.1.2 = b) := hbb
  have HR : Hid (orL [a, b] = r) := hr
  have HQ : Hid (cmpR x y = r) := by show _ = _; rw [cmpR, ha, hbb, hr]
  clear ha hbb hr
  obtain ⟨w0, hw0⟩ : ∃ w0, w0 = (W.alloc (probj x)).alloc (probj y) := ⟨_, rfl⟩
  have HW0 : Hid (w0 = (W.alloc (probj x)).alloc (probj y)) := hw0
  have HB0 : Hid (Below W.heap.size W w0) := by show Below _ _ _; rw [hw0]; exact ((Below.refl _ _).alloc (Nat.le_refl _) _).alloc (by simp) _
  have HD0 : Hid (W.drawn = w0.drawn) := by show _ = _; rw [hw0]; rfl
  have KP : Hid (Bk W.heap.size (prl x) w0) := by
    show Bk _ _ _; rw [hw0]; exact (Bk.new W (prl x) 39 W.heap.size rfl).later ((Below.refl _ _).alloc (Nat.le_refl _) _)
  have KQ : Hid (Bk (W.heap.size + 1) (prl y) w0) := by
    show Bk _ _ _; rw [hw0]; exact Bk.new (W.alloc _) (prl y) 39 (W.heap.size + 1) (by simp)
  clear hw0
  go_enter Try.func16, Try.ntmps16
  go_wp2_with fail
  rw [← HW0.out]
  refine region_allD [false, false, false, false, true, true, true, true, true, true, true, true, true, true, true, true, true]
    [([], [5], none), ([0], [6], none), ([], [7], none), ([2], [8], none), ([1, 3], [9], none), ([], [10], none), ([5], [11], none), ([], [12], none), ([7], [13], none), ([6, 8], [14], none), ([4, 9], [15], none), ([10], [16], none), ([11], [4], none)]
    (brV W.heap.size (W.heap.size + 1) x y a b r) (fun _ w => w0.drawn ≤ w.drawn) (by kernel_rfl) (by kernel_rfl) (Nat.le_succ _) ?_ ?_
  · refine ⟨?_, ?_, ?_, ?_, ?_, ?_, ?_, ?_, ?_, ?_, ?_, ?_, ?_, trivial⟩
    · intro f w1 hb hJ _ K hK
      simp only [over, overL, Nat.reduceAdd]
      go_simp
      exact hK _ _ ⟨_, by simp only [over, overL, Nat.reduceAdd]; rfl, rfl, hb, hJ, fun _ h => h⟩
    · intro f w1 hb hJ ⟨h5, _⟩ K hK
      replace h5 : f 5 = _ := h5
      have q0 := (KP.out.later hb).c 0 rfl
      have q1 := (KP.out.later hb).c 1 rfl
      have q2 := (KP.out.later hb).c 2 rfl
      simp only [over, overL, Nat.reduceAdd, h5]
      go_simp
      exact hK _ _ ⟨_, by simp only [over, overL, Nat.reduceAdd, h5]; rfl, rfl, hb, hJ, fun _ h => h⟩
    · intro f w1 hb hJ _ K hK
      simp only [over, overL, Nat.reduceAdd]
      go_simp
      exact hK _ _ ⟨_, by simp only [over, overL, Nat.reduceAdd]; rfl, rfl, hb, hJ, fun _ h => h⟩
    · intro f w1 hb hJ ⟨h7, _⟩ K hK
      replace h7 : f 7 = _ := h7
      have q0 := (KQ.out.later hb).c 0 rfl
      have q1 := (KQ.out.later hb).c 1 rfl
      have q2 := (KQ.out.later hb).c 2 rfl
      simp only [over, overL, Nat.reduceAdd, h7]
      go_simp
      exact hK _ _ ⟨_, by simp only [over, overL, Nat.reduceAdd, h7]; rfl, rfl, hb, hJ, fun _ h => h⟩
    · intro f w1 hb hJ ⟨h6, h8, _⟩ K hK
      replace h6 : f 6 = _ := h6
      replace h8 : f 8 = _ := h8
      simp only [over, overL, Nat.reduceAdd, h6, h8]
      go_simp
      refine (byPlace_r x.1.1 y.1.1 a HA.out w1).mono ?_
      rintro e w2 ⟨rfl, hb2, hd2⟩
      exact hK _ _ ⟨_, by simp only [over, overL, Nat.reduceAdd, h6, h8]; rfl, rfl, below_on hb hb2, Nat.le_trans hJ hd2, fun j h => brV_mono W.heap.size (W.heap.size + 1) x y a b r j _ _ _ h hb2⟩
    · intro f w1 hb hJ _ K hK
      simp only [over, overL, Nat.reduceAdd]
      go_simp
      exact hK _ _ ⟨_, by simp only [over, overL, Nat.reduceAdd]; rfl, rfl, hb, hJ, fun _ h => h⟩
    · intro f w1 hb hJ ⟨h10, _⟩ K hK
      replace h10 : f 10 = _ := h10
      have q3 := (KP.out.later hb).c 3 rfl
      have q4 := (KP.out.later hb).c 4 rfl
      have q5 := (KP.out.later hb).c 5 rfl
      simp only [over, overL, Nat.reduceAdd, h10]
      go_simp
      exact hK _ _ ⟨_, by simp only [over, overL, Nat.reduceAdd, h10]; rfl, rfl, hb, hJ, fun _ h => h⟩
    · intro f w1 hb hJ _ K hK
      simp only [over, overL, Nat.reduceAdd]
      go_simp
      exact hK _ _ ⟨_, by simp only [over, overL, Nat.reduceAdd]; rfl, rfl, hb, hJ, fun _ h => h⟩
    · intro f w1 hb hJ ⟨h12, _⟩ K hK
      replace h12 : f 12 = _ := h12
      have q3 := (KQ.out.later hb).c 3 rfl
      have q4 := (KQ.out.later hb).c 4 rfl
      have q5 := (KQ.out.later hb).c 5 rfl
      simp only [over, overL, Nat.reduceAdd, h12]
      go_simp
      exact hK _ _ ⟨_, by simp only [over, overL, Nat.reduceAdd, h12]; rfl, rfl, hb, hJ, fun _ h => h⟩
    · intro f w1 hb hJ ⟨h11, h13, _⟩ K hK
      replace h11 : f 11 = _ := h11
      replace h13 : f 13 = _ := h13
      simp only [over, overL, Nat.reduceAdd, h11, h13]
      go_simp
      refine (byPlace_r x.1.2 y.1.2 b HB.out w1).mono ?_
      rintro e w2 ⟨rfl, hb2, hd2⟩
      exact hK _ _ ⟨_, by simp only [over, overL, Nat.reduceAdd, h11, h13]; rfl, rfl, below_on hb hb2, Nat.le_trans hJ hd2, fun j h => brV_mono W.heap.size (W.heap.size + 1) x y a b r j _ _ _ h hb2⟩
    · intro f w1 hb hJ ⟨h9, h14, _⟩ K hK
      replace h9 : f 9 = _ := h9
      replace h14 : f 14 = _ := h14
      simp only [over, overL, Nat.reduceAdd, h9, h14]
      go_simp
      exact hK _ _ ⟨_, by simp only [over, overL, Nat.reduceAdd, h9, h14]; rfl, new_two2 _ _ _ _, below_on hb ((Below.refl _ _).alloc (Nat.le_refl _) _), hJ, fun j h => brV_mono W.heap.size (W.heap.size + 1) x y a b r j _ _ _ h ((Below.refl _ _).alloc (Nat.le_refl _) _)⟩
    · intro f w1 hb hJ ⟨h15, _⟩ K hK
      replace h15 : IsInts [a, b] (f 15) w1 := h15
      simp only [over, overL, Nat.reduceAdd]
      go_simp
      refine (cmpOrI_is [a, b] r HR.out _ w1 (by simp) h15).mono ?_
      rintro e w2 ⟨rfl, rfl⟩
      exact hK _ _ ⟨_, by simp only [over, overL, Nat.reduceAdd]; rfl, rfl, hb, hJ, fun _ h => h⟩
    · intro f w1 hb hJ ⟨h16, _⟩ K hK
      replace h16 : f 16 = _ := h16
      simp only [over, overL, Nat.reduceAdd, h16]
      go_simp
      exact hK _ _ ⟨_, by simp only [over, overL, Nat.reduceAdd, h16]; rfl, rfl, hb, hJ, fun _ h => h⟩
  · intro f w1 hb hJ hv
    have h16 : f 16 = .int .i64 r := hv.2.2.2.2.2.2.2.2.2.2.2.1
    have h4 : f 4 = .int .i64 r := hv.2.2.2.2.2.2.2.2.2.2.2.2.1
    simp only [over, overL, Nat.reduceAdd, h16, h4]
    go_wp2
    go_ret
    exact ⟨ret_int HQ.out.symm, below_on HB0.out hb, by rw [HD0.out]; exact hJ⟩
end Go.Proofs.Ytgbnjgenopdmfaa
