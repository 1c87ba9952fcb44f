/- cmp.Compare, cmp.Or at ints, the closure that compares two knots, walked. -/
import Derived.Test.YteamcgoemgailaaShelf
import Derived.Test.YteamcgoemgailaaCpy
namespace Go.Proofs.Yteamcgoemgailaa
open Go.RowKit

def cmpI (x y : Int) : Int := if x < y then -1 else if y < x then 1 else 0
theorem isNaN_any (x : Int) (w : World) : Calls Try.prog 38 #[.int .i64 x] w fun e w' => e = .returned (.bool false) ∧ w' = w := by
  go_enter Try.func38, Try.ntmps38
  go_wp2
  go_ret
  exact ⟨rfl, rfl⟩
set_option maxHeartbeats 1600000 in
theorem compare_any (x y : Int) (w : World) : Calls Try.prog 35 #[.int .i64 x, .int .i64 y] w fun e w' => e = .returned (.int .i64 (cmpI x y)) ∧ w' = w := by
  have H1 := fun W => isNaN_any x W
  have H2 := fun W => isNaN_any y W
  by_cases h : x < y
  · have HR : Hid (cmpI x y = -1) := if_pos h
    go_enter Try.func35, Try.ntmps35
    go_wp2_with (first | (go_at_call 38; refine (H1 _).mono ?_; rintro e w' ⟨rfl, rfl⟩) | (go_at_call 38; refine (H2 _).mono ?_; rintro e w' ⟨rfl, rfl⟩))
    go_ret
    exact ⟨ret_int HR.out.symm, rfl⟩
  · by_cases h2 : y < x
    · have HR : Hid (cmpI x y = 1) := by show cmpI x y = 1; rw [cmpI, if_neg h, if_pos h2]
      go_enter Try.func35, Try.ntmps35
      go_wp2_with (first | (go_at_call 38; refine (H1 _).mono ?_; rintro e w' ⟨rfl, rfl⟩) | (go_at_call 38; refine (H2 _).mono ?_; rintro e w' ⟨rfl, rfl⟩))
      go_ret
      exact ⟨ret_int HR.out.symm, rfl⟩
    · have HR : Hid (cmpI x y = 0) := by show cmpI x y = 0; rw [cmpI, if_neg h, if_neg h2]
      go_enter Try.func35, Try.ntmps35
      go_wp2_with (first | (go_at_call 38; refine (H1 _).mono ?_; rintro e w' ⟨rfl, rfl⟩) | (go_at_call 38; refine (H2 _).mono ?_; rintro e w' ⟨rfl, rfl⟩))
      go_ret
      exact ⟨ret_int HR.out.symm, rfl⟩
theorem compare_r (x y r : Int) (h : cmpI x y = r) (w : World) : Calls Try.prog 35 #[.int .i64 x, .int .i64 y] w fun e w' => e = .returned (.int .i64 r) ∧ w' = w := by
  rw [← h]; exact compare_any x y w
set_option maxHeartbeats 1600000 in
theorem or_any (B : Nat) (p q : Int) (w : World) (c0 : w.cell? ⟨B, 0, none⟩ = some (.int .i64 p)) (c1 : w.cell? ⟨B, 1, none⟩ = some (.int .i64 q)) :
    Calls Try.prog 34 #[.slice (some ⟨B, 0, none⟩) 2 2] w fun e w' => e = .returned (.int .i64 (if p = 0 then q else p)) ∧ w' = w := by
  by_cases hp : p = 0
  · have HR : Hid ((if p = 0 then q else p) = q) := if_pos hp
    rw [HR.out]
    subst hp
    clear HR
    by_cases hq : q = 0
    · subst hq
      go_enter Try.func34, Try.ntmps34
      go_wp2
      refine wp_loop_rounds 3 ?_
      rw [rounds_succ]
      go_wp2
      rw [rounds_succ]
      go_wp2
      rw [rounds_succ]
      go_wp2
      go_ret
      exact ⟨rfl, rfl⟩
    · have hq2 : (q != 0) = true := by simp [hq]
      have hq3 : (q == 0) = false := by simp [hq]
      clear hq
      go_enter Try.func34, Try.ntmps34
      go_wp2
      refine wp_loop_rounds 3 ?_
      rw [rounds_succ]
      go_wp2
      rw [rounds_succ]
      go_wp2
      go_ret
      exact ⟨rfl, rfl⟩
  · have HR : Hid ((if p = 0 then q else p) = p) := if_neg hp
    rw [HR.out]
    have hp2 : (p != 0) = true := by simp [hp]
    have hp3 : (p == 0) = false := by simp [hp]
    clear hp HR
    go_enter Try.func34, Try.ntmps34
    go_wp2
    refine wp_loop_rounds 3 ?_
    rw [rounds_succ]
    go_wp2
    go_ret
    exact ⟨rfl, rfl⟩

theorem or_r (B : Nat) (p q r : Int) (hr : (if p = 0 then q else p) = r) (w : World) (c0 : w.cell? ⟨B, 0, none⟩ = some (.int .i64 p)) (c1 : w.cell? ⟨B, 1, none⟩ = some (.int .i64 q)) :
    Calls Try.prog 34 #[.slice (some ⟨B, 0, none⟩) 2 2] w fun e w' => e = .returned (.int .i64 r) ∧ w' = w := by
  rw [← hr]; exact or_any B p q w c0 c1
/-- What lies below, and no draw taken back: blocks laid behind, draws. -/
theorem grown_of_below {W w' : World} (h : Below W.heap.size W w') (hd : W.drawn ≤ w'.drawn) : ∃ q os, w' = Go.Sort.grow (W.drewN q) os := by
  refine ⟨w'.drawn - W.drawn, w'.heap.extract W.heap.size w'.heap.size, ?_⟩
  obtain ⟨h1, h2, h3, h4, h5⟩ := h
  obtain ⟨heap, tape, drawn, os, output⟩ := w'
  simp only at h1 h2 h3 h4 h5 hd ⊢
  subst h1 h2 h3
  simp only [Go.Sort.grow, World.drewN]
  congr 1
  · apply Array.ext_getElem?
    intro i
    rw [Array.getElem?_append]
    split
    · rename_i hi; exact h5 i hi
    · rename_i hi
      rw [Array.getElem?_extract]
      split
      · congr 1; omega
      · rw [Array.getElem?_eq_none (by omega)]
  · omega
/-- How two knots compare: by volumes, then steps. -/
def cmpK (x y : Kn) : Int := if cmpI x.v y.v = 0 then cmpI x.s y.s else cmpI x.v y.v
def cmpV (A B : Nat) (xv xs yv ys p q r : Int) (i : Nat) (l : List Value) (w : World) : Prop :=
  match i, l with
  | 0, [v] => v = .pointer (some ⟨A, 0, none⟩)
  | 1, [v] => v = .int .i64 xv
  | 2, [v] => v = .pointer (some ⟨B, 0, none⟩)
  | 3, [v] => v = .int .i64 yv
  | 4, [v] => v = .int .i64 p
  | 5, [v] => v = .pointer (some ⟨A, 1, none⟩)
  | 6, [v] => v = .int .i64 xs
  | 7, [v] => v = .pointer (some ⟨B, 1, none⟩)
  | 8, [v] => v = .int .i64 ys
  | 9, [v] => v = .int .i64 q
  | 10, [v] => ∃ B, v = .slice (some ⟨B, 0, none⟩) 2 2 ∧ w.cell? ⟨B, 0, none⟩ = some (.int .i64 p) ∧ w.cell? ⟨B, 1, none⟩ = some (.int .i64 q)
  | 11, [v] => v = .int .i64 r
  | 12, [v] => v = .int .i64 r
  | _, _ => True
theorem cmpV_mono (A B : Nat) (xv xs yv ys p q r : Int) (i : Nat) (l : List Value) (w w' : World) (h : cmpV A B xv xs yv ys p q r i l w) (hb : Below w.heap.size w w') : cmpV A B xv xs yv ys p q r i l w' := by
  unfold cmpV at h ⊢
  split <;> simp only [] at h <;> first | exact h | (obtain ⟨b, h1, h2, h3⟩ := h; exact ⟨b, h1, cell_later hb h2, cell_later hb h3⟩)

set_option maxHeartbeats 6400000 in
set_option maxRecDepth 100000 in
theorem closure_any (x y : Kn) (W : World) : Calls Try.prog 33 #[kv x, kv y] W fun e w' => e = .returned (.int .i64 (cmpK x y)) ∧ ∃ q os, w' = Go.Sort.grow (W.drewN q) os := by
  obtain ⟨p, hp⟩ : ∃ p, cmpI x.v y.v = p := ⟨_, rfl⟩
  obtain ⟨q, hq⟩ : ∃ q, cmpI x.s y.s = q := ⟨_, rfl⟩
  have HP : Hid (cmpI x.v y.v = p) := hp
  have HQ : Hid (cmpI x.s y.s = q) := hq
  obtain ⟨r, hr⟩ : ∃ r, (if p = 0 then q else p) = r := ⟨_, rfl⟩
  have HRR : Hid ((if p = 0 then q else p) = r) := hr
  have HR : Hid (cmpK x y = r) := by show cmpK x y = _; rw [cmpK, hp, hq]; exact hr
  clear hp hq hr
  have hp := HP
  have hq := HQ
  unfold Hid at hp hq
  obtain ⟨w0, hw0⟩ : ∃ w0, w0 = (W.alloc (ko x)).alloc (ko y) := ⟨_, rfl⟩
  have HW0 : Hid (w0 = (W.alloc (ko x)).alloc (ko y)) := hw0
  have HB0 : Hid (Below W.heap.size W w0) := by show Below _ _ _; rw [hw0]; exact below_grow _ (Nat.le_refl _) ((Below.refl _ _).alloc (Nat.le_refl _) _) _
  have HD0 : Hid (W.drawn = w0.drawn) := by show _ = _; rw [hw0]; rfl
  have a0 : w0.cell? ⟨W.heap.size, 0, none⟩ = some (.int .i64 x.v) := by rw [hw0]; go_simp
  have a1 : w0.cell? ⟨W.heap.size, 1, none⟩ = some (.int .i64 x.s) := by rw [hw0]; go_simp
  have d0 : w0.cell? ⟨W.heap.size + 1, 0, none⟩ = some (.int .i64 y.v) := by rw [hw0]; go_simp
  have d1 : w0.cell? ⟨W.heap.size + 1, 1, none⟩ = some (.int .i64 y.s) := by rw [hw0]; go_simp
  clear hw0 hp hq
  go_enter Try.func33, Try.ntmps33
  go_wp2_with fail
  rw [← HW0.out]
  have hp := HP
  have hq := HQ
  unfold Hid at hp hq
  refine region_allD [false, false, false, false, true, true, true, true, true, true, true, true, true, true, true, true, true] [([], [5], none), ([0], [6], none), ([], [7], none), ([2], [8], none), ([1, 3], [9], none), ([], [10], none), ([5], [11], none), ([], [12], none), ([7], [13], none), ([6, 8], [14], none), ([4, 9], [15], none), ([10], [16], none), ([11], [4], none)]
    (cmpV W.heap.size (W.heap.size + 1) x.v x.s y.v y.s p q r) (fun _ w => w0.drawn ≤ w.drawn) (by kernel_rfl) (by kernel_rfl) (Nat.le_succ _) ?_ ?_
  · refine ⟨?_, ?_, ?_, ?_, ?_, ?_, ?_, ?_, ?_, ?_, ?_, ?_, ?_, trivial⟩
    · intro f w1 hb hJ _ K hK
      simp only [over, overL, Nat.reduceAdd]
      go_simp
      exact hK _ _ ⟨_, by simp only [over, overL, Nat.reduceAdd]; rfl, rfl, hb, hJ, fun _ h => h⟩
    · intro f w1 hb hJ ⟨h5, _⟩ K hK
      replace h5 : f 5 = _ := h5
      have e0 := cell_later hb a0
      simp only [over, overL, Nat.reduceAdd, h5]
      go_simp
      exact hK _ _ ⟨_, by simp only [over, overL, Nat.reduceAdd, h5]; rfl, rfl, hb, hJ, fun _ h => h⟩
    · intro f w1 hb hJ _ K hK
      simp only [over, overL, Nat.reduceAdd]
      go_simp
      exact hK _ _ ⟨_, by simp only [over, overL, Nat.reduceAdd]; rfl, rfl, hb, hJ, fun _ h => h⟩
    · intro f w1 hb hJ ⟨h7, _⟩ K hK
      replace h7 : f 7 = _ := h7
      have e0 := cell_later hb d0
      simp only [over, overL, Nat.reduceAdd, h7]
      go_simp
      exact hK _ _ ⟨_, by simp only [over, overL, Nat.reduceAdd, h7]; rfl, rfl, hb, hJ, fun _ h => h⟩
    · intro f w1 hb hJ ⟨h6, h8, _⟩ K hK
      replace h6 : f 6 = _ := h6
      replace h8 : f 8 = _ := h8
      simp only [over, overL, Nat.reduceAdd, h6, h8]
      go_simp
      refine (compare_r x.v y.v p hp w1).mono ?_
      rintro e w2 ⟨rfl, rfl⟩
      exact hK _ _ ⟨_, by simp only [over, overL, Nat.reduceAdd, h6, h8]; rfl, rfl, hb, hJ, fun _ h => h⟩
    · intro f w1 hb hJ _ K hK
      simp only [over, overL, Nat.reduceAdd]
      go_simp
      exact hK _ _ ⟨_, by simp only [over, overL, Nat.reduceAdd]; rfl, rfl, hb, hJ, fun _ h => h⟩
    · intro f w1 hb hJ ⟨h10, _⟩ K hK
      replace h10 : f 10 = _ := h10
      have e0 := cell_later hb a1
      simp only [over, overL, Nat.reduceAdd, h10]
      go_simp
      exact hK _ _ ⟨_, by simp only [over, overL, Nat.reduceAdd, h10]; rfl, rfl, hb, hJ, fun _ h => h⟩
    · intro f w1 hb hJ _ K hK
      simp only [over, overL, Nat.reduceAdd]
      go_simp
      exact hK _ _ ⟨_, by simp only [over, overL, Nat.reduceAdd]; rfl, rfl, hb, hJ, fun _ h => h⟩
    · intro f w1 hb hJ ⟨h12, _⟩ K hK
      replace h12 : f 12 = _ := h12
      have e0 := cell_later hb d1
      simp only [over, overL, Nat.reduceAdd, h12]
      go_simp
      exact hK _ _ ⟨_, by simp only [over, overL, Nat.reduceAdd, h12]; rfl, rfl, hb, hJ, fun _ h => h⟩
    · intro f w1 hb hJ ⟨h11, h13, _⟩ K hK
      replace h11 : f 11 = _ := h11
      replace h13 : f 13 = _ := h13
      simp only [over, overL, Nat.reduceAdd, h11, h13]
      go_simp
      refine (compare_r x.s y.s q hq w1).mono ?_
      rintro e w2 ⟨rfl, rfl⟩
      exact hK _ _ ⟨_, by simp only [over, overL, Nat.reduceAdd, h11, h13]; rfl, rfl, hb, hJ, fun _ h => h⟩
    · intro f w1 hb hJ ⟨h9, h14, _⟩ K hK
      replace h9 : f 9 = _ := h9
      replace h14 : f 14 = _ := h14
      simp only [over, overL, Nat.reduceAdd, h9, h14]
      go_simp
      exact hK _ _ ⟨_, by simp only [over, overL, Nat.reduceAdd, h9, h14]; rfl, ⟨w1.heap.size, rfl, by go_simp, by go_simp⟩, below_on hb ((Below.refl _ _).alloc (Nat.le_refl _) _), hJ, fun j h => cmpV_mono _ _ _ _ _ _ _ _ _ j _ _ _ h ((Below.refl _ _).alloc (Nat.le_refl _) _)⟩
    · intro f w1 hb hJ ⟨h15, _⟩ K hK
      obtain ⟨B, h15x, e0, e1⟩ := (show ∃ B, f 15 = .slice (some ⟨B, 0, none⟩) 2 2 ∧ w1.cell? ⟨B, 0, none⟩ = some (.int .i64 p) ∧ w1.cell? ⟨B, 1, none⟩ = some (.int .i64 q) from h15)
      clear h15
      simp only [over, overL, Nat.reduceAdd, h15x]
      go_simp
      refine (or_r B p q r HRR.out w1 e0 e1).mono ?_
      rintro e w2 ⟨rfl, rfl⟩
      exact hK _ _ ⟨_, by simp only [over, overL, Nat.reduceAdd, h15x]; rfl, rfl, hb, hJ, fun _ h => h⟩
    · intro f w1 hb hJ ⟨h16, _⟩ K hK
      replace h16 : f 16 = _ := h16
      simp only [over, overL, Nat.reduceAdd, h16]
      go_simp
      exact hK _ _ ⟨_, by simp only [over, overL, Nat.reduceAdd, h16]; rfl, rfl, hb, hJ, fun _ h => h⟩
  intro f w1 hb1 hJ h
  have h4 : f 4 = .int .i64 r := h.2.2.2.2.2.2.2.2.2.2.2.2.1
  simp only [show ∀ (a : Act) (m : List Bool) (f : Nat → Value), over a m f = { tmps := (overL f m 0 a.tmps.toList).toArray, defers := a.defers } from fun _ _ _ => rfl, overL, h4, Nat.reduceAdd]
  clear h h4 hp hq a0 a1 d0 d1
  go_wp2
  go_ret
  exact ⟨ret_int HR.out.symm, grown_of_below (below_on HB0.out hb1) (by rw [HD0.out]; exact hJ)⟩
end Go.Proofs.Yteamcgoemgailaa
