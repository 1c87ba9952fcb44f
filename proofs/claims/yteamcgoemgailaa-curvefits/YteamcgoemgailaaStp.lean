/- stepsFor walked. -/
import Derived.Test.YteamcgoemgailaaSrch
import Derived.Test.YteamcgoemgailaaSeqG
namespace Go.Proofs.Yteamcgoemgailaa
open Go.RowKit

theorem over_eq (a : Act) (m : List Bool) (f : Nat → Value) : over a m f = { tmps := (overL f m 0 a.tmps.toList).toArray, defers := a.defers } := rfl
/-- Two slots hold two blocks. -/
def Apart (s t : Nat) (f : Nat → Value) (w : World) : Prop :=
  (∀ b, f s = ptr b → b < w.heap.size) ∧ (∀ b, f t = ptr b → b < w.heap.size) ∧ (∀ b, f s = ptr b → f t = ptr b → False)
theorem Apart.same {s t : Nat} {f : Nat → Value} {w w' : World} (h : Apart s t f w) (hs : w'.heap.size = w.heap.size) : Apart s t f w' := by
  unfold Apart
  rw [hs]
  exact h
theorem Apart.other {s t d : Nat} {f : Nat → Value} {w w' : World} {v : Value} (h : Apart s t f w) (hs : s ≠ d) (ht : t ≠ d) (hb : Below w.heap.size w w') : Apart s t (upd f d v) w' := by
  unfold Apart
  rw [upd_other hs, upd_other ht]
  exact ⟨fun b e => Nat.lt_of_lt_of_le (h.1 b e) hb.size, fun b e => Nat.lt_of_lt_of_le (h.2.1 b e) hb.size, h.2.2⟩
theorem Apart.left {s t : Nat} {f : Nat → Value} {w : World} {o : Obj} (h : Apart s t f w) (hst : t ≠ s) : Apart s t (upd f s (ptr w.heap.size)) (w.alloc o) := by
  unfold Apart
  rw [upd_same, upd_other hst]
  refine ⟨fun b e => ?_, fun b e => ?_, fun b e e2 => ?_⟩
  · simp at e; subst e; simp
  · have := h.2.1 b e; simp; omega
  · simp at e; subst e; have := h.2.1 _ e2; omega
theorem Apart.right {s t : Nat} {f : Nat → Value} {w : World} {o : Obj} (h : Apart s t f w) (hst : s ≠ t) : Apart s t (upd f t (ptr w.heap.size)) (w.alloc o) := by
  unfold Apart
  rw [upd_same, upd_other hst]
  refine ⟨fun b e => ?_, fun b e => ?_, fun b e e2 => ?_⟩
  · have := h.1 b e; simp; omega
  · simp at e; subst e; simp
  · simp at e2; subst e2; have := h.1 _ e; omega
theorem Kf.put {b : Nat} {k : Kn} {w : World} (h : Kf b k w) (x : Kn) : Kf b x ((w.setCell ⟨b, 0, none⟩ (.int .i64 x.v)).setCell ⟨b, 1, none⟩ (.int .i64 x.s)) := by
  obtain ⟨h1, h2, h3, h4, h5⟩ := h
  refine ⟨by simpa using h1, ?_, ?_, ?_, ?_⟩
  all_goals simp [go_sem, *]
theorem Kf.other {b b' : Nat} {k : Kn} {w : World} (h : Kf b k w) (hn : b ≠ b') (j : Nat) (v : Value) : Kf b k (w.setCell ⟨b', j, none⟩ v) := by
  obtain ⟨h1, h2, h3, h4, h5⟩ := h
  refine ⟨by simpa using h1, ?_, ?_, ?_, ?_⟩
  all_goals simp [go_sem, *]

def st2V (b off n cap r : Nat) (lo hi : Kn) (m : Nat) (i : Nat) (l : List Value) (w : World) : Prop :=
  match i, l with
  | 0, [v] => v = .slice (some ⟨b, off, none⟩) n cap
  | 1, [v] => v = .int .i64 (r : Int)
  | 2, [v] => v = .pointer (some ⟨b, off + r * 2, none⟩)
  | 3, [v] => v = kv lo
  | 4, [v] => v = .slice (some ⟨b, off, none⟩) n cap
  | 5, [v] => v = .int .i64 (r : Int)
  | 6, [v] => v = .int .i64 ((r : Int) + 1)
  | 7, [v] => v = .pointer (some ⟨b, off + (r + 1) * 2, none⟩)
  | 8, [v] => v = kv hi
  | 9, [v] => ∃ b, v = ptr b ∧ m ≤ b ∧ ∃ x, Kf b x w
  | 10, [v] => ∃ b, v = ptr b ∧ m ≤ b ∧ ∃ x, Kf b x w
  | 11, [v] => ∃ b, v = ptr b ∧ Kf b lo w
  | 12, [v] => ∃ b, v = ptr b ∧ Kf b hi w
  | _, _ => True
theorem st2V_mono (b off n cap r : Nat) (lo hi : Kn) (m : Nat) (i : Nat) (l : List Value) (w w' : World) (h : st2V b off n cap r lo hi m i l w) (hb : Below w.heap.size w w') : st2V b off n cap r lo hi m i l w' := by
  unfold st2V at h ⊢
  split <;> simp only [] at h <;> first | exact h | (obtain ⟨b, h1, h2, x, h3⟩ := h; exact ⟨b, h1, h2, x, h3.later hb⟩) | (obtain ⟨b, h1, h3⟩ := h; exact ⟨b, h1, h3.later hb⟩)
def st2P : GPlan := [([], [15], none), ([], [16], none), ([0, 1], [17], none), ([2], [18], none), ([], [19], none), ([], [20], none), ([5], [21], none), ([4, 6], [22], none), ([7], [23], none), ([], [6], none), ([], [7], none), ([9, 3], [6], none), ([10, 8], [7], none)]
theorem st2_store6 {b off n cap r : Nat} {lo hi : Kn} {m : Nat} {f : Nat → Value} {w : World} {B : Nat} {y : Kn} (hJ : Apart 6 7 f w) (hs : f 6 = ptr B) (AB : Kf B y w) :
    ∀ j, st2V b off n cap r lo hi m j ((menOf st2P j).map f) w → st2V b off n cap r lo hi m j ((menOf st2P j).map f) ((w.setCell ⟨B, 0, none⟩ (.int .i64 lo.v)).setCell ⟨B, 1, none⟩ (.int .i64 lo.s))
  | 0, h => h
  | 1, h => h
  | 2, h => h
  | 3, h => h
  | 4, h => h
  | 5, h => h
  | 6, h => h
  | 7, h => h
  | 8, h => h
  | 9, ⟨b2, h2, h3, _⟩ => by
    obtain rfl : b2 = B := by have := (show f 6 = ptr b2 from h2).symm.trans hs; simpa using this
    exact ⟨b2, h2, h3, lo, AB.put lo⟩
  | 10, ⟨b2, h2, h3, z, h4⟩ => ⟨b2, h2, h3, z, (h4.other (fun e => hJ.2.2 B (by exact hs) (by rw [← e]; exact h2)) 0 _).other (fun e => hJ.2.2 B (by exact hs) (by rw [← e]; exact h2)) 1 _⟩
  | 11, _ => ⟨B, hs, AB.put lo⟩
  | 12, ⟨b2, h2, h4⟩ => ⟨b2, h2, (h4.other (fun e => hJ.2.2 B (by exact hs) (by rw [← e]; exact h2)) 0 _).other (fun e => hJ.2.2 B (by exact hs) (by rw [← e]; exact h2)) 1 _⟩
  | j + 13, _ => by simp [menOf, st2P, st2V]
theorem st2_store7 {b off n cap r : Nat} {lo hi : Kn} {m : Nat} {f : Nat → Value} {w : World} {B : Nat} {y : Kn} (hJ : Apart 6 7 f w) (hs : f 7 = ptr B) (AB : Kf B y w) :
    ∀ j, st2V b off n cap r lo hi m j ((menOf st2P j).map f) w → st2V b off n cap r lo hi m j ((menOf st2P j).map f) ((w.setCell ⟨B, 0, none⟩ (.int .i64 hi.v)).setCell ⟨B, 1, none⟩ (.int .i64 hi.s))
  | 0, h => h
  | 1, h => h
  | 2, h => h
  | 3, h => h
  | 4, h => h
  | 5, h => h
  | 6, h => h
  | 7, h => h
  | 8, h => h
  | 9, ⟨b2, h2, h3, z, h4⟩ => ⟨b2, h2, h3, z, (h4.other (fun e => hJ.2.2 B (by rw [← e]; exact h2) (by exact hs)) 0 _).other (fun e => hJ.2.2 B (by rw [← e]; exact h2) (by exact hs)) 1 _⟩
  | 10, ⟨b2, h2, h3, _⟩ => by
    obtain rfl : b2 = B := by have := (show f 7 = ptr b2 from h2).symm.trans hs; simpa using this
    exact ⟨b2, h2, h3, hi, AB.put hi⟩
  | 11, ⟨b2, h2, h4⟩ => ⟨b2, h2, (h4.other (fun e => hJ.2.2 B (by rw [← e]; exact h2) (by exact hs)) 0 _).other (fun e => hJ.2.2 B (by rw [← e]; exact h2) (by exact hs)) 1 _⟩
  | 12, _ => ⟨B, hs, AB.put hi⟩
  | j + 13, _ => by simp [menOf, st2P, st2V]

set_option maxHeartbeats 6400000 in
set_option maxRecDepth 100000 in
/-- stepsFor behind the search: the piece is known. -/
theorem stepsFor_walk (b off n cap r : Nat) (v : Int) (lo hi : Kn) (w : World) (hn : n ≤ 50) (hr : r + 1 < n)
    (hsearch : ∀ w0, w0 = (w.alloc (.cells #[.slice (some ⟨b, off, none⟩) n cap] 22)).alloc (.cells #[.int .i64 v] 3) → Calls Try.prog 23 #[.int .i64 ((n : Int) - 1), .func (.func 30) #[] #[ptr w.heap.size, ptr (w.heap.size + 1)]] w0 fun e w' => e = .returned (.int .i64 (r : Int)) ∧ Below w0.heap.size w0 w')
    (l0 : w.cell? ⟨b, off + r * 2, none⟩ = some (.int .i64 lo.v)) (l1 : w.cell? ⟨b, off + r * 2 + 1, none⟩ = some (.int .i64 lo.s))
    (g0 : w.cell? ⟨b, off + (r + 1) * 2, none⟩ = some (.int .i64 hi.v)) (g1 : w.cell? ⟨b, off + (r + 1) * 2 + 1, none⟩ = some (.int .i64 hi.s))
    (b0 : 0 ≤ lo.v ∧ lo.v < hi.v ∧ hi.v ≤ 1000000000) (b1 : 0 ≤ lo.s ∧ lo.s < hi.s ∧ hi.s ≤ 1000000000) (bv : lo.v ≤ v ∧ v ≤ hi.v) :
    Calls Try.prog 21 #[.slice (some ⟨b, off, none⟩) n cap, .int .i64 v] w fun e w' => e = .returned (.int .i64 (lo.s + (2 * (v - lo.v) * (hi.s - lo.s) + (hi.v - lo.v)) / (2 * (hi.v - lo.v)))) ∧ Below w.heap.size w w' := by
  obtain ⟨lv, ls⟩ := lo
  obtain ⟨gv, gs⟩ := hi
  simp only at l0 l1 g0 g1 b0 b1 bv
  obtain ⟨w0, hw0⟩ : ∃ w0, w0 = (w.alloc (.cells #[.slice (some ⟨b, off, none⟩) n cap] 22)).alloc (.cells #[.int .i64 v] 3) := ⟨_, rfl⟩
  have hS := hsearch w0 hw0
  have HW0 : Hid (w0 = (w.alloc (.cells #[.slice (some ⟨b, off, none⟩) n cap] 22)).alloc (.cells #[.int .i64 v] 3)) := hw0
  have hb0 : Below w.heap.size w w0 := by rw [hw0]; exact below_grow _ (Nat.le_refl _) ((Below.refl _ _).alloc (Nat.le_refl _) _) _
  have HB0 : Hid (Below w.heap.size w w0) := hb0
  replace l0 := cell_later hb0 l0
  replace l1 := cell_later hb0 l1
  replace g0 := cell_later hb0 g0
  replace g1 := cell_later hb0 g1
  have cA : w0.cell? ⟨w.heap.size, 0, none⟩ = some (.slice (some ⟨b, off, none⟩) n cap) := by rw [hw0]; go_simp
  have cB : w0.cell? ⟨w.heap.size + 1, 0, none⟩ = some (.int .i64 v) := by rw [hw0]; go_simp
  have hrn : r < n := by omega
  have hr1 : 0 ≤ (r : Int) + 1 ∧ (r : Int) + 1 < (n : Int) := by omega
  have hwr : IntKind.i64.wrap ((r : Int) + 1) = (r : Int) + 1 := by rw [IntWalk.i64_left, IntWalk.wrap64_in _ ⟨by omega, by omega⟩]
  clear hw0 hb0 hsearch
  go_enter Try.func21, Try.ntmps21
  go_wp2_with fail
  rw [← HW0.out]
  refine hS.mono ?_
  rintro e wq ⟨rfl, hbq⟩
  have HBQ : Hid (Below w.heap.size w wq) := below_on HB0.out hbq
  replace l0 := cell_later hbq l0
  replace l1 := cell_later hbq l1
  replace g0 := cell_later hbq g0
  replace g1 := cell_later hbq g1
  replace cA := cell_later hbq cA
  replace cB := cell_later hbq cB
  clear hbq hS HB0 HW0
  go_wp2_with fail
  refine region_all [false, false, false, false, false, false, true, true, false, false, false, false, false, false, false, true, true, true, true, true, true, true, true, true, false, false, false, false, false, false, false, false, false, false, false, false, false, false, false, false, false, false, false, false, false, false, false, false, false] st2P
    (st2V b off n cap r ⟨lv, ls⟩ ⟨gv, gs⟩ wq.heap.size) (Apart 6 7) (by kernel_rfl) (by kernel_rfl) ?_ ?_ ?_
  · intro w1 _
    refine ⟨fun b e => ?_, fun b e => ?_, fun b e _ => ?_⟩
    all_goals (simp [undef] at e)
  · refine ⟨?_, ?_, ?_, ?_, ?_, ?_, ?_, ?_, ?_, ?_, ?_, ?_, ?_, trivial⟩
    · intro f w1 hb hJ _ K hK
      have e0 := cell_later hb cA
      simp only [over, overL, Nat.reduceAdd]
      go_simp
      exact hK _ _ ⟨_, by simp only [over, overL, Nat.reduceAdd]; rfl, rfl, hb, hJ.other (by decide) (by decide) (Below.refl _ _), fun _ h => h⟩
    · intro f w1 hb hJ _ K hK
      simp only [over, overL, Nat.reduceAdd]
      go_simp
      exact hK _ _ ⟨_, by simp only [over, overL, Nat.reduceAdd]; rfl, rfl, hb, hJ.other (by decide) (by decide) (Below.refl _ _), fun _ h => h⟩
    · intro f w1 hb hJ ⟨h15, h16, _⟩ K hK
      have h15 : f 15 = _ := h15
      have h16 : f 16 = _ := h16
      simp only [over, overL, Nat.reduceAdd, h15, h16]
      go_simp
      exact hK _ _ ⟨_, by simp only [over, overL, Nat.reduceAdd, h15, h16]; rfl, rfl, hb, hJ.other (by decide) (by decide) (Below.refl _ _), fun _ h => h⟩
    · intro f w1 hb hJ ⟨h17, _⟩ K hK
      have h17 : f 17 = _ := h17
      have e0 := cell_later hb l0
      have e1 := cell_later hb l1
      simp only [over, overL, Nat.reduceAdd, h17]
      go_simp
      exact hK _ _ ⟨_, by simp only [over, overL, Nat.reduceAdd, h17]; rfl, rfl, hb, hJ.other (by decide) (by decide) (Below.refl _ _), fun _ h => h⟩
    · intro f w1 hb hJ _ K hK
      have e0 := cell_later hb cA
      simp only [over, overL, Nat.reduceAdd]
      go_simp
      exact hK _ _ ⟨_, by simp only [over, overL, Nat.reduceAdd]; rfl, rfl, hb, hJ.other (by decide) (by decide) (Below.refl _ _), fun _ h => h⟩
    · intro f w1 hb hJ _ K hK
      simp only [over, overL, Nat.reduceAdd]
      go_simp
      exact hK _ _ ⟨_, by simp only [over, overL, Nat.reduceAdd]; rfl, rfl, hb, hJ.other (by decide) (by decide) (Below.refl _ _), fun _ h => h⟩
    · intro f w1 hb hJ ⟨h20, _⟩ K hK
      have h20 : f 20 = _ := h20
      simp only [over, overL, Nat.reduceAdd, h20]
      go_simp
      exact hK _ _ ⟨_, by simp only [over, overL, Nat.reduceAdd, h20]; rfl, rfl, hb, hJ.other (by decide) (by decide) (Below.refl _ _), fun _ h => h⟩
    · intro f w1 hb hJ ⟨h19, h21, _⟩ K hK
      have h19 : f 19 = _ := h19
      have h21 : f 21 = _ := h21
      simp only [over, overL, Nat.reduceAdd, h19, h21]
      go_simp
      exact hK _ _ ⟨_, by simp only [over, overL, Nat.reduceAdd, h19, h21]; rfl, rfl, hb, hJ.other (by decide) (by decide) (Below.refl _ _), fun _ h => h⟩
    · intro f w1 hb hJ ⟨h22, _⟩ K hK
      have h22 : f 22 = _ := h22
      have e0 := cell_later hb g0
      have e1 := cell_later hb g1
      simp only [over, overL, Nat.reduceAdd, h22]
      go_simp
      exact hK _ _ ⟨_, by simp only [over, overL, Nat.reduceAdd, h22]; rfl, rfl, hb, hJ.other (by decide) (by decide) (Below.refl _ _), fun _ h => h⟩
    · intro f w1 hb hJ _ K hK
      simp only [over, overL, Nat.reduceAdd]
      go_simp
      exact hK _ _ ⟨_, by simp only [over, overL, Nat.reduceAdd]; rfl, ⟨w1.heap.size, rfl, hb.size, z0, Kf.new w1 z0⟩, below_on hb ((Below.refl _ _).alloc (Nat.le_refl _) _), hJ.left (by decide), fun j h => st2V_mono b off n cap r ⟨lv, ls⟩ ⟨gv, gs⟩ wq.heap.size j _ _ _ h ((Below.refl _ _).alloc (Nat.le_refl _) _)⟩
    · intro f w1 hb hJ _ K hK
      simp only [over, overL, Nat.reduceAdd]
      go_simp
      exact hK _ _ ⟨_, by simp only [over, overL, Nat.reduceAdd]; rfl, ⟨w1.heap.size, rfl, hb.size, z0, Kf.new w1 z0⟩, below_on hb ((Below.refl _ _).alloc (Nat.le_refl _) _), hJ.right (by decide), fun j h => st2V_mono b off n cap r ⟨lv, ls⟩ ⟨gv, gs⟩ wq.heap.size j _ _ _ h ((Below.refl _ _).alloc (Nat.le_refl _) _)⟩
    · intro f w1 hb hJ ⟨h6, h18, _⟩ K hK
      have h18 : f 18 = _ := h18
      obtain ⟨B, h6, nB, x, AB⟩ := (show ∃ B, f 6 = ptr B ∧ wq.heap.size ≤ B ∧ ∃ x, Kf B x w1 from h6)
      have a0 := AB.c0
      have a1 := AB.c1
      have e0 := AB.f0
      have e1 := AB.f1
      simp only [over, overL, Nat.reduceAdd, h6, h18]
      go_simp
      refine hK _ _ ⟨undef, by simp only [over, overL, Nat.reduceAdd, h6, h18]; rfl, ?_, (hb.setCell nB _).setCell nB _, ?_, ?_⟩
      · exact ⟨B, h6, AB.put ⟨lv, ls⟩⟩
      · exact hJ.same (by simp)
      · exact st2_store6 hJ h6 AB
    · intro f w1 hb hJ ⟨h7, h23, _⟩ K hK
      have h23 : f 23 = _ := h23
      obtain ⟨B, h7, nB, x, AB⟩ := (show ∃ B, f 7 = ptr B ∧ wq.heap.size ≤ B ∧ ∃ x, Kf B x w1 from h7)
      have a0 := AB.c0
      have a1 := AB.c1
      have e0 := AB.f0
      have e1 := AB.f1
      simp only [over, overL, Nat.reduceAdd, h7, h23]
      go_simp
      refine hK _ _ ⟨undef, by simp only [over, overL, Nat.reduceAdd, h7, h23]; rfl, ?_, (hb.setCell nB _).setCell nB _, ?_, ?_⟩
      · exact ⟨B, h7, AB.put ⟨gv, gs⟩⟩
      · exact hJ.same (by simp)
      · exact st2_store7 hJ h7 AB
  intro f w1 hb1 hJ h
  have h18 : f 18 = kv ⟨lv, ls⟩ := h.2.2.2.1
  have h23 : f 23 = kv ⟨gv, gs⟩ := h.2.2.2.2.2.2.2.2.1
  obtain ⟨b6, h6, A6⟩ := (show ∃ b, f 6 = ptr b ∧ Kf b ⟨lv, ls⟩ w1 from h.2.2.2.2.2.2.2.2.2.2.2.1)
  obtain ⟨b7, h7, A7⟩ := (show ∃ b, f 7 = ptr b ∧ Kf b ⟨gv, gs⟩ w1 from h.2.2.2.2.2.2.2.2.2.2.2.2.1)
  simp only [over_eq, overL, h6, h7, h18, h23, Nat.reduceAdd]
  have a0 := A6.c0
  have a1 := A6.c1
  have d0 := A7.c0
  have d1 := A7.c1
  replace cB := cell_later hb1 cB
  have HB1 : Hid (Below w.heap.size w w1) := below_on HBQ.out hb1
  clear A6 A7 hJ h h6 h7 h18 h23 hb1 l0 l1 g0 g1 cA HBQ
  simp only at a0 a1 d0 d1
  have m0 : 0 ≤ 2 * (v - lv) * (gs - ls) := Int.mul_nonneg (by omega) (by omega)
  have m1 : 2 * (v - lv) * (gs - ls) ≤ 2 * 1000000000 * 1000000000 := Int.mul_le_mul (by omega) (by omega) (by omega) (by omega)
  have m2 : 2 * (v - lv) * (gs - ls) ≤ 2000000000000000000 := by omega
  have HD : Hid (0 ≤ (2 * (v - lv) * (gs - ls) + (gv - lv)) / (2 * (gv - lv)) ∧ (2 * (v - lv) * (gs - ls) + (gv - lv)) / (2 * (gv - lv)) ≤ 3000000000000000000) := by
    refine ⟨Int.ediv_nonneg (by omega) (by omega), ?_⟩
    have := Int.ediv_le_self (2 * (gv - lv)) (show 0 ≤ 2 * (v - lv) * (gs - ls) + (gv - lv) by omega)
    omega
  clear m1
  go_wp2_with fail
  go_big_quiet (fail)
  go_wp2_with fail
  go_big_quiet (fail)
  go_wp2
  go_ret
  refine ⟨ret_int (IntWalk.wrap64_in _ ?_), below_drewN (below_drewN HB1.out _) _⟩
  have := HD.out
  omega

theorem stepsFor_any (ao : Option Addr) (cap : Nat) (l : List Kn) (v : Int) (w : World) (hL : Kns w ao l) (hc : Curve l) (hv : 0 ≤ v) (hm : v ≤ mostV l) :
    Calls Try.prog 21 #[.slice ao l.length cap, .int .i64 v] w fun e w' => e = .returned (.int .i64 (stp l v)) ∧ Below w.heap.size w w' := by
  have h2 := hc.two
  have h50 := hc.most
  have sg := segAt_seg hc hm
  have hlow := segAt_low hc hv sg
  rw [stp_at hc sg]
  have hrise := hc.rises (seg l v) (by have := sg.1; omega)
  have n0 := hc.near (seg l v) (by have := sg.1; omega)
  have n1 := hc.near (seg l v + 1) sg.1
  obtain ⟨b, off, rfl, _, c0, c1⟩ := hL.at (k := seg l v) (by have := sg.1; omega)
  obtain ⟨b', off', e, _, d0, d1⟩ := hL.at sg.1
  injection e with e
  injection e with e e'
  subst e e'
  rw [← cv_at] at c0 d0
  rw [← cs_at] at c1 d1
  refine stepsFor_walk b off l.length cap (seg l v) v ⟨cv l (seg l v), cs l (seg l v)⟩ ⟨cv l (seg l v + 1), cs l (seg l v + 1)⟩ w h50 sg.1 ?_ c0 c1 d0 d1 (by simp only; omega) (by simp only; omega) ⟨hlow, sg.2.1⟩
  intro w0 hw0
  have hb0 : Below w.heap.size w w0 := by rw [hw0]; exact below_grow _ (Nat.le_refl _) ((Below.refl _ _).alloc (Nat.le_refl _) _) _
  have cA : w0.cell? ⟨w.heap.size, 0, none⟩ = some (.slice (some ⟨b, off, none⟩) l.length cap) := by rw [hw0]; go_simp
  have cB : w0.cell? ⟨w.heap.size + 1, 0, none⟩ = some (.int .i64 v) := by rw [hw0]; go_simp
  have hs := search_any 30 #[ptr w.heap.size, ptr (w.heap.size + 1)] (fun i => decide (v ≤ cv l (i + 1))) (l.length - 1) w0 en30 (fun i W hi hW => by
    obtain ⟨b2, off2, e, _, f0, _⟩ := ((hL.next hb0).next hW).at (k := i + 1) (by omega)
    injection e with e
    injection e with e e'
    subst e e'
    rw [← cv_at] at f0
    exact stepsTest_any w.heap.size (w.heap.size + 1) b off l.length cap i v (cv l (i + 1)) W (cell_later hW cA) (cell_later hW cB) (by omega) h50 f0) (by omega)
  rw [show ((l.length - 1 : Nat) : Int) = (l.length : Int) - 1 by omega] at hs
  refine hs.mono ?_
  rintro e w' ⟨r, rfl, h1, h3, h4, hb⟩
  refine ⟨?_, hb⟩
  have hr : r ≠ l.length - 1 := by
    intro e
    subst e
    rcases h3 with h3 | h3
    · omega
    · simp only [decide_eq_false_iff_not] at h3
      rw [show l.length - 1 - 1 + 1 = l.length - 1 by omega] at h3
      exact h3 hm
  have hseg : SegAt l v r := by
    refine ⟨by omega, ?_, ?_⟩
    · rcases h4 with h4 | h4
      · exact absurd h4 hr
      · simpa using h4
    · rcases h3 with h3 | h3
      · exact .inl h3
      · by_cases e : r = 0
        · exact .inl e
        · right
          simp only [decide_eq_false_iff_not] at h3
          rw [show r - 1 + 1 = r by omega] at h3
          omega
  rw [segAt_one hc hseg sg]
end Go.Proofs.Yteamcgoemgailaa
