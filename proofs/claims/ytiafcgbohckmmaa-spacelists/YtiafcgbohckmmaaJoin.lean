/- join walked. -/
import Derived.Test.YtiafcgbohckmmaaRefu
import Derived.Test.YtiafcgbohckmmaaSeqJ
import Derived.Shelf.Abstract
namespace Go.Proofs.Ytiafcgbohckmmaa
open Go.RowKit

theorem over_eq (a : Act) (m : List Bool) (f : Nat → Value) : over a m f = { tmps := (overL f m 0 a.tmps.toList).toArray, defers := a.defers } := rfl
abbrev ptr (b : Nat) : Value := .pointer (some ⟨b, 0, none⟩)
/-- Two slots hold two blocks. -/
def Apart (s t : Nat) (f : Nat → Value) (w : World) : Prop :=
  (∀ b, f s = ptr b → b < w.heap.size) ∧ (∀ b, f t = ptr b → b < w.heap.size) ∧ (∀ b, f s = ptr b → f t = ptr b → False)
theorem Apart.other {s t d : Nat} {f : Nat → Value} {w w' : World} {v : Value} (h : Apart s t f w) (hs : s ≠ d) (ht : t ≠ d) (hb : Below w.heap.size w w') : Apart s t (upd f d v) w' := by
  unfold Apart
  rw [upd_other hs, upd_other ht]
  exact ⟨fun b e => Nat.lt_of_lt_of_le (h.1 b e) hb.size, fun b e => Nat.lt_of_lt_of_le (h.2.1 b e) hb.size, h.2.2⟩
theorem Apart.left {s t : Nat} {f : Nat → Value} {w : World} {o : Obj} (h : Apart s t f w) (hst : t ≠ s) : Apart s t (upd f s (ptr w.heap.size)) (w.alloc o) := by
  unfold Apart
  rw [upd_same, upd_other hst]
  refine ⟨fun b e => ?_, fun b e => ?_, fun b e e2 => ?_⟩
  · simp at e; subst e; simp
  · have := h.2.1 b e; simp; omega
  · simp at e; subst e; have := h.2.1 _ e2; omega
theorem Apart.right {s t : Nat} {f : Nat → Value} {w : World} {o : Obj} (h : Apart s t f w) (hst : s ≠ t) : Apart s t (upd f t (ptr w.heap.size)) (w.alloc o) := by
  unfold Apart
  rw [upd_same, upd_other hst]
  refine ⟨fun b e => ?_, fun b e => ?_, fun b e e2 => ?_⟩
  · have := h.1 b e; simp; omega
  · simp at e; subst e; simp
  · simp at e2; subst e2; have := h.1 _ e; omega

/-- The number of a point at a place. -/
def Pt.at (p : Pt) : Nat → Int
  | 0 => p.x
  | 1 => p.y
  | _ => p.z
/-- Three numbers in a block, not frozen. -/
structure Arr (b : Nat) (A : Nat → Int) (w : World) : Prop where
  lt : b < w.heap.size
  cell : ∀ j, j < 3 → w.cell? ⟨b, j, none⟩ = some (.int .i64 (A j))
  free : ∀ j, j < 3 → w.frozen? ⟨b, j, none⟩ = false
theorem Arr.later {b : Nat} {A : Nat → Int} {w w' : World} (h : Arr b A w) (hb : Below w.heap.size w w') : Arr b A w' :=
  ⟨Nat.lt_of_lt_of_le h.lt hb.size, fun j hj => cell_later hb (h.cell j hj), fun j hj => (hb.frozen (p := ⟨b, j, none⟩) h.lt).trans (h.free j hj)⟩
theorem Arr.set {b : Nat} {A : Nat → Int} {w : World} (h : Arr b A w) {k : Nat} (hk : k < 3) (v : Int) : Arr b (fun j => if j = k then v else A j) (w.setCell ⟨b, k, none⟩ (.int .i64 v)) := by
  refine ⟨by simpa using h.lt, fun j hj => ?_, fun j hj => ?_⟩
  · have c := h.cell j hj
    have c2 := h.cell k hk
    by_cases e : j = k
    · subst e; simp [go_sem, c]
    · simp [go_sem, c, e]
  · have c := h.free j hj
    simp [go_sem, c]
theorem Arr.other {b b' : Nat} {A : Nat → Int} {w : World} (h : Arr b A w) (hn : b ≠ b') (k : Nat) (v : Value) : Arr b A (w.setCell ⟨b', k, none⟩ v) := by
  refine ⟨by simpa using h.lt, fun j hj => ?_, fun j hj => ?_⟩
  · have c := h.cell j hj
    simp [go_sem, c]
  · have c := h.free j hj
    simp [go_sem, c]
theorem Arr.new (w : World) : Arr w.heap.size (fun _ => 0) (w.alloc (.cells #[.int .i64 0, .int .i64 0, .int .i64 0] 67)) := by
  refine ⟨by simp, fun j hj => ?_, fun j hj => ?_⟩
  all_goals
    rcases (show j = 0 ∨ j = 1 ∨ j = 2 by omega) with e | e | e
    all_goals (subst e; go_simp)

def jn1V (p q : Pt) (n : Nat) (d : Nat) (v : Value) (w : World) : Prop :=
  match d with
  | 10 => v = pv p
  | 11 => v = pv p
  | 12 => v = pv q
  | 13 => v = pv q
  | 7 => ∃ b, v = ptr b ∧ n ≤ b ∧ Arr b (fun _ => 0) w
  | 8 => ∃ b, v = ptr b ∧ n ≤ b ∧ Arr b (fun _ => 0) w
  | _ => True
theorem jn1V_mono (p q : Pt) (n : Nat) (d : Nat) (v : Value) (w w' : World) (h : jn1V p q n d v w) (hb : Below w.heap.size w w') : jn1V p q n d v w' := by
  unfold jn1V at h ⊢
  split <;> simp only [] at h <;> first | exact h | (obtain ⟨b, h1, h2, h3⟩ := h; exact ⟨b, h1, h2, h3.later hb⟩)
def jn5V (p q r : Pt) (b7 b8 g k : Nat) (d : Nat) (v : Value) (_w : World) : Prop :=
  match d with
  | 17 => v = .int .i64 (k : Int)
  | 18 => v = .func (.func g) #[] #[]
  | 19 => v = .int .i64 (k : Int)
  | 20 => v = .pointer (some ⟨b7, k, none⟩)
  | 21 => v = .int .i64 (p.at k)
  | 22 => v = .int .i64 (k : Int)
  | 23 => v = .pointer (some ⟨b8, k, none⟩)
  | 24 => v = .int .i64 (q.at k)
  | 25 => v = .int .i64 (r.at k)
  | _ => True

set_option maxHeartbeats 6400000 in
set_option maxRecDepth 100000 in
theorem join_any (g : Nat) (eg : ∀ args w, (callFunc g args).run Try.prog w = .ok (.enter g args) w) (p q r : Pt) (w : World) (hg : ∀ k, k < 3 → ∀ W, Calls Try.prog g #[.int .i64 (p.at k), .int .i64 (q.at k)] W fun e w' => e = .returned (.int .i64 (r.at k)) ∧ w' = W) :
    Calls Try.prog 46 #[pv p, pv q, .func (.func g) #[] #[]] w fun e w' => e = .returned (pv r) ∧ Below w.heap.size w w' := by
  have HG : Hid (∀ k, k < 3 → ∀ W, Calls Try.prog g #[.int .i64 (p.at k), .int .i64 (q.at k)] W fun e w' => e = .returned (.int .i64 (r.at k)) ∧ w' = W) := hg
  clear hg
  obtain ⟨w0, hw0⟩ : ∃ w0, w0 = ((w.alloc (po p)).alloc (po q)).alloc (.cells #[.int .i64 0, .int .i64 0, .int .i64 0] 23) := ⟨_, rfl⟩
  have HW0 : Hid (w0 = ((w.alloc (po p)).alloc (po q)).alloc (.cells #[.int .i64 0, .int .i64 0, .int .i64 0] 23)) := hw0
  have HS0 : Hid (w0.heap.size = w.heap.size + 1 + 1 + 1) := by show w0.heap.size = _; rw [hw0]; simp
  clear hw0
  go_enter Try.func46, Try.ntmps46
  go_wp2_with fail
  rw [← HW0.out]
  have HR : Hid (Arr (w.heap.size + 1 + 1) (fun _ => 0) w0) := by
    show Arr _ _ _
    rw [HW0.out]
    refine ⟨by simp, fun j hj => ?_, fun j hj => ?_⟩
    all_goals
      rcases (show j = 0 ∨ j = 1 ∨ j = 2 by omega) with e | e | e
      all_goals (subst e; go_simp)
  have HP : Hid (BxAt w0 w.heap.size 0 ⟨p.x, p.y, p.z, 0, 0, 0⟩ ∨ True) := .inr trivial
  have p0 : w0.cell? ⟨w.heap.size, 0, none⟩ = some (.int .i64 p.x) := by rw [HW0.out]; go_simp
  have p1 : w0.cell? ⟨w.heap.size, 1, none⟩ = some (.int .i64 p.y) := by rw [HW0.out]; go_simp
  have p2 : w0.cell? ⟨w.heap.size, 2, none⟩ = some (.int .i64 p.z) := by rw [HW0.out]; go_simp
  have q0 : w0.cell? ⟨w.heap.size + 1, 0, none⟩ = some (.int .i64 q.x) := by rw [HW0.out]; go_simp
  have q1 : w0.cell? ⟨w.heap.size + 1, 1, none⟩ = some (.int .i64 q.y) := by rw [HW0.out]; go_simp
  have q2 : w0.cell? ⟨w.heap.size + 1, 2, none⟩ = some (.int .i64 q.z) := by rw [HW0.out]; go_simp
  refine region_seqJ 6 [false, false, false, false, false, false, false, true, true, false, true, true, true, true, false, false, false, false, false, false, false, false, false, false, false, false, false, false, false, false, false, false, false, false, false]
    [(10, [], none), (11, [10], none), (12, [], none), (13, [12], none), (7, [], none), (8, [], none)]
    (jn1V p q w0.heap.size) (Apart 7 8) ?_ (by kernel_rfl) (by kernel_rfl) (by kernel_rfl) (by kernel_rfl) (by kernel_rfl) (by decide) (jn1V_mono p q w0.heap.size) ?_ ?_
  · intro w1 _
    refine ⟨fun b e => ?_, fun b e => ?_, fun b e _ => ?_⟩
    all_goals (simp [undef] at e)
  · refine ⟨?_, ?_, ?_, ?_, ?_, ?_, trivial⟩
    · intro f w1 hb hJ _ K hK
      have c0 := cell_later hb p0
      have c1 := cell_later hb p1
      have c2 := cell_later hb p2
      simp only [over, overL, Nat.reduceAdd]
      go_simp
      exact hK _ _ ⟨_, rfl, by simp only [over, overL, Nat.reduceAdd]; rfl, Below.refl _ _, hJ.other (by decide) (by decide) (Below.refl _ _)⟩
    · intro f w1 hb hJ ⟨h10, _⟩ K hK
      have h10 : f 10 = _ := h10
      simp only [over, overL, Nat.reduceAdd, h10]
      go_simp
      refine (numbers_any p w1).mono ?_
      rintro e w2 ⟨rfl, hw⟩
      have hbn : Below w1.heap.size w1 w2 := by rw [hw]; exact ((Below.refl _ _).alloc (Nat.le_refl _) _).alloc (by simp) _
      exact hK _ _ ⟨_, rfl, by simp only [over, overL, Nat.reduceAdd, h10]; rfl, hbn, hJ.other (by decide) (by decide) hbn⟩
    · intro f w1 hb hJ _ K hK
      have c0 := cell_later hb q0
      have c1 := cell_later hb q1
      have c2 := cell_later hb q2
      simp only [over, overL, Nat.reduceAdd]
      go_simp
      exact hK _ _ ⟨_, rfl, by simp only [over, overL, Nat.reduceAdd]; rfl, Below.refl _ _, hJ.other (by decide) (by decide) (Below.refl _ _)⟩
    · intro f w1 hb hJ ⟨h12, _⟩ K hK
      have h12 : f 12 = _ := h12
      simp only [over, overL, Nat.reduceAdd, h12]
      go_simp
      refine (numbers_any q w1).mono ?_
      rintro e w2 ⟨rfl, hw⟩
      have hbn : Below w1.heap.size w1 w2 := by rw [hw]; exact ((Below.refl _ _).alloc (Nat.le_refl _) _).alloc (by simp) _
      exact hK _ _ ⟨_, rfl, by simp only [over, overL, Nat.reduceAdd, h12]; rfl, hbn, hJ.other (by decide) (by decide) hbn⟩
    · intro f w1 hb hJ _ K hK
      simp only [over, overL, Nat.reduceAdd]
      go_simp
      exact hK _ _ ⟨_, ⟨_, rfl, hb.size, Arr.new w1⟩, by simp only [over, overL, Nat.reduceAdd]; rfl, (Below.refl _ _).alloc (Nat.le_refl _) _, hJ.left (by decide)⟩
    · intro f w1 hb hJ _ K hK
      simp only [over, overL, Nat.reduceAdd]
      go_simp
      exact hK _ _ ⟨_, ⟨_, rfl, hb.size, Arr.new w1⟩, by simp only [over, overL, Nat.reduceAdd]; rfl, (Below.refl _ _).alloc (Nat.le_refl _) _, hJ.right (by decide)⟩
  intro f w1 hb1 hJ h
  have h11 : f 11 = pv p := h.2.1
  have h13 : f 13 = pv q := h.2.2.2.1
  obtain ⟨b7, h7, n7, A7⟩ := (show ∃ b, f 7 = ptr b ∧ w0.heap.size ≤ b ∧ Arr b (fun _ => 0) w1 from h.2.2.2.2.1)
  obtain ⟨b8, h8, n8, A8⟩ := (show ∃ b, f 8 = ptr b ∧ w0.heap.size ≤ b ∧ Arr b (fun _ => 0) w1 from h.2.2.2.2.2.1)
  have hne : b7 ≠ b8 := fun e => hJ.2.2 b7 h7 (by rw [h8, e])
  simp only [over_eq, overL, h7, h8, h11, h13, Nat.reduceAdd, List.drop_succ_cons, List.drop_zero]
  have hA : Arr b7 p.at ((((((w1.setCell ⟨b7, 0, none⟩ (.int .i64 p.x)).setCell ⟨b7, 1, none⟩ (.int .i64 p.y)).setCell ⟨b7, 2, none⟩ (.int .i64 p.z)).setCell ⟨b8, 0, none⟩ (.int .i64 q.x)).setCell ⟨b8, 1, none⟩ (.int .i64 q.y)).setCell ⟨b8, 2, none⟩ (.int .i64 q.z)) := by
    have h1 := ((((((A7.set (k := 0) (by decide) p.x).set (k := 1) (by decide) p.y).set (k := 2) (by decide) p.z).other hne 0 (.int .i64 q.x)).other hne 1 (.int .i64 q.y)).other hne 2 (.int .i64 q.z))
    refine ⟨h1.lt, fun j hj => ?_, h1.free⟩
    rw [h1.cell j hj]
    rcases (show j = 0 ∨ j = 1 ∨ j = 2 by omega) with e | e | e
    all_goals (subst e; rfl)
  have hB : Arr b8 q.at ((((((w1.setCell ⟨b7, 0, none⟩ (.int .i64 p.x)).setCell ⟨b7, 1, none⟩ (.int .i64 p.y)).setCell ⟨b7, 2, none⟩ (.int .i64 p.z)).setCell ⟨b8, 0, none⟩ (.int .i64 q.x)).setCell ⟨b8, 1, none⟩ (.int .i64 q.y)).setCell ⟨b8, 2, none⟩ (.int .i64 q.z)) := by
    have h1 := ((((((A8.other (Ne.symm hne) 0 (.int .i64 p.x)).other (Ne.symm hne) 1 (.int .i64 p.y)).other (Ne.symm hne) 2 (.int .i64 p.z)).set (k := 0) (by decide) q.x).set (k := 1) (by decide) q.y).set (k := 2) (by decide) q.z)
    refine ⟨h1.lt, fun j hj => ?_, h1.free⟩
    rw [h1.cell j hj]
    rcases (show j = 0 ∨ j = 1 ∨ j = 2 by omega) with e | e | e
    all_goals (subst e; rfl)
  have hBel : Below w0.heap.size w0 ((((((w1.setCell ⟨b7, 0, none⟩ (.int .i64 p.x)).setCell ⟨b7, 1, none⟩ (.int .i64 p.y)).setCell ⟨b7, 2, none⟩ (.int .i64 p.z)).setCell ⟨b8, 0, none⟩ (.int .i64 q.x)).setCell ⟨b8, 1, none⟩ (.int .i64 q.y)).setCell ⟨b8, 2, none⟩ (.int .i64 q.z)) :=
    (((((hb1.setCell n7 _).setCell n7 _).setCell n7 _).setCell n8 _).setCell n8 _).setCell n8 _
  have a0 := A7.cell 0 (by decide)
  have a1 := A7.cell 1 (by decide)
  have a2 := A7.cell 2 (by decide)
  have d0 := A8.cell 0 (by decide)
  have d1 := A8.cell 1 (by decide)
  have d2 := A8.cell 2 (by decide)
  have e0 := A7.free 0 (by decide)
  have e1 := A7.free 1 (by decide)
  have e2 := A7.free 2 (by decide)
  have g0 := A8.free 0 (by decide)
  have g1 := A8.free 1 (by decide)
  have g2 := A8.free 2 (by decide)
  have HA := (show Hid _ from hA)
  have HB := (show Hid _ from hB)
  have HBel := (show Hid _ from hBel)
  have HN : Hid (w0.heap.size ≤ b7) := n7
  have HNE : Hid (b7 ≠ b8) := hne
  clear A7 A8 hA hB hBel hJ h h7 h8 h11 h13 hb1 n7 n8 p0 p1 p2 q0 q1 q2
  go_wp2_with fail
  clear a0 a1 a2 d0 d1 d2 e0 e1 e2 g0 g1 g2
  generalize ((((((w1.setCell ⟨b7, 0, none⟩ (.int .i64 p.x)).setCell ⟨b7, 1, none⟩ (.int .i64 p.y)).setCell ⟨b7, 2, none⟩ (.int .i64 p.z)).setCell ⟨b8, 0, none⟩ (.int .i64 q.x)).setCell ⟨b8, 1, none⟩ (.int .i64 q.y)).setCell ⟨b8, 2, none⟩ (.int .i64 q.z)) = w2 at *
  go_loopw [9, 14] (fun _ i wr => ∃ k : Nat, k ≤ 3 ∧ i = .int .i64 k ∧ Arr b7 (fun j => if j < k then r.at j else p.at j) wr ∧ Arr b8 q.at wr ∧ Below w0.heap.size w0 wr) (fun _ i _ => 3 - (intOf i).toNat)
  case atStart => exact ⟨0, Nat.zero_le _, rfl, by simpa using HA.out, HB.out, HBel.out⟩
  case round =>
    obtain ⟨k, hk, rfl, hA, hB, hBel⟩ := hrel
    have HA := (show Hid _ from hA)
    have HB := (show Hid _ from hB)
    have HBel := (show Hid _ from hBel)
    clear hA hB hBel
    by_cases hlt : k < 3
    · have ck : wr.cell? ⟨b7, k, none⟩ = some (.int .i64 (p.at k)) := by
        have := HA.out.cell k hlt
        simpa using this
      have dk := HB.out.cell k hlt
      have fk := HA.out.free k hlt
      have hcall := HG.out k hlt
      go_wp2_with fail
      rw [show decide ((k : Int) < 3) = true by simp; omega]
      refine region_seq 9 [false, false, false, false, false, false, false, false, false, false, false, false, false, false, false, false, false, true, true, true, true, true, true, true, true, true, false, false, false, false, false, false, false, false, false]
        [(17, [], none), (18, [], none), (19, [], none), (20, [19], none), (21, [20], none), (22, [], none), (23, [22], none), (24, [23], none), (25, [18, 21, 24], none)]
        (jn5V p q r b7 b8 g k) (by kernel_rfl) (by kernel_rfl) (by kernel_rfl) (by kernel_rfl) (by kernel_rfl) (by decide) (fun _ _ _ _ h _ => h) ?_ ?_
      · refine ⟨?_, ?_, ?_, ?_, ?_, ?_, ?_, ?_, ?_, trivial⟩
        · intro f w3 hb _ K hK
          simp only [over, overL, Nat.reduceAdd]
          go_simp
          exact hK _ _ ⟨_, rfl, by simp only [over, overL, Nat.reduceAdd]; rfl, Below.refl _ _⟩
        · intro f w3 hb _ K hK
          simp only [over, overL, Nat.reduceAdd]
          go_simp
          exact hK _ _ ⟨_, rfl, by simp only [over, overL, Nat.reduceAdd]; rfl, Below.refl _ _⟩
        · intro f w3 hb _ K hK
          simp only [over, overL, Nat.reduceAdd]
          go_simp
          exact hK _ _ ⟨_, rfl, by simp only [over, overL, Nat.reduceAdd]; rfl, Below.refl _ _⟩
        · intro f w3 hb ⟨h19, _⟩ K hK
          have h19 : f 19 = _ := h19
          simp only [over, overL, Nat.reduceAdd, h19]
          go_simp
          exact hK _ _ ⟨_, rfl, by simp only [over, overL, Nat.reduceAdd, h19]; rfl, Below.refl _ _⟩
        · intro f w3 hb ⟨h20, _⟩ K hK
          have h20 : f 20 = _ := h20
          have c := cell_later hb ck
          simp only [over, overL, Nat.reduceAdd, h20]
          go_simp
          exact hK _ _ ⟨_, rfl, by simp only [over, overL, Nat.reduceAdd, h20]; rfl, Below.refl _ _⟩
        · intro f w3 hb _ K hK
          simp only [over, overL, Nat.reduceAdd]
          go_simp
          exact hK _ _ ⟨_, rfl, by simp only [over, overL, Nat.reduceAdd]; rfl, Below.refl _ _⟩
        · intro f w3 hb ⟨h22, _⟩ K hK
          have h22 : f 22 = _ := h22
          simp only [over, overL, Nat.reduceAdd, h22]
          go_simp
          exact hK _ _ ⟨_, rfl, by simp only [over, overL, Nat.reduceAdd, h22]; rfl, Below.refl _ _⟩
        · intro f w3 hb ⟨h23, _⟩ K hK
          have h23 : f 23 = _ := h23
          have c := cell_later hb dk
          simp only [over, overL, Nat.reduceAdd, h23]
          go_simp
          exact hK _ _ ⟨_, rfl, by simp only [over, overL, Nat.reduceAdd, h23]; rfl, Below.refl _ _⟩
        · intro f w3 hb ⟨h18, h21, h24, _⟩ K hK
          have h18 : f 18 = _ := h18
          have h21 : f 21 = _ := h21
          have h24 : f 24 = _ := h24
          simp only [over, overL, Nat.reduceAdd, h18, h21, h24]
          go_simp
          refine (hcall w3).mono ?_
          rintro e w4 ⟨rfl, hw⟩
          exact hK _ _ ⟨_, rfl, by simp only [over, overL, Nat.reduceAdd, h18, h21, h24]; rfl, hw ▸ Below.refl _ _⟩
      intro f w3 hb3 h
      have h17 : f 17 = .int .i64 (k : Int) := h.1
      have h25 : f 25 = .int .i64 (r.at k) := h.2.2.2.2.2.2.2.2.1
      have hA3 := HA.out.later hb3
      have hB3 := HB.out.later hb3
      have hBel3 : Below w0.heap.size w0 w3 := HBel.out.trans (hb3.mono HBel.out.size)
      have c := cell_later hb3 ck
      have fr := hA3.free k hlt
      have hA4 : Arr b7 (fun j => if j < k + 1 then r.at j else p.at j) (w3.setCell ⟨b7, k, none⟩ (.int .i64 (r.at k))) := by
        have h1 := hA3.set hlt (r.at k)
        refine ⟨h1.lt, fun j hj => ?_, h1.free⟩
        rw [h1.cell j hj]
        by_cases e : j = k
        · subst e; rw [if_pos rfl, if_pos (by omega)]
        · rw [if_neg e]
          by_cases e2 : j < k
          · rw [if_pos e2, if_pos (by omega)]
          · rw [if_neg e2, if_neg (by omega)]
      have HR4 : Hid ((Arr b7 (fun j => if j < k + 1 then r.at j else p.at j) (w3.setCell ⟨b7, k, none⟩ (.int .i64 (r.at k)))) ∧ Arr b8 q.at (w3.setCell ⟨b7, k, none⟩ (.int .i64 (r.at k))) ∧ Below w0.heap.size w0 (w3.setCell ⟨b7, k, none⟩ (.int .i64 (r.at k)))) :=
        ⟨hA4, hB3.other (Ne.symm HNE.out) k _, hBel3.setCell HN.out _⟩
      clear hA3 hB3 hBel3 hA4 hb3 h ck dk fk hcall
      simp only [over_eq, overL, h17, h25, Nat.reduceAdd, List.drop_succ_cons, List.drop_zero]
      go_wp2
      go_roundw
      case rel => exact ⟨k + 1, by omega, by go_num, HR4.out⟩
      case measure => simp [intOf]; omega
    · have hk3 : k = 3 := by omega
      subst hk3
      have c0 : wr.cell? ⟨b7, 0, none⟩ = some (.int .i64 r.x) := HA.out.cell 0 (by decide)
      have c1 : wr.cell? ⟨b7, 1, none⟩ = some (.int .i64 r.y) := HA.out.cell 1 (by decide)
      have c2 : wr.cell? ⟨b7, 2, none⟩ = some (.int .i64 r.z) := HA.out.cell 2 (by decide)
      have hR := HR.out.later HBel.out
      have r0 : wr.cell? ⟨w.heap.size + 1 + 1, 0, none⟩ = some (.int .i64 0) := hR.cell 0 (by decide)
      have r1 : wr.cell? ⟨w.heap.size + 1 + 1, 1, none⟩ = some (.int .i64 0) := hR.cell 1 (by decide)
      have r2 : wr.cell? ⟨w.heap.size + 1 + 1, 2, none⟩ = some (.int .i64 0) := hR.cell 2 (by decide)
      have f0 := hR.free 0 (by decide)
      have f1 := hR.free 1 (by decide)
      have f2 := hR.free 2 (by decide)
      have hB0 : Below w.heap.size w w0 := by
        rw [HW0.out]
        exact (((Below.refl _ _).alloc (Nat.le_refl _) _).alloc (by simp) _).alloc (by simp; omega) _
      have HBW : Hid (Below w.heap.size w wr) := hB0.trans (HBel.out.mono hB0.size)
      clear hR hB0
      go_wp2
      obtain ⟨x0, x1, x2⟩ := box3 r0 r1 r2 (.int .i64 r.x) (.int .i64 r.y) (.int .i64 r.z)
      refine bodyPost_ret (v := pv r) (by simp [results, Try.results46, go_sem, r0, r1, r2]) rfl ⟨rfl, ?_⟩
      exact ((HBW.out.setCell (by show w.heap.size ≤ w.heap.size + 1 + 1; omega) _).setCell (by show w.heap.size ≤ w.heap.size + 1 + 1; omega) _).setCell (by show w.heap.size ≤ w.heap.size + 1 + 1; omega) _
end Go.Proofs.Ytiafcgbohckmmaa
