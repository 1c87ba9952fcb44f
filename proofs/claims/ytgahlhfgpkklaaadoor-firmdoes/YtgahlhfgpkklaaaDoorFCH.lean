/- isWithin, isRig walked. -/
import Derived.Test.YtgahlhfgpkklaaaDoorFBH
namespace Go.Proofs.YtgahlhfgpkklaaaDoor
open Go.RowKit

abbrev P3 (w : World) (B : Nat) (p : Pt) : World := ((w.setCell ⟨B, 0, none⟩ (.int .i64 p.x)).setCell ⟨B, 1, none⟩ (.int .i64 p.y)).setCell ⟨B, 2, none⟩ (.int .i64 p.z)
theorem Bk.put3 {B : Nat} {u0 u1 u2 : Value} {w : World} (h : Bk B [u0, u1, u2] w) (p : Pt) : Bk B (c3 p) (P3 w B p) := ((h.put 0 (.int .i64 p.x)).put 1 (.int .i64 p.y)).put 2 (.int .i64 p.z)
theorem drewN_low (b : Nat) (w : World) (n : Nat) : Below b w (w.drewN n) := ⟨rfl, rfl, rfl, Nat.le_refl _, fun _ _ => rfl⟩
theorem Bk.oth3 {b B : Nat} {cs : List Value} {w : World} (h : Bk b cs w) (hn : b ≠ B) (p : Pt) : Bk b cs (P3 w B p) := ((h.other hn 0 _).other hn 1 _).other hn 2 _
def Apart (s t : Nat) (f : Nat → Value) (w : World) : Prop :=
  (∀ b, f s = ptr b → b < w.heap.size) ∧ (∀ b, f t = ptr b → b < w.heap.size) ∧ (∀ b, f s = ptr b → f t = ptr b → False)
theorem Apart.same {s t : Nat} {f : Nat → Value} {w w' : World} (h : Apart s t f w) (hs : w'.heap.size = w.heap.size) : Apart s t f w' := by
  unfold Apart
  rw [hs]
  exact h
theorem Apart.other {s t d : Nat} {f : Nat → Value} {w w' : World} {v : Value} (h : Apart s t f w) (hs : s ≠ d) (ht : t ≠ d) (hb : Below w.heap.size w w') : Apart s t (upd f d v) w' := by
  unfold Apart
  rw [upd_other hs, upd_other ht]
  exact ⟨fun b e => Nat.lt_of_lt_of_le (h.1 b e) hb.size, fun b e => Nat.lt_of_lt_of_le (h.2.1 b e) hb.size, h.2.2⟩
theorem Apart.left {s t : Nat} {f : Nat → Value} {w : World} {o : Obj} (h : Apart s t f w) (hst : t ≠ s) : Apart s t (upd f s (ptr w.heap.size)) (w.alloc o) := by
  unfold Apart
  rw [upd_same, upd_other hst]
  refine ⟨fun b e => ?_, fun b e => ?_, fun b e e2 => ?_⟩
  · simp at e; subst e; simp
  · have := h.2.1 b e; simp; omega
  · simp at e; subst e; have := h.2.1 _ e2; omega
theorem Apart.right {s t : Nat} {f : Nat → Value} {w : World} {o : Obj} (h : Apart s t f w) (hst : s ≠ t) : Apart s t (upd f t (ptr w.heap.size)) (w.alloc o) := by
  unfold Apart
  rw [upd_same, upd_other hst]
  refine ⟨fun b e => ?_, fun b e => ?_, fun b e e2 => ?_⟩
  · have := h.1 b e; simp; omega
  · simp at e; subst e; simp
  · simp at e2; subst e2; have := h.1 _ e; omega

def iwV (R m : Nat) (p q : Pt) (i : Nat) (l : List Value) (w : World) : Prop :=
  match i, l with
  | 0, [v] => v = .pointer (some ⟨R, 0, none⟩)
  | 1, [v] => v = v3 p
  | 2, [v] => v = v3 p
  | 3, [v] => v = .pointer (some ⟨R, 3, none⟩)
  | 4, [v] => v = v3 q
  | 5, [v] => v = v3 q
  | 6, [v] => ∃ b, v = ptr b ∧ m ≤ b ∧ ∃ u0 u1 u2, Bk b [u0, u1, u2] w
  | 7, [v] => ∃ b, v = ptr b ∧ m ≤ b ∧ ∃ u0 u1 u2, Bk b [u0, u1, u2] w
  | 8, [v] => ∃ b, v = ptr b ∧ Bk b (c3 p) w
  | 9, [v] => ∃ b, v = ptr b ∧ Bk b (c3 q) w
  | _, _ => True
theorem iwV_mono (R m : Nat) (p q : Pt) (i : Nat) (l : List Value) (w w' : World) (h : iwV R m p q i l w) (hb : Below w.heap.size w w') : iwV R m p q i l w' := by
  unfold iwV at h ⊢
  split <;> simp only [] at h <;> first | exact h | (obtain ⟨b, h1, h2, u0, u1, u2, h3⟩ := h; exact ⟨b, h1, h2, u0, u1, u2, h3.later hb⟩) | (obtain ⟨b, h1, h3⟩ := h; exact ⟨b, h1, h3.later hb⟩)
def iwP : GPlan := [([], [9], none), ([0], [10], none), ([1], [11], none), ([], [12], none), ([3], [13], none), ([4], [14], none), ([], [5], none), ([], [6], none), ([6, 2], [5], none), ([7, 5], [6], none)]
theorem iw_low {R m : Nat} {p q : Pt} {f : Nat → Value} {w : World} {b : Nat} {u0 u1 u2 : Value} (hJ : Apart 5 6 f w) (hs : f 5 = ptr b) (AB : Bk b [u0, u1, u2] w) :
    ∀ j, iwV R m p q j ((menOf iwP j).map f) w → iwV R m p q j ((menOf iwP j).map f) (P3 w b p)
  | 0, h => h
  | 1, h => h
  | 2, h => h
  | 3, h => h
  | 4, h => h
  | 5, h => h
  | 6, ⟨b2, h2, h3, _⟩ => by
    obtain rfl : b2 = b := by have := (show f 5 = ptr b2 from h2).symm.trans hs; simpa using this
    exact ⟨b2, h2, h3, _, _, _, AB.put3 p⟩
  | 7, ⟨b2, h2, h3, v0, v1, v2, h4⟩ => ⟨b2, h2, h3, v0, v1, v2, h4.oth3 (fun e => hJ.2.2 b (by exact hs) (by rw [← e]; exact h2)) p⟩
  | 8, _ => ⟨b, hs, AB.put3 p⟩
  | 9, ⟨b2, h2, h4⟩ => ⟨b2, h2, h4.oth3 (fun e => hJ.2.2 b (by exact hs) (by rw [← e]; exact h2)) p⟩
  | j + 10, _ => by simp [menOf, iwP, iwV]
theorem iw_high {R m : Nat} {p q : Pt} {f : Nat → Value} {w : World} {b : Nat} {u0 u1 u2 : Value} (hJ : Apart 5 6 f w) (hs : f 6 = ptr b) (AB : Bk b [u0, u1, u2] w) :
    ∀ j, iwV R m p q j ((menOf iwP j).map f) w → iwV R m p q j ((menOf iwP j).map f) (P3 w b q)
  | 0, h => h
  | 1, h => h
  | 2, h => h
  | 3, h => h
  | 4, h => h
  | 5, h => h
  | 6, ⟨b2, h2, h3, v0, v1, v2, h4⟩ => ⟨b2, h2, h3, v0, v1, v2, h4.oth3 (fun e => hJ.2.2 b (by rw [← e]; exact h2) (by exact hs)) q⟩
  | 7, ⟨b2, h2, h3, _⟩ => by
    obtain rfl : b2 = b := by have := (show f 6 = ptr b2 from h2).symm.trans hs; simpa using this
    exact ⟨b2, h2, h3, _, _, _, AB.put3 q⟩
  | 8, ⟨b2, h2, h4⟩ => ⟨b2, h2, h4.oth3 (fun e => hJ.2.2 b (by rw [← e]; exact h2) (by exact hs)) q⟩
  | 9, _ => ⟨b, hs, AB.put3 q⟩
  | j + 10, _ => by simp [menOf, iwP, iwV]
def igV (R m : Nat) (p q : Pt) (i : Nat) (l : List Value) (w : World) : Prop :=
  match i, l with
  | 0, [v] => v = .pointer (some ⟨R, 0, none⟩)
  | 1, [v] => v = v3 p
  | 2, [v] => v = v3 p
  | 3, [v] => v = .pointer (some ⟨R, 3, none⟩)
  | 4, [v] => v = v3 q
  | 5, [v] => v = v3 q
  | 6, [v] => ∃ b, v = ptr b ∧ m ≤ b ∧ ∃ u0 u1 u2, Bk b [u0, u1, u2] w
  | 7, [v] => ∃ b, v = ptr b ∧ m ≤ b ∧ ∃ u0 u1 u2, Bk b [u0, u1, u2] w
  | 8, [v] => ∃ b, v = ptr b ∧ Bk b (c3 p) w
  | 9, [v] => ∃ b, v = ptr b ∧ Bk b (c3 q) w
  | _, _ => True
theorem igV_mono (R m : Nat) (p q : Pt) (i : Nat) (l : List Value) (w w' : World) (h : igV R m p q i l w) (hb : Below w.heap.size w w') : igV R m p q i l w' := by
  unfold igV at h ⊢
  split <;> simp only [] at h <;> first | exact h | (obtain ⟨b, h1, h2, u0, u1, u2, h3⟩ := h; exact ⟨b, h1, h2, u0, u1, u2, h3.later hb⟩) | (obtain ⟨b, h1, h3⟩ := h; exact ⟨b, h1, h3.later hb⟩)
def igP : GPlan := [([], [6], none), ([0], [7], none), ([1], [8], none), ([], [9], none), ([3], [10], none), ([4], [11], none), ([], [3], none), ([], [4], none), ([6, 2], [3], none), ([7, 5], [4], none)]
theorem ig_low {R m : Nat} {p q : Pt} {f : Nat → Value} {w : World} {b : Nat} {u0 u1 u2 : Value} (hJ : Apart 3 4 f w) (hs : f 3 = ptr b) (AB : Bk b [u0, u1, u2] w) :
    ∀ j, igV R m p q j ((menOf igP j).map f) w → igV R m p q j ((menOf igP j).map f) (P3 w b p)
  | 0, h => h
  | 1, h => h
  | 2, h => h
  | 3, h => h
  | 4, h => h
  | 5, h => h
  | 6, ⟨b2, h2, h3, _⟩ => by
    obtain rfl : b2 = b := by have := (show f 3 = ptr b2 from h2).symm.trans hs; simpa using this
    exact ⟨b2, h2, h3, _, _, _, AB.put3 p⟩
  | 7, ⟨b2, h2, h3, v0, v1, v2, h4⟩ => ⟨b2, h2, h3, v0, v1, v2, h4.oth3 (fun e => hJ.2.2 b (by exact hs) (by rw [← e]; exact h2)) p⟩
  | 8, _ => ⟨b, hs, AB.put3 p⟩
  | 9, ⟨b2, h2, h4⟩ => ⟨b2, h2, h4.oth3 (fun e => hJ.2.2 b (by exact hs) (by rw [← e]; exact h2)) p⟩
  | j + 10, _ => by simp [menOf, igP, igV]
theorem ig_high {R m : Nat} {p q : Pt} {f : Nat → Value} {w : World} {b : Nat} {u0 u1 u2 : Value} (hJ : Apart 3 4 f w) (hs : f 4 = ptr b) (AB : Bk b [u0, u1, u2] w) :
    ∀ j, igV R m p q j ((menOf igP j).map f) w → igV R m p q j ((menOf igP j).map f) (P3 w b q)
  | 0, h => h
  | 1, h => h
  | 2, h => h
  | 3, h => h
  | 4, h => h
  | 5, h => h
  | 6, ⟨b2, h2, h3, v0, v1, v2, h4⟩ => ⟨b2, h2, h3, v0, v1, v2, h4.oth3 (fun e => hJ.2.2 b (by rw [← e]; exact h2) (by exact hs)) q⟩
  | 7, ⟨b2, h2, h3, _⟩ => by
    obtain rfl : b2 = b := by have := (show f 4 = ptr b2 from h2).symm.trans hs; simpa using this
    exact ⟨b2, h2, h3, _, _, _, AB.put3 q⟩
  | 8, ⟨b2, h2, h4⟩ => ⟨b2, h2, h4.oth3 (fun e => hJ.2.2 b (by rw [← e]; exact h2) (by exact hs)) q⟩
  | 9, _ => ⟨b, hs, AB.put3 q⟩
  | j + 10, _ => by simp [menOf, igP, igV]
set_option maxHeartbeats 6400000 in
set_option maxRecDepth 100000 in
theorem isWithin_any (r : Rg) (p : Pt) (w : World) : Calls Tryd.prog 37 #[rgv r, v3 p] w fun e w' => e = .returned (.bool (inS r p)) ∧ Below w.heap.size w w' := by
  have HN : Hid (∀ x W, Calls Tryd.prog 44 #[v3 x] W fun e w' => e = .returned (v3 x) ∧ Below W.heap.size W w') := numbersP_any
  have HI : Hid (∀ lo x hi W, Calls Tryd.prog 45 #[.int .i64 lo, .int .i64 x, .int .i64 hi] W fun e w' => e = .returned (.bool (inR lo hi x)) ∧ w' = W) := isFrom_any
  obtain ⟨w0, hw0⟩ : ∃ x, x = (w.alloc (rgo r)).alloc (o3 p 23) := ⟨_, rfl⟩
  have HB0 : Hid (Below w.heap.size w w0) := by show Below _ _ _; rw [hw0]; exact two_new _ _ _
  have KR0 : Hid (Bk w.heap.size (rgc r) w0) := by show Bk _ _ _; rw [hw0]; exact (Bk.new w (rgc r) 27 w.heap.size rfl).later (one_new _ _)
  have KP0 : Hid (Bk (w.heap.size + 1) (c3 p) w0) := by show Bk _ _ _; rw [hw0]; exact Bk.new (w.alloc (rgo r)) (c3 p) 23 (w.heap.size + 1) (by simp)
  obtain ⟨R, hR⟩ : ∃ b, b = w.heap.size := ⟨_, rfl⟩
  obtain ⟨Q, hQ⟩ : ∃ b, b = w.heap.size + 1 := ⟨_, rfl⟩
  go_enter Tryd.func37, Tryd.ntmps37
  go_wp2_with fail
  rename_i KK hkk
  have HKK := (show Hid _ from hkk)
  clear hkk
  simp only [← hw0, ← hQ]
  simp only [← hR]
  have KR : Hid (Bk R (rgc r) w0) := by rw [hR]; exact KR0
  have KP : Hid (Bk Q (c3 p) w0) := by rw [hQ]; exact KP0
  clear KR0 KP0 hw0 hR hQ
  refine region_all [false, false, false, false, false, true, true, false, false, true, true, true, true, true, true, false, false, false, false, false, false, false, false, false, false, false, false, false, false, false, false]
    iwP (iwV R w0.heap.size r.lo r.hi) (Apart 5 6) (by kernel_rfl) (by kernel_rfl) ?_ ?_ ?_
  · refine fun w _ => ⟨fun b e => ?_, fun b e => ?_, fun b e _ => ?_⟩
    all_goals (simp [undef] at e)
  · refine ⟨?_, ?_, ?_, ?_, ?_, ?_, ?_, ?_, ?_, ?_, trivial⟩
    · intro f w1 hb hJ _ K hK
      simp only [over, overL, Nat.reduceAdd]
      go_simp
      exact hK _ _ ⟨_, by simp only [over, overL, Nat.reduceAdd]; rfl, rfl, hb, hJ.other (by decide) (by decide) (Below.refl _ _), fun _ h => h⟩
    · intro f w1 hb hJ ⟨h9, _⟩ K hK
      replace h9 : f 9 = _ := h9
      have q0 := (KR.out.later hb).c 0 rfl
      have q1 := (KR.out.later hb).c 1 rfl
      have q2 := (KR.out.later hb).c 2 rfl
      simp only [over, overL, Nat.reduceAdd, h9]
      go_simp
      exact hK _ _ ⟨_, by simp only [over, overL, Nat.reduceAdd, h9]; rfl, rfl, hb, hJ.other (by decide) (by decide) (Below.refl _ _), fun _ h => h⟩
    · intro f w1 hb hJ ⟨h10, _⟩ K hK
      replace h10 : f 10 = _ := h10
      simp only [over, overL, Nat.reduceAdd, h10]
      go_simp
      refine (HN.out _ _).mono ?_
      rintro e w2 ⟨rfl, hb2⟩
      exact hK _ _ ⟨_, by simp only [over, overL, Nat.reduceAdd, h10]; rfl, rfl, below_on hb hb2, hJ.other (by decide) (by decide) hb2, fun j h => iwV_mono R w0.heap.size r.lo r.hi j _ _ _ h hb2⟩
    · intro f w1 hb hJ _ K hK
      simp only [over, overL, Nat.reduceAdd]
      go_simp
      exact hK _ _ ⟨_, by simp only [over, overL, Nat.reduceAdd]; rfl, rfl, hb, hJ.other (by decide) (by decide) (Below.refl _ _), fun _ h => h⟩
    · intro f w1 hb hJ ⟨h12, _⟩ K hK
      replace h12 : f 12 = _ := h12
      have q3 := (KR.out.later hb).c 3 rfl
      have q4 := (KR.out.later hb).c 4 rfl
      have q5 := (KR.out.later hb).c 5 rfl
      simp only [over, overL, Nat.reduceAdd, h12]
      go_simp
      exact hK _ _ ⟨_, by simp only [over, overL, Nat.reduceAdd, h12]; rfl, rfl, hb, hJ.other (by decide) (by decide) (Below.refl _ _), fun _ h => h⟩
    · intro f w1 hb hJ ⟨h13, _⟩ K hK
      replace h13 : f 13 = _ := h13
      simp only [over, overL, Nat.reduceAdd, h13]
      go_simp
      refine (HN.out _ _).mono ?_
      rintro e w2 ⟨rfl, hb2⟩
      exact hK _ _ ⟨_, by simp only [over, overL, Nat.reduceAdd, h13]; rfl, rfl, below_on hb hb2, hJ.other (by decide) (by decide) hb2, fun j h => iwV_mono R w0.heap.size r.lo r.hi j _ _ _ h hb2⟩
    · intro f w1 hb hJ _ K hK
      simp only [over, overL, Nat.reduceAdd]
      go_simp
      exact hK _ _ ⟨_, by simp only [over, overL, Nat.reduceAdd]; rfl, ⟨w1.heap.size, rfl, hb.size, _, _, _, Bk.new w1 [.int .i64 0, .int .i64 0, .int .i64 0] 78 w1.heap.size rfl⟩, below_on hb (one_new _ _), hJ.left (by decide), fun j h => iwV_mono R w0.heap.size r.lo r.hi j _ _ _ h (one_new _ _)⟩
    · intro f w1 hb hJ _ K hK
      simp only [over, overL, Nat.reduceAdd]
      go_simp
      exact hK _ _ ⟨_, by simp only [over, overL, Nat.reduceAdd]; rfl, ⟨w1.heap.size, rfl, hb.size, _, _, _, Bk.new w1 [.int .i64 0, .int .i64 0, .int .i64 0] 78 w1.heap.size rfl⟩, below_on hb (one_new _ _), hJ.right (by decide), fun j h => iwV_mono R w0.heap.size r.lo r.hi j _ _ _ h (one_new _ _)⟩
    · intro f w1 hb hJ ⟨h5, h11, _⟩ K hK
      replace h11 : f 11 = _ := h11
      obtain ⟨B, h5, nB, u0, u1, u2, AB⟩ := (show ∃ B, f 5 = ptr B ∧ w0.heap.size ≤ B ∧ ∃ u0 u1 u2, Bk B [u0, u1, u2] w1 from h5)
      have q0 := (AB).c 0 rfl
      have qf0 := (AB).f 0 rfl
      have q1 := (AB).c 1 rfl
      have qf1 := (AB).f 1 rfl
      have q2 := (AB).c 2 rfl
      have qf2 := (AB).f 2 rfl
      simp only [over, overL, Nat.reduceAdd, h5, h11]
      go_simp
      refine hK _ _ ⟨undef, by simp only [over, overL, Nat.reduceAdd, h5, h11]; rfl, ?_, ((hb.setCell nB _).setCell nB _).setCell nB _, hJ.same (by simp), ?_⟩
      · exact ⟨B, h5, AB.put3 r.lo⟩
      · exact iw_low hJ h5 AB
    · intro f w1 hb hJ ⟨h6, h14, _⟩ K hK
      replace h14 : f 14 = _ := h14
      obtain ⟨B, h6, nB, u0, u1, u2, AB⟩ := (show ∃ B, f 6 = ptr B ∧ w0.heap.size ≤ B ∧ ∃ u0 u1 u2, Bk B [u0, u1, u2] w1 from h6)
      have q0 := (AB).c 0 rfl
      have qf0 := (AB).f 0 rfl
      have q1 := (AB).c 1 rfl
      have qf1 := (AB).f 1 rfl
      have q2 := (AB).c 2 rfl
      have qf2 := (AB).f 2 rfl
      simp only [over, overL, Nat.reduceAdd, h6, h14]
      go_simp
      refine hK _ _ ⟨undef, by simp only [over, overL, Nat.reduceAdd, h6, h14]; rfl, ?_, ((hb.setCell nB _).setCell nB _).setCell nB _, hJ.same (by simp), ?_⟩
      · exact ⟨B, h6, AB.put3 r.hi⟩
      · exact iw_high hJ h6 AB
  intro f w1 hb1 hJ h
  have h9 : f 9 = _ := h.1
  have h10 : f 10 = _ := h.2.1
  have h11 : f 11 = _ := h.2.2.1
  have h12 : f 12 = _ := h.2.2.2.1
  have h13 : f 13 = _ := h.2.2.2.2.1
  have h14 : f 14 = _ := h.2.2.2.2.2.1
  obtain ⟨S, h5, A5⟩ := (show ∃ b, f 5 = ptr b ∧ Bk b (c3 r.lo) w1 from h.2.2.2.2.2.2.2.2.1)
  obtain ⟨T, h6, A6⟩ := (show ∃ b, f 6 = ptr b ∧ Bk b (c3 r.hi) w1 from h.2.2.2.2.2.2.2.2.2.1)
  simp only [over, overL, Nat.reduceAdd, h9, h10, h11, h12, h13, h14, h5, h6]
  have KS : Hid (Bk S (c3 r.lo) w1) := A5
  have KT : Hid (Bk T (c3 r.hi) w1) := A6
  have HB1 : Hid (Below w0.heap.size w0 w1) := hb1
  clear h h9 h10 h11 h12 h13 h14 h5 h6 A5 A6 hJ hb1
  refine HKK.out _ _ ?_
  have HB2 : Hid (Below w.heap.size w w1) := below_on HB0.out HB1.out
  have KQ := KP.out.later HB1.out
  have q0 := KQ.c 0 rfl
  have q1 := KQ.c 1 rfl
  have q2 := KQ.c 2 rfl
  clear KQ
  go_wp2_with fail
  refine (HN.out _ _).mono ?_
  rintro e w3 ⟨rfl, hb3⟩
  have HB3 : Hid (Below w.heap.size w w3) := below_on HB2.out hb3
  have KS3 : Hid (Bk S (c3 r.lo) w3) := KS.out.later hb3
  have KT3 : Hid (Bk T (c3 r.hi) w3) := KT.out.later hb3
  have i0 := ix30 p
  have i1 := ix31 p
  have i2 := ix32 p
  clear q0 q1 q2 HB0 HB1 HB2 KS KT KP KR hb3 HKK
  go_wp2_with fail
  refine wp_loop_rounds 4 ?_
  rw [rounds_succ]
  go_wp2_with fail
  cases hx : inR r.lo.x r.hi.x p.x with
  | false =>
    have HX : Hid (∀ W, Calls Tryd.prog 45 #[.int .i64 r.lo.x, .int .i64 p.x, .int .i64 r.hi.x] W fun e w' => e = .returned (.bool false) ∧ w' = W) := fun W => by have := HI.out r.lo.x p.x r.hi.x W; rwa [hx] at this
    have s0 := KS3.out.c 0 rfl
    have t0 := KT3.out.c 0 rfl
    go_quiet ((go_at_call 45; exact Calls.quiet_of_same (HX.out _)))
    go_wp2
    go_ret
    exact ⟨ret_bool (by simp [inS, hx]), HB3.out.trans (drewN_low _ _ _)⟩
  | true =>
    have HX : Hid (∀ W, Calls Tryd.prog 45 #[.int .i64 r.lo.x, .int .i64 p.x, .int .i64 r.hi.x] W fun e w' => e = .returned (.bool true) ∧ w' = W) := fun W => by have := HI.out r.lo.x p.x r.hi.x W; rwa [hx] at this
    have s0 := KS3.out.c 0 rfl
    have t0 := KT3.out.c 0 rfl
    go_quiet ((go_at_call 45; exact Calls.quiet_of_same (HX.out _)))
    go_wp2_with fail
    clear s0 t0 HX
    obtain ⟨w4, hw4⟩ : ∃ x, x = w3.drewN nq := ⟨_, rfl⟩
    have HB4 : Hid (Below w.heap.size w w4) := by show Below _ _ _; rw [hw4]; exact HB3.out.trans (drewN_low _ _ _)
    have KS4 : Hid (Bk S (c3 r.lo) w4) := by show Bk _ _ _; rw [hw4]; exact KS3.out.later (drewN_low _ _ _)
    have KT4 : Hid (Bk T (c3 r.hi) w4) := by show Bk _ _ _; rw [hw4]; exact KT3.out.later (drewN_low _ _ _)
    rw [← hw4]
    clear hw4 HB3 KS3 KT3
    rw [rounds_succ]
    go_wp2_with fail
    cases hy : inR r.lo.y r.hi.y p.y with
    | false =>
      have HX : Hid (∀ W, Calls Tryd.prog 45 #[.int .i64 r.lo.y, .int .i64 p.y, .int .i64 r.hi.y] W fun e w' => e = .returned (.bool false) ∧ w' = W) := fun W => by have := HI.out r.lo.y p.y r.hi.y W; rwa [hy] at this
      have s0 := KS4.out.c 1 rfl
      have t0 := KT4.out.c 1 rfl
      go_quiet ((go_at_call 45; exact Calls.quiet_of_same (HX.out _)))
      go_wp2
      go_ret
      exact ⟨ret_bool (by simp [inS, hy]), HB4.out.trans (drewN_low _ _ _)⟩
    | true =>
      have HX : Hid (∀ W, Calls Tryd.prog 45 #[.int .i64 r.lo.y, .int .i64 p.y, .int .i64 r.hi.y] W fun e w' => e = .returned (.bool true) ∧ w' = W) := fun W => by have := HI.out r.lo.y p.y r.hi.y W; rwa [hy] at this
      have s0 := KS4.out.c 1 rfl
      have t0 := KT4.out.c 1 rfl
      go_quiet ((go_at_call 45; exact Calls.quiet_of_same (HX.out _)))
      go_wp2_with fail
      clear s0 t0 HX
      obtain ⟨w5, hw5⟩ : ∃ x, x = w4.drewN nq := ⟨_, rfl⟩
      have HB5 : Hid (Below w.heap.size w w5) := by show Below _ _ _; rw [hw5]; exact HB4.out.trans (drewN_low _ _ _)
      have KS5 : Hid (Bk S (c3 r.lo) w5) := by show Bk _ _ _; rw [hw5]; exact KS4.out.later (drewN_low _ _ _)
      have KT5 : Hid (Bk T (c3 r.hi) w5) := by show Bk _ _ _; rw [hw5]; exact KT4.out.later (drewN_low _ _ _)
      rw [← hw5]
      clear hw5 HB4 KS4 KT4
      rw [rounds_succ]
      go_wp2_with fail
      cases hz : inR r.lo.z r.hi.z p.z with
      | false =>
        have HX : Hid (∀ W, Calls Tryd.prog 45 #[.int .i64 r.lo.z, .int .i64 p.z, .int .i64 r.hi.z] W fun e w' => e = .returned (.bool false) ∧ w' = W) := fun W => by have := HI.out r.lo.z p.z r.hi.z W; rwa [hz] at this
        have s0 := KS5.out.c 2 rfl
        have t0 := KT5.out.c 2 rfl
        go_quiet ((go_at_call 45; exact Calls.quiet_of_same (HX.out _)))
        go_wp2
        go_ret
        exact ⟨ret_bool (by simp [inS, hz]), HB5.out.trans (drewN_low _ _ _)⟩
      | true =>
        have HX : Hid (∀ W, Calls Tryd.prog 45 #[.int .i64 r.lo.z, .int .i64 p.z, .int .i64 r.hi.z] W fun e w' => e = .returned (.bool true) ∧ w' = W) := fun W => by have := HI.out r.lo.z p.z r.hi.z W; rwa [hz] at this
        have s0 := KS5.out.c 2 rfl
        have t0 := KT5.out.c 2 rfl
        go_quiet ((go_at_call 45; exact Calls.quiet_of_same (HX.out _)))
        go_wp2_with fail
        clear s0 t0 HX
        rw [rounds_succ]
        go_wp2
        go_ret
        exact ⟨ret_bool (by simp [inS, hx, hy, hz]), HB5.out.trans (drewN_low _ _ _)⟩
end Go.Proofs.YtgahlhfgpkklaaaDoor
