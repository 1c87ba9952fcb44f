import Derived.Test.YtgbnjgenopdmfaaGreatGn
import Derived.Test.YtgbnjgenopdmfaaGreatGq

/- flow.strandsOf walked. -/
namespace Go.Proofs.YtgbnjgenopdmfaaGreat
open Go.RowKit Go.Maps
abbrev encSd : Enc Std := ⟨101, 4, sdc⟩
theorem goodSd : Good encSd := ⟨fun _ => rfl, fun x u hu => by simp [sdc] at hu; rcases hu with rfl | rfl | rfl | rfl <;> rfl⟩
/-- Three slots that point to three blocks. -/
def Ap3 (f : Nat → Value) (w : World) : Prop :=
  (∀ b, f 3 = ptr b → b < w.heap.size) ∧ (∀ b, f 4 = ptr b → b < w.heap.size) ∧ (∀ b, f 5 = ptr b → b < w.heap.size) ∧ (∀ b, f 3 = ptr b → f 4 = ptr b → False) ∧ (∀ b, f 3 = ptr b → f 5 = ptr b → False) ∧ (∀ b, f 4 = ptr b → f 5 = ptr b → False)
theorem Ap3.same {f : Nat → Value} {w w' : World} (h : Ap3 f w) (hs : w'.heap.size = w.heap.size) : Ap3 f w' := by
  unfold Ap3
  rw [hs]
  exact h
theorem Ap3.other {d : Nat} {f : Nat → Value} {w : World} {v : Value} (h : Ap3 f w) (h3 : 3 ≠ d) (h4 : 4 ≠ d) (h5 : 5 ≠ d) : Ap3 (upd f d v) w := by
  unfold Ap3
  rw [upd_other h3, upd_other h4, upd_other h5]
  exact h
theorem Ap3.new3 {f : Nat → Value} {w : World} {o : Obj} (h : Ap3 f w) : Ap3 (upd f 3 (ptr w.heap.size)) (w.alloc o) := by
  obtain ⟨h3, h4, h5, h34, h35, h45⟩ := h
  unfold Ap3
  rw [upd_same, upd_other (show 4 ≠ 3 by decide), upd_other (show 5 ≠ 3 by decide)]
  refine ⟨fun b e => ?_, fun b e => ?_, fun b e => ?_, fun b e e2 => ?_, fun b e e2 => ?_, h45⟩
  · simp at e; subst e; simp
  · have := h4 b e; simp; omega
  · have := h5 b e; simp; omega
  · simp at e; subst e; have := h4 _ e2; omega
  · simp at e; subst e; have := h5 _ e2; omega
theorem Ap3.new4 {f : Nat → Value} {w : World} {o : Obj} (h : Ap3 f w) : Ap3 (upd f 4 (ptr w.heap.size)) (w.alloc o) := by
  obtain ⟨h3, h4, h5, h34, h35, h45⟩ := h
  unfold Ap3
  rw [upd_same, upd_other (show 3 ≠ 4 by decide), upd_other (show 5 ≠ 4 by decide)]
  refine ⟨fun b e => ?_, fun b e => ?_, fun b e => ?_, fun b e e2 => ?_, h35, fun b e e2 => ?_⟩
  · have := h3 b e; simp; omega
  · simp at e; subst e; simp
  · have := h5 b e; simp; omega
  · simp at e2; subst e2; have := h3 _ e; omega
  · simp at e; subst e; have := h5 _ e2; omega
theorem Ap3.new5 {f : Nat → Value} {w : World} {o : Obj} (h : Ap3 f w) : Ap3 (upd f 5 (ptr w.heap.size)) (w.alloc o) := by
  obtain ⟨h3, h4, h5, h34, h35, h45⟩ := h
  unfold Ap3
  rw [upd_same, upd_other (show 3 ≠ 5 by decide), upd_other (show 4 ≠ 5 by decide)]
  refine ⟨fun b e => ?_, fun b e => ?_, fun b e => ?_, h34, fun b e e2 => ?_, fun b e e2 => ?_⟩
  · have := h3 b e; simp; omega
  · have := h4 b e; simp; omega
  · simp at e; subst e; simp
  · simp at e2; subst e2; have := h3 _ e; omega
  · simp at e2; subst e2; have := h4 _ e; omega
abbrev P4 (w : World) (B : Nat) (p : Std) : World := (((w.setCell ⟨B, 0, none⟩ (.int .i64 p.1)).setCell ⟨B, 1, none⟩ (.int .i64 p.2.1)).setCell ⟨B, 2, none⟩ (.int .i64 p.2.2.1)).setCell ⟨B, 3, none⟩ (.int .i64 p.2.2.2)
theorem Bk.put4 {B : Nat} {u0 u1 u2 u3 : Value} {w : World} (h : Bk B [u0, u1, u2, u3] w) (p : Std) : Bk B (sdc p) (P4 w B p) := (((h.put 0 (.int .i64 p.1)).put 1 (.int .i64 p.2.1)).put 2 (.int .i64 p.2.2.1)).put 3 (.int .i64 p.2.2.2)
theorem Bk.oth4 {b B : Nat} {cs : List Value} {w : World} (h : Bk b cs w) (hn : b ≠ B) (p : Std) : Bk b cs (P4 w B p) := (((h.other hn 0 _).other hn 1 _).other hn 2 _).other hn 3 _
abbrev tipS : Std := (1, 0, 0, 0)
abbrev heatS : Std := (2, 0, 0, 0)
def stV (A M : Nat) (p : Plc) (j : Nat) (l : List Value) (w : World) : Prop :=
  match j, l with
  | 0, [v] => v = .agg #[.int .i64 1, .int .i64 0, .int .i64 0, .int .i64 0]
  | 1, [v] => v = .agg #[.int .i64 2, .int .i64 0, .int .i64 0, .int .i64 0]
  | 2, [v] => v = .pointer (some ⟨A, 1, none⟩)
  | 3, [v] => v = plv p
  | 4, [v] => v = .agg #[.int .i64 3, .int .i64 p.1, .int .i64 p.2.1, .int .i64 p.2.2]
  | 5, [v] => ∃ b, v = ptr b ∧ M ≤ b ∧ ∃ u0 u1 u2 u3, Bk b [u0, u1, u2, u3] w
  | 6, [v] => ∃ b, v = ptr b ∧ M ≤ b ∧ ∃ u0 u1 u2 u3, Bk b [u0, u1, u2, u3] w
  | 7, [v] => ∃ b, v = ptr b ∧ M ≤ b ∧ ∃ u0 u1 u2 u3, Bk b [u0, u1, u2, u3] w
  | 8, [v] => ∃ b, v = ptr b ∧ Bk b (sdc tipS) w
  | 9, [v] => ∃ b, v = ptr b ∧ Bk b (sdc heatS) w
  | 10, [v] => ∃ b, v = ptr b ∧ Bk b (sdc (3, p)) w
  | _, _ => True
theorem stV_mono (A M : Nat) (p : Plc) (j : Nat) (l : List Value) (w w' : World) (h : stV A M p j l w) (hb : Below w.heap.size w w') : stV A M p j l w' := by
  unfold stV at h ⊢
  split <;> simp only [] at h <;> first | exact h | (obtain ⟨b, h1, h2, u0, u1, u2, u3, h3⟩ := h; exact ⟨b, h1, h2, u0, u1, u2, u3, h3.later hb⟩) | (obtain ⟨b, h1, h3⟩ := h; exact ⟨b, h1, h3.later hb⟩)
def stP : GPlan := [([], [6], none), ([], [7], none), ([], [8], none), ([2], [9], none), ([3], [10], none), ([], [3], none), ([], [4], none), ([], [5], none), ([5, 0], [3], none), ([6, 1], [4], none), ([7, 4], [5], none)]
theorem st_store3 {A M : Nat} {p : Plc} {f : Nat → Value} {w : World} {b : Nat} {u0 u1 u2 u3 : Value} (hJ : Ap3 f w) (hs : f 3 = ptr b) (AB : Bk b [u0, u1, u2, u3] w) :
    ∀ j, stV A M p j ((menOf stP j).map f) w → stV A M p j ((menOf stP j).map f) (P4 w b tipS)
  | 0, h => h
  | 1, h => h
  | 2, h => h
  | 3, h => h
  | 4, h => h
  | 5, ⟨b2, h2, h3, _⟩ => by
    obtain rfl : b2 = b := by have := (show f 3 = ptr b2 from h2).symm.trans hs; simpa using this
    exact ⟨b2, h2, h3, _, _, _, _, AB.put4 tipS⟩
  | 6, ⟨b2, h2, h3, v0, v1, v2, v3, h4⟩ => ⟨b2, h2, h3, v0, v1, v2, v3, h4.oth4 (fun e => hJ.2.2.2.1 b (by exact hs) (by rw [← e]; exact h2)) tipS⟩
  | 7, ⟨b2, h2, h3, v0, v1, v2, v3, h4⟩ => ⟨b2, h2, h3, v0, v1, v2, v3, h4.oth4 (fun e => hJ.2.2.2.2.1 b (by exact hs) (by rw [← e]; exact h2)) tipS⟩
  | 8, _ => ⟨b, hs, AB.put4 tipS⟩
  | 9, ⟨b2, h2, h4⟩ => ⟨b2, h2, h4.oth4 (fun e => hJ.2.2.2.1 b (by exact hs) (by rw [← e]; exact h2)) tipS⟩
  | 10, ⟨b2, h2, h4⟩ => ⟨b2, h2, h4.oth4 (fun e => hJ.2.2.2.2.1 b (by exact hs) (by rw [← e]; exact h2)) tipS⟩
  | j + 11, _ => by simp [menOf, stP, stV]
theorem st_store4 {A M : Nat} {p : Plc} {f : Nat → Value} {w : World} {b : Nat} {u0 u1 u2 u3 : Value} (hJ : Ap3 f w) (hs : f 4 = ptr b) (AB : Bk b [u0, u1, u2, u3] w) :
    ∀ j, stV A M p j ((menOf stP j).map f) w → stV A M p j ((menOf stP j).map f) (P4 w b heatS)
  | 0, h => h
  | 1, h => h
  | 2, h => h
  | 3, h => h
  | 4, h => h
  | 5, ⟨b2, h2, h3, v0, v1, v2, v3, h4⟩ => ⟨b2, h2, h3, v0, v1, v2, v3, h4.oth4 (fun e => hJ.2.2.2.1 b (by rw [← e]; exact h2) (by exact hs)) heatS⟩
  | 6, ⟨b2, h2, h3, _⟩ => by
    obtain rfl : b2 = b := by have := (show f 4 = ptr b2 from h2).symm.trans hs; simpa using this
    exact ⟨b2, h2, h3, _, _, _, _, AB.put4 heatS⟩
  | 7, ⟨b2, h2, h3, v0, v1, v2, v3, h4⟩ => ⟨b2, h2, h3, v0, v1, v2, v3, h4.oth4 (fun e => hJ.2.2.2.2.2 b (by exact hs) (by rw [← e]; exact h2)) heatS⟩
  | 8, ⟨b2, h2, h4⟩ => ⟨b2, h2, h4.oth4 (fun e => hJ.2.2.2.1 b (by rw [← e]; exact h2) (by exact hs)) heatS⟩
  | 9, _ => ⟨b, hs, AB.put4 heatS⟩
  | 10, ⟨b2, h2, h4⟩ => ⟨b2, h2, h4.oth4 (fun e => hJ.2.2.2.2.2 b (by exact hs) (by rw [← e]; exact h2)) heatS⟩
  | j + 11, _ => by simp [menOf, stP, stV]
theorem st_store5 {A M : Nat} {p : Plc} {f : Nat → Value} {w : World} {b : Nat} {u0 u1 u2 u3 : Value} (hJ : Ap3 f w) (hs : f 5 = ptr b) (AB : Bk b [u0, u1, u2, u3] w) :
    ∀ j, stV A M p j ((menOf stP j).map f) w → stV A M p j ((menOf stP j).map f) (P4 w b (3, p))
  | 0, h => h
  | 1, h => h
  | 2, h => h
  | 3, h => h
  | 4, h => h
  | 5, ⟨b2, h2, h3, v0, v1, v2, v3, h4⟩ => ⟨b2, h2, h3, v0, v1, v2, v3, h4.oth4 (fun e => hJ.2.2.2.2.1 b (by rw [← e]; exact h2) (by exact hs)) (3, p)⟩
  | 6, ⟨b2, h2, h3, v0, v1, v2, v3, h4⟩ => ⟨b2, h2, h3, v0, v1, v2, v3, h4.oth4 (fun e => hJ.2.2.2.2.2 b (by rw [← e]; exact h2) (by exact hs)) (3, p)⟩
  | 7, ⟨b2, h2, h3, _⟩ => by
    obtain rfl : b2 = b := by have := (show f 5 = ptr b2 from h2).symm.trans hs; simpa using this
    exact ⟨b2, h2, h3, _, _, _, _, AB.put4 (3, p)⟩
  | 8, ⟨b2, h2, h4⟩ => ⟨b2, h2, h4.oth4 (fun e => hJ.2.2.2.2.1 b (by rw [← e]; exact h2) (by exact hs)) (3, p)⟩
  | 9, ⟨b2, h2, h4⟩ => ⟨b2, h2, h4.oth4 (fun e => hJ.2.2.2.2.2 b (by rw [← e]; exact h2) (by exact hs)) (3, p)⟩
  | 10, _ => ⟨b, hs, AB.put4 (3, p)⟩
  | j + 11, _ => by simp [menOf, stP, stV]
theorem rd_new {w : World} (x : Std) : RdR encSd (w.alloc (.cells #[.int .i64 x.1, .int .i64 x.2.1, .int .i64 x.2.2.1, .int .i64 x.2.2.2] 101)) (some ⟨w.heap.size, 0, none⟩) [x] := by
  refine .inr ⟨w.heap.size, 0, rfl, by simp, fun k hk j hj => ?_⟩
  have h := Bk.new w (sdc x) 101 w.heap.size rfl
  have hk0 : k = 0 := by simp at hk; omega
  subst hk0
  rcases (show j = 0 ∨ j = 1 ∨ j = 2 ∨ j = 3 by simp at hj; omega) with rfl | rfl | rfl | rfl <;> exact h.c _ rfl
theorem rd_new2 {w : World} (x y : Std) : RdR encSd (w.alloc (.cells #[.int .i64 x.1, .int .i64 x.2.1, .int .i64 x.2.2.1, .int .i64 x.2.2.2, .int .i64 y.1, .int .i64 y.2.1, .int .i64 y.2.2.1, .int .i64 y.2.2.2] 101)) (some ⟨w.heap.size, 0, none⟩) [x, y] := by
  refine .inr ⟨w.heap.size, 0, rfl, by simp, fun k hk j hj => ?_⟩
  have h := Bk.new w (sdc x ++ sdc y) 101 w.heap.size rfl
  rcases (show k = 0 ∨ k = 1 by simp at hk; omega) with rfl | rfl <;> rcases (show j = 0 ∨ j = 1 ∨ j = 2 ∨ j = 3 by simp at hj; omega) with rfl | rfl | rfl | rfl <;> exact h.c _ rfl
set_option maxHeartbeats 3200000 in
set_option maxRecDepth 100000 in
theorem strandsOf_any (a : Acn) (w : World) : Calls Tryz.prog 26 #[av a] w fun e w' => Below w.heap.size w w' ∧ ∃ ao cap, e = .returned (.slice ao (strR a).length cap) ∧ RdR encSd w' ao (strR a) ∧ ∀ ad, ao = some ad → w.heap.size ≤ ad.block := by
  obtain ⟨w0, hw0⟩ : ∃ w0, w0 = w.alloc (.cells (avs a) 55) := ⟨_, rfl⟩
  have HB0 : Hid (Below w.heap.size w w0) := by show Below _ _ _; rw [hw0]; exact (Below.refl _ _).alloc (Nat.le_refl _) _
  have KA : Hid (Bk w.heap.size (acl a) w0) := by show Bk _ _ _; rw [hw0]; exact Bk.new w (acl a) 55 w.heap.size rfl
  go_enter Tryz.func26, Tryz.ntmps26
  go_wp2_with fail
  rw [← hw0]
  clear hw0
  refine region_all [false, false, false, true, true, true, true, true, true, true, true, false, false, false, false, false, false, false, false, false, false, false, false, false, false, false, false, false, false, false, false, false, false, false, false]
    stP (stV w.heap.size w0.heap.size a.pl) Ap3 (by kernel_rfl) (by kernel_rfl) ?_ ?_ ?_
  · refine fun W _ => ⟨fun b e => ?_, fun b e => ?_, fun b e => ?_, fun b e _ => ?_, fun b e _ => ?_, fun b e _ => ?_⟩
    all_goals (simp [undef] at e)
  · refine ⟨?_, ?_, ?_, ?_, ?_, ?_, ?_, ?_, ?_, ?_, ?_, trivial⟩
    · intro f w1 hb hJ _ K hK
      simp only [over, overL, Nat.reduceAdd]
      go_simp
      exact hK _ _ ⟨_, by simp only [over, overL, Nat.reduceAdd]; rfl, rfl, hb, hJ.other (by decide) (by decide) (by decide), fun _ h => h⟩
    · intro f w1 hb hJ _ K hK
      simp only [over, overL, Nat.reduceAdd]
      go_simp
      exact hK _ _ ⟨_, by simp only [over, overL, Nat.reduceAdd]; rfl, rfl, hb, hJ.other (by decide) (by decide) (by decide), fun _ h => h⟩
    · intro f w1 hb hJ _ K hK
      simp only [over, overL, Nat.reduceAdd]
      go_simp
      exact hK _ _ ⟨_, by simp only [over, overL, Nat.reduceAdd]; rfl, rfl, hb, hJ.other (by decide) (by decide) (by decide), fun _ h => h⟩
    · intro f w1 hb hJ ⟨h8, _⟩ K hK
      replace h8 : f 8 = _ := h8
      have q1 := (KA.out.later hb).c 1 rfl
      have q2 := (KA.out.later hb).c 2 rfl
      have q3 := (KA.out.later hb).c 3 rfl
      simp only [over, overL, Nat.reduceAdd, h8]
      go_simp
      exact hK _ _ ⟨_, by simp only [over, overL, Nat.reduceAdd, h8]; rfl, rfl, hb, hJ.other (by decide) (by decide) (by decide), fun _ h => h⟩
    · intro f w1 hb hJ ⟨h9, _⟩ K hK
      replace h9 : f 9 = _ := h9
      simp only [over, overL, Nat.reduceAdd, h9]
      go_simp
      exact hK _ _ ⟨_, by simp only [over, overL, Nat.reduceAdd, h9]; rfl, rfl, hb, hJ.other (by decide) (by decide) (by decide), fun _ h => h⟩
    · intro f w1 hb hJ _ K hK
      simp only [over, overL, Nat.reduceAdd]
      go_simp
      exact hK _ _ ⟨_, by simp only [over, overL, Nat.reduceAdd]; rfl, ⟨w1.heap.size, rfl, hb.size, _, _, _, _, Bk.new w1 [.int .i64 0, .int .i64 0, .int .i64 0, .int .i64 0] 101 w1.heap.size rfl⟩, below_on hb ((Below.refl _ _).alloc (Nat.le_refl _) _), hJ.new3, fun j h => stV_mono w.heap.size w0.heap.size a.pl j _ _ _ h ((Below.refl _ _).alloc (Nat.le_refl _) _)⟩
    · intro f w1 hb hJ _ K hK
      simp only [over, overL, Nat.reduceAdd]
      go_simp
      exact hK _ _ ⟨_, by simp only [over, overL, Nat.reduceAdd]; rfl, ⟨w1.heap.size, rfl, hb.size, _, _, _, _, Bk.new w1 [.int .i64 0, .int .i64 0, .int .i64 0, .int .i64 0] 101 w1.heap.size rfl⟩, below_on hb ((Below.refl _ _).alloc (Nat.le_refl _) _), hJ.new4, fun j h => stV_mono w.heap.size w0.heap.size a.pl j _ _ _ h ((Below.refl _ _).alloc (Nat.le_refl _) _)⟩
    · intro f w1 hb hJ _ K hK
      simp only [over, overL, Nat.reduceAdd]
      go_simp
      exact hK _ _ ⟨_, by simp only [over, overL, Nat.reduceAdd]; rfl, ⟨w1.heap.size, rfl, hb.size, _, _, _, _, Bk.new w1 [.int .i64 0, .int .i64 0, .int .i64 0, .int .i64 0] 101 w1.heap.size rfl⟩, below_on hb ((Below.refl _ _).alloc (Nat.le_refl _) _), hJ.new5, fun j h => stV_mono w.heap.size w0.heap.size a.pl j _ _ _ h ((Below.refl _ _).alloc (Nat.le_refl _) _)⟩
    · intro f w1 hb hJ ⟨h3, h6, _⟩ K hK
      replace h6 : f 6 = _ := h6
      obtain ⟨B, h3, nB, u0, u1, u2, u3, AB⟩ := (show ∃ B, f 3 = ptr B ∧ w0.heap.size ≤ B ∧ ∃ u0 u1 u2 u3, Bk B [u0, u1, u2, u3] w1 from h3)
      have q0 := AB.c 0 rfl
      have qf0 := AB.f 0 rfl
      have q1 := AB.c 1 rfl
      have qf1 := AB.f 1 rfl
      have q2 := AB.c 2 rfl
      have qf2 := AB.f 2 rfl
      have q3 := AB.c 3 rfl
      have qf3 := AB.f 3 rfl
      simp only [over, overL, Nat.reduceAdd, h3, h6]
      go_simp
      refine hK _ _ ⟨undef, by simp only [over, overL, Nat.reduceAdd, h3, h6]; rfl, ?_, (((hb.setCell nB _).setCell nB _).setCell nB _).setCell nB _, hJ.same (by simp), ?_⟩
      · exact ⟨B, h3, AB.put4 tipS⟩
      · exact st_store3 hJ h3 AB
    · intro f w1 hb hJ ⟨h4, h7, _⟩ K hK
      replace h7 : f 7 = _ := h7
      obtain ⟨B, h4, nB, u0, u1, u2, u3, AB⟩ := (show ∃ B, f 4 = ptr B ∧ w0.heap.size ≤ B ∧ ∃ u0 u1 u2 u3, Bk B [u0, u1, u2, u3] w1 from h4)
      have q0 := AB.c 0 rfl
      have qf0 := AB.f 0 rfl
      have q1 := AB.c 1 rfl
      have qf1 := AB.f 1 rfl
      have q2 := AB.c 2 rfl
      have qf2 := AB.f 2 rfl
      have q3 := AB.c 3 rfl
      have qf3 := AB.f 3 rfl
      simp only [over, overL, Nat.reduceAdd, h4, h7]
      go_simp
      refine hK _ _ ⟨undef, by simp only [over, overL, Nat.reduceAdd, h4, h7]; rfl, ?_, (((hb.setCell nB _).setCell nB _).setCell nB _).setCell nB _, hJ.same (by simp), ?_⟩
      · exact ⟨B, h4, AB.put4 heatS⟩
      · exact st_store4 hJ h4 AB
    · intro f w1 hb hJ ⟨h5, h10, _⟩ K hK
      replace h10 : f 10 = _ := h10
      obtain ⟨B, h5, nB, u0, u1, u2, u3, AB⟩ := (show ∃ B, f 5 = ptr B ∧ w0.heap.size ≤ B ∧ ∃ u0 u1 u2 u3, Bk B [u0, u1, u2, u3] w1 from h5)
      have q0 := AB.c 0 rfl
      have qf0 := AB.f 0 rfl
      have q1 := AB.c 1 rfl
      have qf1 := AB.f 1 rfl
      have q2 := AB.c 2 rfl
      have qf2 := AB.f 2 rfl
      have q3 := AB.c 3 rfl
      have qf3 := AB.f 3 rfl
      simp only [over, overL, Nat.reduceAdd, h5, h10]
      go_simp
      refine hK _ _ ⟨undef, by simp only [over, overL, Nat.reduceAdd, h5, h10]; rfl, ?_, (((hb.setCell nB _).setCell nB _).setCell nB _).setCell nB _, hJ.same (by simp), ?_⟩
      · exact ⟨B, h5, AB.put4 (3, a.pl)⟩
      · exact st_store5 hJ h5 AB
  · intro f w1 hb1 hJ hv
    obtain ⟨B3, h3, K3⟩ := (show ∃ b, f 3 = ptr b ∧ Bk b (sdc tipS) w1 from hv.2.2.2.2.2.2.2.2.1)
    obtain ⟨B4, h4, K4⟩ := (show ∃ b, f 4 = ptr b ∧ Bk b (sdc heatS) w1 from hv.2.2.2.2.2.2.2.2.2.1)
    obtain ⟨B5, h5, K5⟩ := (show ∃ b, f 5 = ptr b ∧ Bk b (sdc (3, a.pl)) w1 from hv.2.2.2.2.2.2.2.2.2.2.1)
    have HB1 : Hid (Below w.heap.size w w1) := below_on HB0.out hb1
    have k0 := (KA.out.later hb1).c 0 rfl
    have t0 := K3.c 0 rfl
    have t1 := K3.c 1 rfl
    have t2 := K3.c 2 rfl
    have t3 := K3.c 3 rfl
    have h0 := K4.c 0 rfl
    have h1 := K4.c 1 rfl
    have h2 := K4.c 2 rfl
    have h3 := K4.c 3 rfl
    have s0 := K5.c 0 rfl
    have s1 := K5.c 1 rfl
    have s2 := K5.c 2 rfl
    have s3 := K5.c 3 rfl
    simp only [over, overL, Nat.reduceAdd, h4, h5]
    clear hv hJ hb1 K3 K4 K5
    by_cases h5 : a.kind = 5
    · have b5 : (a.kind == 5) = true := by simp [h5]
      have HS : Hid (strR a = [(3, a.pl)]) := str_5 h5
      clear h5
      go_wp2
      go_ret
      have hb9 := (Below.refl w1.heap.size w1).alloc (Nat.le_refl _) (.cells #[.int .i64 ((3, a.pl) : Std).1, .int .i64 ((3, a.pl) : Std).2.1, .int .i64 ((3, a.pl) : Std).2.2.1, .int .i64 ((3, a.pl) : Std).2.2.2] 101)
      refine ⟨below_on HB1.out hb9, some ⟨w1.heap.size, 0, none⟩, ?_⟩
      rw [HS.out]
      exact ⟨⟨_, rfl⟩, rd_new (w := w1) (3, a.pl), fun ad e => by injection e with e; subst e; exact HB1.out.size⟩
    · have b5 : (a.kind == 5) = false := by simp [h5]
      by_cases h6 : a.kind = 6
      · have b6 : (a.kind == 6) = true := by simp [h6]
        have HS : Hid (strR a = [tipS]) := str_67 (.inl h6)
        clear h6
        go_wp2
        go_ret
        have hb9 := (Below.refl w1.heap.size w1).alloc (Nat.le_refl _) (.cells #[.int .i64 tipS.1, .int .i64 tipS.2.1, .int .i64 tipS.2.2.1, .int .i64 tipS.2.2.2] 101)
        refine ⟨below_on HB1.out hb9, some ⟨w1.heap.size, 0, none⟩, ?_⟩
        rw [HS.out]
        exact ⟨⟨_, rfl⟩, rd_new (w := w1) tipS, fun ad e => by injection e with e; subst e; exact HB1.out.size⟩
      · have b6 : (a.kind == 6) = false := by simp [h6]
        by_cases h7 : a.kind = 7
        · have b7 : (a.kind == 7) = true := by simp [h7]
          have HS : Hid (strR a = [tipS]) := str_67 (.inr h7)
          clear h7
          go_wp2
          go_ret
          have hb9 := (Below.refl w1.heap.size w1).alloc (Nat.le_refl _) (.cells #[.int .i64 tipS.1, .int .i64 tipS.2.1, .int .i64 tipS.2.2.1, .int .i64 tipS.2.2.2] 101)
          refine ⟨below_on HB1.out hb9, some ⟨w1.heap.size, 0, none⟩, ?_⟩
          rw [HS.out]
          exact ⟨⟨_, rfl⟩, rd_new (w := w1) tipS, fun ad e => by injection e with e; subst e; exact HB1.out.size⟩
        · have b7 : (a.kind == 7) = false := by simp [h7]
          by_cases h8 : a.kind = 8
          · have b8 : (a.kind == 8) = true := by simp [h8]
            have HS : Hid (strR a = [tipS, (3, a.pl)]) := str_89 (.inl h8)
            clear h8
            go_wp2
            go_ret
            have hb9 := (Below.refl w1.heap.size w1).alloc (Nat.le_refl _) (.cells #[.int .i64 tipS.1, .int .i64 tipS.2.1, .int .i64 tipS.2.2.1, .int .i64 tipS.2.2.2, .int .i64 ((3, a.pl) : Std).1, .int .i64 ((3, a.pl) : Std).2.1, .int .i64 ((3, a.pl) : Std).2.2.1, .int .i64 ((3, a.pl) : Std).2.2.2] 101)
            refine ⟨below_on HB1.out hb9, some ⟨w1.heap.size, 0, none⟩, ?_⟩
            rw [HS.out]
            exact ⟨⟨_, rfl⟩, rd_new2 (w := w1) tipS (3, a.pl), fun ad e => by injection e with e; subst e; exact HB1.out.size⟩
          · have b8 : (a.kind == 8) = false := by simp [h8]
            by_cases h9 : a.kind = 9
            · have b9 : (a.kind == 9) = true := by simp [h9]
              have HS : Hid (strR a = [tipS, (3, a.pl)]) := str_89 (.inr h9)
              clear h9
              go_wp2
              go_ret
              have hb9 := (Below.refl w1.heap.size w1).alloc (Nat.le_refl _) (.cells #[.int .i64 tipS.1, .int .i64 tipS.2.1, .int .i64 tipS.2.2.1, .int .i64 tipS.2.2.2, .int .i64 ((3, a.pl) : Std).1, .int .i64 ((3, a.pl) : Std).2.1, .int .i64 ((3, a.pl) : Std).2.2.1, .int .i64 ((3, a.pl) : Std).2.2.2] 101)
              refine ⟨below_on HB1.out hb9, some ⟨w1.heap.size, 0, none⟩, ?_⟩
              rw [HS.out]
              exact ⟨⟨_, rfl⟩, rd_new2 (w := w1) tipS (3, a.pl), fun ad e => by injection e with e; subst e; exact HB1.out.size⟩
            · have b9 : (a.kind == 9) = false := by simp [h9]
              by_cases h11 : a.kind = 11
              · have b11 : (a.kind == 11) = true := by simp [h11]
                have HS : Hid (strR a = [heatS]) := str_heat (by omega)
                clear h11
                go_wp2
                go_ret
                have hb9 := (Below.refl w1.heap.size w1).alloc (Nat.le_refl _) (.cells #[.int .i64 heatS.1, .int .i64 heatS.2.1, .int .i64 heatS.2.2.1, .int .i64 heatS.2.2.2] 101)
                refine ⟨below_on HB1.out hb9, some ⟨w1.heap.size, 0, none⟩, ?_⟩
                rw [HS.out]
                exact ⟨⟨_, rfl⟩, rd_new (w := w1) heatS, fun ad e => by injection e with e; subst e; exact HB1.out.size⟩
              · have b11 : (a.kind == 11) = false := by simp [h11]
                by_cases h12 : a.kind = 12
                · have b12 : (a.kind == 12) = true := by simp [h12]
                  have HS : Hid (strR a = [heatS]) := str_heat (by omega)
                  clear h12
                  go_wp2
                  go_ret
                  have hb9 := (Below.refl w1.heap.size w1).alloc (Nat.le_refl _) (.cells #[.int .i64 heatS.1, .int .i64 heatS.2.1, .int .i64 heatS.2.2.1, .int .i64 heatS.2.2.2] 101)
                  refine ⟨below_on HB1.out hb9, some ⟨w1.heap.size, 0, none⟩, ?_⟩
                  rw [HS.out]
                  exact ⟨⟨_, rfl⟩, rd_new (w := w1) heatS, fun ad e => by injection e with e; subst e; exact HB1.out.size⟩
                · have b12 : (a.kind == 12) = false := by simp [h12]
                  by_cases h13 : a.kind = 13
                  · have b13 : (a.kind == 13) = true := by simp [h13]
                    have HS : Hid (strR a = [heatS]) := str_heat (by omega)
                    clear h13
                    go_wp2
                    go_ret
                    have hb9 := (Below.refl w1.heap.size w1).alloc (Nat.le_refl _) (.cells #[.int .i64 heatS.1, .int .i64 heatS.2.1, .int .i64 heatS.2.2.1, .int .i64 heatS.2.2.2] 101)
                    refine ⟨below_on HB1.out hb9, some ⟨w1.heap.size, 0, none⟩, ?_⟩
                    rw [HS.out]
                    exact ⟨⟨_, rfl⟩, rd_new (w := w1) heatS, fun ad e => by injection e with e; subst e; exact HB1.out.size⟩
                  · have b13 : (a.kind == 13) = false := by simp [h13]
                    by_cases h14 : a.kind = 14
                    · have b14 : (a.kind == 14) = true := by simp [h14]
                      have HS : Hid (strR a = [heatS]) := str_heat (by omega)
                      clear h14
                      go_wp2
                      go_ret
                      have hb9 := (Below.refl w1.heap.size w1).alloc (Nat.le_refl _) (.cells #[.int .i64 heatS.1, .int .i64 heatS.2.1, .int .i64 heatS.2.2.1, .int .i64 heatS.2.2.2] 101)
                      refine ⟨below_on HB1.out hb9, some ⟨w1.heap.size, 0, none⟩, ?_⟩
                      rw [HS.out]
                      exact ⟨⟨_, rfl⟩, rd_new (w := w1) heatS, fun ad e => by injection e with e; subst e; exact HB1.out.size⟩
                    · have b14 : (a.kind == 14) = false := by simp [h14]
                      have HS : Hid (strR a = []) := str_no (by omega)
                      clear h5 h6 h7 h8 h9 h11 h12 h13 h14
                      go_wp2
                      go_ret
                      refine ⟨HB1.out, none, ?_⟩
                      rw [HS.out]
                      exact ⟨⟨_, rfl⟩, .inl rfl, fun ad e => by cases e⟩
end Go.Proofs.YtgbnjgenopdmfaaGreat

/- flow.levelOf walked. -/
namespace Go.Proofs.YtgbnjgenopdmfaaGreat
open Go.RowKit Go.Maps
theorem lvl_snoc (f : Std → Nat) (a : List Std) (s : Std) : lvl f (a ++ [s]) = max (lvl f a) (f s) := by
  induction a with
  | nil => show max (f s) 0 = max 0 (f s); omega
  | cons x r ih => show max (f x) (lvl f (r ++ [s])) = max (max (f x) (lvl f r)) (f s); rw [ih]; omega
theorem grown_trans {w w1 w2 : World} {r : Option Nat} (h : w.grownBy w1 r) (k : w1.grownBy w2 r) : w.grownBy w2 r :=
  ⟨k.os.trans h.os, k.tape.trans h.tape, k.output.trans h.output, Nat.le_trans h.size k.size, fun b hb hn => (k.block b (Nat.lt_of_lt_of_le hb h.size) hn).trans (h.block b hb hn)⟩
theorem grown_below {w w1 : World} (r : Option Nat) (h : Below w.heap.size w w1) : w.grownBy w1 r := ⟨h.os, h.tape, h.output, h.size, fun b hb _ => h.block b hb⟩
theorem rd_grown {α : Type} {c : Enc α} {w w1 : World} {ao : Option Addr} {l : List α} {r : Option Nat} (h : RdR c w ao l) (hg : w.grownBy w1 r) (hn : ∀ ad, ao = some ad → r ≠ some ad.block) : RdR c w1 ao l := by
  rcases h with h | ⟨b, off, e, hlt, hc⟩
  · exact .inl h
  · refine .inr ⟨b, off, e, Nat.lt_of_lt_of_le hlt hg.size, fun k hk j hj => ?_⟩
    rw [← hc k hk j hj]
    exact World.cell?_of_block (a := ⟨b, _, none⟩) (hg.block b hlt fun e2 => hn _ e e2.symm)
theorem putI_len {κ : Type} [DecidableEq κ] (m : List (κ × Int)) (p : κ) (v : Int) : (putI m p v).length ≤ m.length + 1 := by
  have := List.length_filter_le (fun x => decide (x.1 ≠ p)) m
  simp only [putI, List.length_append, List.length_cons, List.length_nil]
  omega
theorem rd_at {α : Type} {c : Enc α} {w : World} {ao : Option Addr} {l : List α} (h : RdR c w ao l) {k : Nat} (hk : k < l.length) : ∃ g off, ao = some ⟨g, off, none⟩ ∧ ∀ j, j < c.sz → w.cell? ⟨g, off + k * c.sz + j, none⟩ = (c.enc (l[k]'hk))[j]? := by
  rcases h with h | ⟨b, off, e, _, hc⟩
  · rw [h] at hk; simp at hk
  · exact ⟨b, off, e, fun j hj => hc k hk j hj⟩
abbrev sdo (s : Std) : Obj := .cells #[.int .i64 s.1, .int .i64 s.2.1, .int .i64 s.2.2.1, .int .i64 s.2.2.2] 101
set_option maxHeartbeats 3200000 in
set_option maxRecDepth 100000 in
theorem levelOf_any (ss : List Std) (ao : Option Addr) (cap mb : Nat) (mm : List (Std × Int)) (f : Std → Nat) (w : World) (hR : RdR encSd w ao ss) (hS : ∀ s ∈ ss, Wf4 s) (hM : WI keS w mb mm) (hF : ∀ s, Wf4 s → (atI mm s).getD 0 = (f s : Int)) (hf : ∀ s, f s ≤ 3000) (hl : mm.length ≤ 1000000) (hls : ss.length ≤ 2) (hlo : ∀ ad, ao = some ad → some mb ≠ some ad.block) :
    Calls Tryz.prog 25 #[.slice ao ss.length cap, .map (some mb)] w fun e w' => e = .returned (.int .i64 (lvl f ss : Nat)) ∧ w.grownBy w' (some mb) ∧ ∃ mm', WI keS w' mb mm' ∧ (∀ s, Wf4 s → (atI mm' s).getD 0 = (upN f ss (lvl f ss + 1) s : Nat)) ∧ mm'.length ≤ mm.length + ss.length := by
  have HR : Hid (RdR encSd w ao ss) := hR
  have HS : Hid (∀ s ∈ ss, Wf4 s) := hS
  have HM : Hid (WI keS w mb mm) := hM
  have HF : Hid (∀ s, Wf4 s → (atI mm s).getD 0 = (f s : Int)) := hF
  have HLO : Hid (∀ ad, ao = some ad → some mb ≠ some ad.block) := hlo
  have HLV : Hid (∀ l, lvl f l ≤ 3000) := fun l => by
    rcases lvl_cases f l with h | ⟨s, _, h⟩
    · omega
    · rw [h]; exact hf s
  have HFS : Hid (∀ s, f s ≤ 3000) := hf
  clear hR hS hM hF hlo hf
  go_enter Tryz.func25, Tryz.ntmps25
  go_wp2
  go_loopw [5, 12] (fun q5 q12 wr => ∃ k : Nat, k ≤ ss.length ∧ q5 = .int .i64 (lvl f (ss.take k) : Nat) ∧ q12 = .int .i64 k ∧ Below w.heap.size w wr) (fun _ i _ => ss.length - (intOf i).toNat)
  case atStart => exact ⟨0, Nat.zero_le _, rfl, rfl, Below.refl _ _⟩
  case round =>
    obtain ⟨k, hk, rfl, rfl, hb⟩ := hrel
    have HB : Hid (Below w.heap.size w wr) := hb
    clear hb
    by_cases hlt : k < ss.length
    · have hki : (k : Int) < (ss.length : Int) := by omega
      obtain ⟨g, off, rfl, hc⟩ := rd_at (HR.out.next goodSd HB.out) hlt
      have HNX : Hid (lvl f (ss.take (k + 1)) = max (lvl f (ss.take k)) (f (ss[k]'hlt))) := by show _ = _; rw [List.take_succ_eq_append_getElem hlt, lvl_snoc]
      have hw4 := HS.out _ (List.getElem_mem hlt)
      generalize ss[k]'hlt = s at *
      have c0 := hc 0 (by decide)
      have c1 := hc 1 (by decide)
      have c2 := hc 2 (by decide)
      have c3 := hc 3 (by decide)
      simp only [sdc, List.getElem?_cons_zero, List.getElem?_cons_succ, Nat.add_zero] at c0 c1 c2 c3
      clear hc
      have b1 : Below wr.heap.size wr (wr.alloc (sdo s)) := (Below.refl _ _).alloc (Nat.le_refl _) _
      have hlk := ((HM.out.next HB.out).next b1).look lawKS (t := 63) Tryz.underlying63 zeroI hw4 false
      rw [HF.out s hw4] at hlk
      simp only [Bool.false_eq_true, if_false] at hlk
      have hv1 := HLV.out (ss.take k)
      have hv2 := HFS.out s
      generalize lvl f (ss.take k) = lv at *
      clear hw4 b1
      by_cases hle : f s ≤ lv
      · have HN2 : Hid (lvl f (ss.take (k + 1)) = lv) := by show _ = _; rw [HNX.out]; omega
        have hle2 : (f s : Int) ≤ (lv : Int) := by omega
        have hmax : max (lv : Int) (f s : Int) = lv := by omega
        go_wp2
        go_roundw
        case rel => exact ⟨k + 1, by omega, by rw [HN2.out], by go_num, HB.out.alloc HB.out.size _⟩
        case measure => simp [intOf]; omega
      · have HN2 : Hid (lvl f (ss.take (k + 1)) = f s) := by show _ = _; rw [HNX.out]; omega
        have hle2 : (lv : Int) < (f s : Int) := by omega
        have hmax : max (lv : Int) (f s : Int) = f s := by omega
        go_wp2
        go_roundw
        case rel => exact ⟨k + 1, by omega, by rw [HN2.out], by go_num, HB.out.alloc HB.out.size _⟩
        case measure => simp [intOf]; omega
    · have hki : ¬ (k : Int) < (ss.length : Int) := by omega
      have e : ss.take k = ss := List.take_of_length_le (by omega)
      rw [e]
      have hv1 := HLV.out ss
      obtain ⟨lv, hlv⟩ : ∃ lv, lv = lvl f ss := ⟨_, rfl⟩
      rw [← hlv] at hv1 ⊢
      have HLVL : Hid (lv = lvl f ss) := hlv
      obtain ⟨wo, rfl⟩ : ∃ wo, wo = wr := ⟨wr, rfl⟩
      clear hlv e
      go_wp2
      go_loopw [24] (fun q24 wr => ∃ (k : Nat) (m2 : List (Std × Int)), k ≤ ss.length ∧ q24 = .int .i64 k ∧ WI keS wr mb m2 ∧ (∀ s, Wf4 s → (atI m2 s).getD 0 = (upN f (ss.take k) (lv + 1) s : Nat)) ∧ w.grownBy wr (some mb) ∧ m2.length ≤ mm.length + k) (fun i _ => ss.length - (intOf i).toNat)
      case atStart => exact ⟨0, mm, Nat.zero_le _, rfl, HM.out.next HB.out, fun s hs => by rw [HF.out s hs]; simp [upN], grown_below _ HB.out, Nat.le_refl _⟩
      case round =>
        obtain ⟨k, m2, hk, rfl, hm2, hr2, hg2, hl2⟩ := hrel
        have HM2 : Hid (WI keS wr mb m2) := hm2
        have HR2 : Hid (∀ s, Wf4 s → (atI m2 s).getD 0 = (upN f (ss.take k) (lv + 1) s : Nat)) := hr2
        have HG2 : Hid (w.grownBy wr (some mb)) := hg2
        clear hm2 hr2 hg2
        by_cases hlt : k < ss.length
        · have hki : (k : Int) < (ss.length : Int) := by omega
          obtain ⟨g, off, rfl, hc⟩ := rd_at (rd_grown HR.out HG2.out HLO.out) hlt
          have HTK : Hid (ss.take (k + 1) = ss.take k ++ [ss[k]'hlt]) := by show _ = _; rw [List.take_succ_eq_append_getElem hlt]
          have hw4 := HS.out _ (List.getElem_mem hlt)
          generalize ss[k]'hlt = s at *
          have HW4 : Hid (Wf4 s) := hw4
          have c0 := hc 0 (by decide)
          have c1 := hc 1 (by decide)
          have c2 := hc 2 (by decide)
          have c3 := hc 3 (by decide)
          simp only [sdc, List.getElem?_cons_zero, List.getElem?_cons_succ, Nat.add_zero] at c0 c1 c2 c3
          clear hc
          have b1 : Below wr.heap.size wr (wr.alloc (sdo s)) := (Below.refl _ _).alloc (Nat.le_refl _) _
          obtain ⟨w3, hr3, hm3, hg3⟩ := (HM2.out.next b1).put lawKS (t := 63) Tryz.underlying63 hw4 ((lv : Int) + 1) (by omega)
          have HM3 : Hid (WI keS w3 mb (putI m2 s ((lv : Int) + 1))) := hm3
          have HG3 : Hid (w.grownBy w3 (some mb)) := grown_trans (grown_trans HG2.out (grown_below _ b1)) hg3
          have HON : Hid (m2.Pairwise fun x y => x.1 ≠ y.1) := by obtain ⟨D, _, h⟩ := HM2.out; exact h.once
          clear hm3 hg3 hw4 b1
          go_wp2
          go_roundw
          case rel =>
            refine ⟨k + 1, putI m2 s ((lv : Int) + 1), by omega, by go_num, HM3.out, fun x hx => ?_, HG3.out, ?_⟩
            · rw [atI_put HON.out, HTK.out]
              by_cases e : x = s
              · subst e
                simp [upN]
              · rw [if_neg e, HR2.out x hx]
                simp [upN, e]
            · have := putI_len m2 s ((lv : Int) + 1)
              omega
          case measure => simp [intOf]; omega
        · have hki : ¬ (k : Int) < (ss.length : Int) := by omega
          have e : ss.take k = ss := List.take_of_length_le (by omega)
          have HR3 : Hid (∀ s, Wf4 s → (atI m2 s).getD 0 = (upN f ss (lv + 1) s : Nat)) := by have h := HR2.out; rw [e] at h; exact h
          clear e HR2
          go_wp2
          go_ret
          refine ⟨by rw [HLVL.out]; rfl, HG2.out, m2, HM2.out, ?_, by omega⟩
          rw [← HLVL.out]
          exact fun _ _ _ _ h => HR3.out _ h
end Go.Proofs.YtgbnjgenopdmfaaGreat

/- Lists of numbers, in a list, in memory. -/
namespace Go.Proofs.YtgbnjgenopdmfaaGreat
open Go.RowKit
abbrev encN : Enc Nat := ⟨3, 1, fun n => [.int .i64 n]⟩
theorem goodN : Good encN := ⟨fun _ => rfl, fun x u hu => by simp at hu; subst hu; rfl⟩
theorem infoN : (Tryz.prog.info? 3).map (fun i => (i.zero, i.size, i.bytes)) = some (some (.int .i64 0), 1, 8) := by kernel_rfl
abbrev Sl3 := Option Addr × Nat × Nat
abbrev slv (x : Sl3) : Value := .slice x.1 x.2.1 x.2.2
abbrev encL : Enc Sl3 := ⟨34, 1, fun x => [slv x]⟩
theorem goodL : Good encL := ⟨fun _ => rfl, fun x u hu => by simp at hu; subst hu; rfl⟩
theorem infoL : (Tryz.prog.info? 34).map (fun i => (i.zero, i.size, i.bytes)) = some (some (.slice none 0 0), 1, 24) := by kernel_rfl
/-- Two slices that don't share a block. -/
def Apv (a b : Value) : Prop := a.ownBlock = none ∨ a.ownBlock ≠ b.ownBlock
theorem Apv.symm {a b : Value} (h : Apv a b) : Apv b a := by
  rcases h with h | h
  · cases hb : b.ownBlock with
    | none => exact .inl hb
    | some k => exact .inr (by rw [hb, h]; simp)
  · exact .inr (fun e => h e.symm)
theorem ownR_lt {α : Type} {c : Enc α} {w : World} {base : Nat} {v : Value} {ps : List α} (h : OwnR c w base v ps) {k : Nat} (hk : v.ownBlock = some k) : base ≤ k ∧ k < w.heap.size := World.ownsRow.lt h k hk
theorem apv_new {wr : World} {a ov v' : Value} (hl : ∀ k, a.ownBlock = some k → k < wr.heap.size) (hap : Apv a ov) (h : v'.ownBlock = ov.ownBlock ∨ v'.ownBlock = some wr.heap.size) : Apv a v' := by
  rcases h with h | h
  · rcases hap with h2 | h2
    · exact .inl h2
    · exact .inr (by rw [h]; exact h2)
  · cases ha : a.ownBlock with
    | none => exact .inl ha
    | some k =>
      refine .inr ?_
      rw [h, ha]
      intro e
      injection e with e
      have := hl k ha
      omega
theorem grown_setZ (w : World) (g o : Nat) (v : Value) : w.grownBy (w.setCell ⟨g, o, none⟩ v) (some g) :=
  ⟨rfl, rfl, rfl, by simp [World.setCell], fun k _ hk => Below.heap_setCell _ _ _ _ (fun e => hk (by rw [e]))⟩
theorem cells_set {α : Type} {c : Enc α} (hgc : Good c) (y : α) (o : Nat) (ho : o < c.sz) (u : Value) : ∀ (ps : List α) (k : Nat) (hk : k < ps.length), c.enc y = (c.enc (ps[k]'hk)).set o u → c.cells (ps.set k y) = (c.cells ps).set (k * c.sz + o) u
  | x :: ps, 0, _, hy => by
    show c.enc y ++ c.cells ps = (c.enc x ++ c.cells ps).set (0 * c.sz + o) u
    rw [Nat.zero_mul, Nat.zero_add, List.set_append_left _ _ (by rw [hgc.len]; exact ho)]
    rw [hy]
    rfl
  | x :: ps, k + 1, hk, hy => by
    show c.enc x ++ c.cells (ps.set k y) = (c.enc x ++ c.cells ps).set ((k + 1) * c.sz + o) u
    rw [cells_set hgc y o ho u ps k (by simpa using hk) hy]
    have e : (k + 1) * c.sz + o = (c.enc x).length + (k * c.sz + o) := by rw [hgc.len, Nat.succ_mul]; omega
    rw [e, List.set_append_right _ _ (by omega), Nat.add_sub_cancel_left]
theorem OwnR.set {α : Type} {c : Enc α} (hgc : Good c) {w : World} {base g n cap : Nat} {ps : List α} (h : OwnR c w base (.slice (some ⟨g, 0, none⟩) n cap) ps) {k : Nat} (hk : k < ps.length) {o : Nat} (ho : o < c.sz) (u : Value) (y : α) (hy : c.enc y = (c.enc (ps[k]'hk)).set o u) :
    OwnR c (w.setCell ⟨g, k * c.sz + o, none⟩ u) base (.slice (some ⟨g, 0, none⟩) n cap) (ps.set k y) := by
  obtain ⟨h1, h2 | ⟨g', cap', cur, e, h3, h4, h5, h6, h7, h8⟩⟩ := h
  · cases h2.1
  · injection e with e1 e2 e3
    injection e1 with e1
    injection e1 with e1
    subst e1 e3 e2
    refine ⟨by rw [cells_length hgc], .inr ⟨g, cap, cur.setIfInBounds (k * c.sz + o) u, by rw [List.length_set], h3, ?_, by rw [List.length_set]; exact h5, h6, by rw [Array.size_setIfInBounds]; exact h7, ?_⟩⟩
    · unfold World.setCell
      simp only [Array.getElem?_modify, if_true, h4]
      simp
    · rw [List.length_set, cells_set hgc y o ho u ps k hk hy, ← h8, Array.toList_setIfInBounds, List.take_set]
theorem OwnR.inv {α : Type} {c : Enc α} {w : World} {base : Nat} {v : Value} {ps : List α} (h : OwnR c w base v ps) : (v = .slice none 0 0 ∧ ps = []) ∨ ∃ g cap, v = .slice (some ⟨g, 0, none⟩) ps.length cap ∧ base ≤ g ∧ g < w.heap.size ∧ ps.length ≤ cap ∧ cap ≤ maxLen := by
  rcases h.2 with ⟨h1, h2⟩ | ⟨g, cap, cur, h1, h2, h3, h4, h5, _⟩
  · exact .inl ⟨h1, List.eq_nil_of_length_eq_zero h2⟩
  · exact .inr ⟨g, cap, h1, h2, (Array.getElem?_eq_some_iff.1 h3).1, h4, h5⟩
theorem OwnR.rd {α : Type} {c : Enc α} (hg : Good c) {w : World} {base : Nat} {ao : Option Addr} {n cap : Nat} {ps : List α} (h : OwnR c w base (.slice ao n cap) ps) : RdR c w ao ps := by
  rcases h.read hg with ⟨h1, _⟩ | ⟨g, cap', e, _, _, hlt, hc⟩
  · exact .inl h1
  · injection e with e1
    exact .inr ⟨g, 0, e1, hlt, fun k hk j hj => by rw [Nat.zero_add]; exact hc k hk j hj⟩
theorem OwnR.cellAt {α : Type} {c : Enc α} (hgc : Good c) {w : World} {base g n cap : Nat} {ps : List α} (h : OwnR c w base (.slice (some ⟨g, 0, none⟩) n cap) ps) {k : Nat} (hk : k < ps.length) {j : Nat} (hj : j < c.sz) : w.cell? ⟨g, k * c.sz + j, none⟩ = (c.enc (ps[k]'hk))[j]? ∧ w.frozen? ⟨g, k * c.sz + j, none⟩ = false := by
  rcases h.read hgc with ⟨h1, _⟩ | ⟨g', cap', e, _, _, hlt, hc⟩
  · rw [h1] at hk; simp at hk
  · injection e with e1
    injection e1 with e1
    injection e1 with e1
    subst e1
    refine ⟨hc k hk j hj, ?_⟩
    rcases h.2 with ⟨h2, _⟩ | ⟨g2, cap2, cur, e2, _, h3, _⟩
    · cases h2
    · injection e2 with e2
      injection e2 with e2
      injection e2 with e2
      subst e2
      unfold World.frozen?
      simp only [h3]
      simp
/-- Levels in memory: the list of lists v; its rows vs. -/
structure Lvs (w : World) (base : Nat) (v : Value) (g : List (List Nat)) (vs : List Sl3) : Prop where
  own : OwnR encL w base v vs
  len : vs.length = g.length
  row : ∀ k (h : k < vs.length) (h2 : k < g.length), OwnR encN w base (slv (vs[k]'h)) (g[k]'h2)
  apart : ∀ j k (hj : j < vs.length) (hk : k < vs.length), j ≠ k → Apv (slv (vs[j]'hj)) (slv (vs[k]'hk))
  out : ∀ k (hk : k < vs.length), Apv (slv (vs[k]'hk)) v
theorem Lvs.nil (w : World) (base : Nat) : Lvs w base (.slice none 0 0) [] [] := ⟨OwnR.nil _ _ _, rfl, fun k h => by simp at h, fun j k h => by simp at h, fun k h => by simp at h⟩
theorem Lvs.later {w w1 : World} {base : Nat} {v : Value} {g : List (List Nat)} {vs : List Sl3} (h : Lvs w base v g vs) (hb : Below w.heap.size w w1) : Lvs w1 base v g vs :=
  ⟨h.own.later hb, h.len, fun k h1 h2 => (h.row k h1 h2).later hb, h.apart, h.out⟩
/-- A block below all of it has turned. -/
theorem Lvs.low {w w1 : World} {base m : Nat} {v : Value} {g : List (List Nat)} {vs : List Sl3} (h : Lvs w base v g vs) (hg : w.grownBy w1 (some m)) (hm : m < base) : Lvs w1 base v g vs := by
  have hne : ∀ {α : Type} {c : Enc α} {u : Value} {ps : List α}, OwnR c w base u ps → u.ownBlock = none ∨ u.ownBlock ≠ some m := fun {α c u ps} ho => by
    refine .inr fun e => ?_
    have := (ownR_lt ho e).1
    omega
  exact ⟨h.own.kept hg (hne h.own), h.len, fun k h1 h2 => (h.row k h1 h2).kept hg (hne (h.row k h1 h2)), h.apart, h.out⟩
/-- One more level, with nothing. -/
theorem Lvs.more {w w1 : World} {base : Nat} {v v' : Value} {g : List (List Nat)} {vs : List Sl3} (h : Lvs w base v g vs) (ho : OwnR encL w1 base v' (vs ++ [(none, 0, 0)])) (hg : w.grownBy w1 v.ownBlock) (hn : v'.ownBlock = v.ownBlock ∨ v'.ownBlock = some w.heap.size) : Lvs w1 base v' (g ++ [[]]) (vs ++ [(none, 0, 0)]) := by
  have hl := h.len
  refine ⟨ho, by simp [hl], fun k h1 h2 => ?_, fun j k hj hk hne => ?_, fun k hk => ?_⟩
  · by_cases e : k < vs.length
    · rw [List.getElem_append_left e, List.getElem_append_left (by omega)]
      exact (h.row k e (by omega)).kept hg (h.out k e)
    · have e2 : k = vs.length := by simp at h1; omega
      subst e2
      rw [List.getElem_append_right (by omega), List.getElem_append_right (by omega)]
      simp only [hl, Nat.sub_self, List.getElem_cons_zero]
      exact OwnR.nil _ _ _
  · by_cases e : j < vs.length
    · by_cases e2 : k < vs.length
      · rw [List.getElem_append_left e, List.getElem_append_left e2]
        exact h.apart j k e e2 hne
      · have e3 : k = vs.length := by simp at hk; omega
        subst e3
        refine Apv.symm (.inl ?_)
        rw [List.getElem_append_right (by omega)]
        simp [Value.ownBlock]
    · have e3 : j = vs.length := by simp at hj; omega
      subst e3
      refine .inl ?_
      rw [List.getElem_append_right (by omega)]
      simp [Value.ownBlock]
  · by_cases e : k < vs.length
    · rw [List.getElem_append_left e]
      exact apv_new (fun b hb => (ownR_lt (h.row k e (by omega)) hb).2) (h.out k e) hn
    · have e3 : k = vs.length := by simp at hk; omega
      subst e3
      refine .inl ?_
      rw [List.getElem_append_right (by omega)]
      simp [Value.ownBlock]
/-- One number more in a level. -/
theorem Lvs.add {w w1 : World} {base gb cap : Nat} {g : List (List Nat)} {vs : List Sl3} (h : Lvs w base (.slice (some ⟨gb, 0, none⟩) vs.length cap) g vs) {n : Nat} (hn : n < vs.length) (hn2 : n < g.length) {x : Sl3} {i : Nat} (ho : OwnR encN w1 base (slv x) (g[n]'hn2 ++ [i])) (hg : w.grownBy w1 (slv (vs[n]'hn)).ownBlock) (hx : (slv x).ownBlock = (slv (vs[n]'hn)).ownBlock ∨ (slv x).ownBlock = some w.heap.size) :
    Lvs (w1.setCell ⟨gb, n, none⟩ (slv x)) base (.slice (some ⟨gb, 0, none⟩) vs.length cap) (g.set n (g[n]'hn2 ++ [i])) (vs.set n x) := by
  have hl := h.len
  have hgb := ownR_lt h.own (k := gb) rfl
  have hs := grown_setZ w1 gb n (slv x)
  have h1 : OwnR encL w1 base (.slice (some ⟨gb, 0, none⟩) vs.length cap) vs := h.own.kept hg (h.out n hn).symm
  have h2 := h1.set goodL hn (o := 0) (by decide) (slv x) x rfl
  rw [Nat.mul_one, Nat.add_zero] at h2
  have hxo : (slv x).ownBlock = none ∨ (slv x).ownBlock ≠ some gb := by
    rcases hx with e | e
    · rw [e]; exact h.out n hn
    · rw [e]
      refine .inr fun e2 => ?_
      injection e2 with e2
      omega
  refine ⟨h2, by simp [hl], fun k hk hk2 => ?_, fun j k hj hk hne => ?_, fun k hk => ?_⟩
  · simp only [List.length_set] at hk hk2
    by_cases e : n = k
    · subst e
      rw [List.getElem_set_self, List.getElem_set_self]
      exact ho.kept hs hxo
    · rw [List.getElem_set_ne e, List.getElem_set_ne e]
      have hr := (h.row k hk hk2).kept hg (h.apart k n hk hn (Ne.symm e))
      exact hr.kept hs (h.out k hk)
  · simp only [List.length_set] at hj hk
    have key : ∀ m (hm : m < vs.length), m ≠ n → Apv (slv (vs[m]'hm)) (slv x) := fun m hm hmn =>
      apv_new (wr := w) (fun b hb => (ownR_lt (h.row m hm (by omega)) hb).2) (h.apart m n hm hn hmn) hx
    by_cases e : n = j
    · subst e
      rw [List.getElem_set_self, List.getElem_set_ne hne]
      exact (key k hk (Ne.symm hne)).symm
    · rw [List.getElem_set_ne e]
      by_cases e2 : n = k
      · subst e2
        rw [List.getElem_set_self]
        exact key j hj (Ne.symm e)
      · rw [List.getElem_set_ne e2]
        exact h.apart j k hj hk hne
  · simp only [List.length_set] at hk
    by_cases e : n = k
    · subst e
      rw [List.getElem_set_self]
      exact hxo
    · rw [List.getElem_set_ne e]
      exact h.out k hk
theorem addG_len (g : List (List Nat)) (i n : Nat) : (addG g i n).length ≤ g.length + 1 := by
  unfold addG
  split <;> simp
theorem levR_len (l : List Acn) : (levR l).length ≤ l.length := by
  induction l using snocI with
  | h0 => simp [levR, lvs, lvF, grp, grpF]
  | h1 l a ih =>
    rw [levR_snoc]
    have := addG_len (levR l) l.length (lvl (nxs l) (strR a))
    simp only [List.length_append, List.length_cons, List.length_nil]
    omega
theorem row_len : ∀ (l : List Acn) (r : List Nat), r ∈ levR l → r.length ≤ l.length := by
  intro l
  induction l using snocI with
  | h0 => intro r hr; simp [levR, lvs, lvF, grp, grpF] at hr
  | h1 l a ih =>
    intro r hr
    rw [levR_snoc] at hr
    simp only [List.length_append, List.length_cons, List.length_nil]
    unfold addG at hr
    split at hr
    · rcases List.mem_append.1 hr with hr | hr
      · have := ih r hr; omega
      · simp at hr; subst hr; simp
    · rcases List.mem_or_eq_of_mem_set hr with hr | hr
      · have := ih r hr; omega
      · subst hr
        simp only [List.length_append, List.length_cons, List.length_nil]
        cases h : (levR l)[lvl (nxs l) (strR a)]? with
        | none => simp
        | some q => have := ih q (List.mem_of_getElem? h); simp; omega
end Go.Proofs.YtgbnjgenopdmfaaGreat

/- flow.Level walked. -/
namespace Go.Proofs.YtgbnjgenopdmfaaGreat
open Go.RowKit Go.Maps
theorem own_some {α : Type} {c : Enc α} {w : World} {base : Nat} {v : Value} {ps : List α} (h : OwnR c w base v ps) (hn : ps ≠ []) : ∃ g cap, v = .slice (some ⟨g, 0, none⟩) ps.length cap ∧ base ≤ g ∧ g < w.heap.size := by
  rcases h.inv with ⟨_, h2⟩ | ⟨g, cap, e, h1, h2, _⟩
  · exact absurd h2 hn
  · exact ⟨g, cap, e, h1, h2⟩
theorem str_wf {a : Acn} (h : Wf3 a.pl) : ∀ s ∈ strR a, Wf4 s := by
  intro s hs
  have h0 : Wf3 (0, 0, 0) := ⟨⟨by decide, by decide⟩, ⟨by decide, by decide⟩, ⟨by decide, by decide⟩⟩
  rcases mem_str.1 hs with ⟨e, _⟩ | ⟨e, _⟩ | ⟨e, _⟩
  · rw [e]; exact ⟨⟨by decide, by decide⟩, h0⟩
  · rw [e]; exact ⟨⟨by decide, by decide⟩, h0⟩
  · rw [e]; exact ⟨⟨show (-9223372036854775808 : Int) ≤ 3 by decide, show (3 : Int) ≤ 9223372036854775807 by decide⟩, h⟩
theorem str_len (a : Acn) : (strR a).length ≤ 2 := by
  unfold strR
  repeat (split <;> try simp)
set_option maxHeartbeats 12800000 in
set_option maxRecDepth 100000 in
theorem level_any (ao : Option Addr) (cap : Nat) (acs : List Acn) (w : World) (hA : Acs w ao acs) (hla : acs.length ≤ 9223372036854775807) (hpl : ∀ a ∈ acs, Wf3 a.pl) :
    Calls Tryz.prog 9 #[.slice ao acs.length cap] w fun e w' => Below w.heap.size w w' ∧ ((3000 < acs.length ∧ e = .returned (.tuple #[.slice none 0 0, .int .i64 7])) ∨ (acs.length ≤ 3000 ∧ ∃ v vs, e = .returned (.tuple #[v, .int .i64 0]) ∧ Lvs w' (w.heap.size + 1) v (levR acs) vs)) := by
  have HA : Hid (Acs w ao acs) := hA
  have HPL : Hid (∀ a ∈ acs, Wf3 a.pl) := hpl
  clear hA hpl
  go_enter Tryz.func9, Tryz.ntmps9
  by_cases hbig : 3000 < acs.length
  · have hbi : (3000 : Int) < (acs.length : Int) := by omega
    go_wp2
    go_ret2
    exact ⟨Below.refl _ _, .inl ⟨hbig, rfl⟩⟩
  · have hl : acs.length ≤ 3000 := by omega
    have hbi : ¬ (3000 : Int) < (acs.length : Int) := by omega
    have HM0 : Hid (WI keS (w.alloc (.map #[] 0)) w.heap.size []) := WI.made keS w
    have HB0 : Hid (Below w.heap.size w (w.alloc (.map #[] 0))) := (Below.refl _ _).alloc (Nat.le_refl _) _
    have hmm := @run_makeMap Tryz.prog
    go_wp2
    clear hmm
    go_loopw [4, 15] (fun q4 q15 wr => ∃ (k : Nat) (v : Value) (vs : List Sl3) (mm : List (Std × Int)), k ≤ acs.length ∧ v = q4 ∧ q15 = .int .i64 k ∧ Lvs wr (w.heap.size + 1) v (levR (acs.take k)) vs ∧ WI keS wr w.heap.size mm ∧ (∀ a1 a2 a3 a4, Wf4 (a1, a2, a3, a4) → (atI mm (a1, a2, a3, a4)).getD 0 = (nxs (acs.take k) (a1, a2, a3, a4) : Nat)) ∧ mm.length ≤ 2 * k ∧ Below w.heap.size w wr ∧ w.heap.size + 1 ≤ wr.heap.size) (fun _ i _ => acs.length - (intOf i).toNat)
    case atStart => exact ⟨0, _, [], [], Nat.zero_le _, rfl, rfl, Lvs.nil _ _, HM0.out, fun _ _ _ _ _ => rfl, Nat.zero_le _, HB0.out, by simp⟩
    case round =>
      obtain ⟨k, v, vs, mm, hk, rfl, rfl, hL, hM, hrel2, hml, hB, hS1⟩ := hrel
      have HL : Hid (Lvs wr (w.heap.size + 1) v (levR (acs.take k)) vs) := hL
      have HM : Hid (WI keS wr w.heap.size mm) := hM
      have HREL : Hid (∀ s, Wf4 s → (atI mm s).getD 0 = (nxs (acs.take k) s : Nat)) := fun s hs => hrel2 s.1 s.2.1 s.2.2.1 s.2.2.2 hs
      have HB : Hid (Below w.heap.size w wr) := hB
      have HS1 : Hid (w.heap.size + 1 ≤ wr.heap.size) := hS1
      clear hL hM hrel2 hB hS1
      by_cases hlt : k < acs.length
      · have hki : (k : Int) < (acs.length : Int) := by omega
        have hwf := HPL.out _ (List.getElem_mem hlt)
        have htl : (acs.take k).length = k := by rw [List.length_take]; omega
        obtain ⟨g0, off, rfl, hc⟩ := (HA.out.next HB.out).at hlt
        have HNG0 : Hid (levR (acs.take (k + 1)) = addG (levR (acs.take k)) k (lvl (nxs (acs.take k)) (strR (acs[k]'hlt)))) := by show _ = _; rw [List.take_succ_eq_append_getElem hlt, levR_snoc, htl]
        have HNN0 : Hid (nxs (acs.take (k + 1)) = upN (nxs (acs.take k)) (strR (acs[k]'hlt)) (lvl (nxs (acs.take k)) (strR (acs[k]'hlt)) + 1)) := by show _ = _; rw [List.take_succ_eq_append_getElem hlt, nxs_snoc]
        have hle := lvl_le (acs.take k) (acs[k]'hlt)
        generalize acs[k]'hlt = a at *
        have HSW : Hid (∀ s ∈ strR a, Wf4 s) := str_wf hwf
        have HSL : Hid ((strR a).length ≤ 2) := str_len a
        have hsl2 := str_len a
        have hgl := levR_len (acs.take k)
        rw [htl] at hgl
        have HRL : Hid (∀ r ∈ levR (acs.take k), r.length ≤ 3000) := fun r hr => by have := row_len (acs.take k) r hr; omega
        have HNB : Hid (∀ s, nxs (acs.take k) s ≤ 3000) := fun s => by have h := (lvs_inv (acs.take k)).2 s; have e : (grp (lvs (acs.take k))).length ≤ k := hgl; omega
        obtain ⟨lv, hlv⟩ : ∃ lv, lv = lvl (nxs (acs.take k)) (strR a) := ⟨_, rfl⟩
        have HLV : Hid (lv = lvl (nxs (acs.take k)) (strR a)) := hlv
        rw [← hlv] at HNG0 HNN0 hle
        have c0 := hc 0 (by decide)
        have c1 := hc 1 (by decide)
        have c2 := hc 2 (by decide)
        have c3 := hc 3 (by decide)
        have c4 := hc 4 (by decide)
        have c5 := hc 5 (by decide)
        have c6 := hc 6 (by decide)
        have c7 := hc 7 (by decide)
        simp only [acl, List.getElem?_cons_zero, List.getElem?_cons_succ, Nat.add_zero] at c0 c1 c2 c3 c4 c5 c6 c7
        clear hc hlv hwf htl
        have b1 : Below wr.heap.size wr (wr.alloc (.cells (avs a) 55)) := (Below.refl _ _).alloc (Nat.le_refl _) _
        have HL1 : Hid (Lvs (wr.alloc (.cells (avs a) 55)) (w.heap.size + 1) v (levR (acs.take k)) vs) := HL.out.later b1
        have HM1 : Hid (WI keS (wr.alloc (.cells (avs a) 55)) w.heap.size mm) := HM.out.next b1
        have HB1 : Hid (Below w.heap.size w (wr.alloc (.cells (avs a) 55))) := HB.out.trans (b1.mono HB.out.size)
        clear b1
        have hvl0 := HL.out.len
        have hvl : vs.length ≤ (levR (acs.take k)).length := by omega
        have hvl9 : (levR (acs.take k)).length ≤ vs.length := by omega
        clear hvl0
        obtain ⟨G, hG⟩ : ∃ G, G = levR (acs.take k) := ⟨_, rfl⟩
        have hGL : levR (acs.take k) = G := hG.symm
        rw [hGL] at HNG0 HL1 HRL hgl hvl hvl9
        have hle2 : lv ≤ G.length := by rw [hG]; exact hle
        have HNN : Hid (nxs (acs.take (k + 1)) = upN (nxs (acs.take k)) (strR a) (lv + 1)) := HNN0.out
        clear hG hGL hle HNN0 HL HM
        by_cases hlv2 : lv = G.length
        · have bl : ((lv : Int) == (vs.length : Int)) = true := by simp; omega
          obtain ⟨vs2, hvs2⟩ : ∃ vs2 : List Sl3, vs2 = vs ++ [(none, 0, 0)] := ⟨_, rfl⟩
          have HVS2 : Hid (vs2 = vs ++ [(none, 0, 0)]) := hvs2
          have hl2 : lv < vs2.length := by rw [hvs2]; simp; omega
          have hg2 : lv < (G ++ [[]]).length := by simp; omega
          have hl2i : (lv : Int) < (vs2.length : Int) := by omega
          have hvl3 : vs2.length ≤ 3001 := by rw [hvs2]; simp; omega
          obtain ⟨x, hx⟩ : ∃ x : Sl3, x = (none, 0, 0) := ⟨_, rfl⟩
          obtain ⟨row, hrow⟩ : ∃ row : List Nat, row = [] := ⟨_, rfl⟩
          have hrl : row.length ≤ 3000 := by rw [hrow]; simp
          have HX : Hid (vs2[lv]'hl2 = x) := by
            have h : vs2[lv]? = some (none, 0, 0) := by rw [hvs2, List.getElem?_append_right (by omega), show lv - vs.length = 0 by omega]; rfl
            have h2 := List.getElem?_eq_getElem hl2
            rw [h] at h2
            injection h2 with h2
            show _ = _
            rw [← h2, hx]
          have HROW : Hid ((G ++ [[]])[lv]'hg2 = row) := by
            have h : (G ++ [[]])[lv]? = some [] := by rw [List.getElem?_append_right (by omega), show lv - G.length = 0 by omega]; rfl
            have h2 := List.getElem?_eq_getElem hg2
            rw [h] at h2
            injection h2 with h2
            show _ = _
            rw [← h2, hrow]
          have HNG : Hid (levR (acs.take (k + 1)) = (G ++ [[]]).set lv ((G ++ [[]])[lv]'hg2 ++ [k])) := by
            show _ = _
            rw [HNG0.out, addG, if_pos hlv2, HROW.out, hrow, hlv2]
            simp
          obtain ⟨x1, x2, x3⟩ := x
          simp only [Prod.mk.injEq] at hx
          obtain ⟨rfl, rfl, rfl⟩ := hx
          obtain ⟨aoV, cV, rfl⟩ := HL1.out.own.shape
          clear hvs2 hrow hlv2
          go_wp2_with (first
            | (go_at_call 26; refine (strandsOf_any a _).mono ?_; rintro e w2 ⟨hb2, aoS, cS, rfl, hrS, hfS⟩)
            | (go_at_call 25; refine (levelOf_any (strR a) aoS cS w.heap.size mm (nxs (acs.take k)) _ hrS HSW.out (HM1.out.next hb2) HREL.out HNB.out (by omega) HSL.out (fun ad e e2 => by injection e2 with e2; have h9 := hfS ad e; have := HS1.out; rw [World.size_alloc] at h9; omega)).mono ?_; rintro e w3 ⟨rfl, hg3, m3, hm3, hr3, hl3⟩; rw [← HLV.out] at hr3 ⊢; have L3 := (HL1.out.later hb2).low hg3 (by omega); have h13 := Nat.le_trans hb2.size hg3.size)
            | (at_builtin; refine wpList_append_row goodL Tryz.underlying29 infoL rfl (by decide) (by decide) _ rfl (.tmp 28) (.tmp 29) rfl (w.heap.size + 1) (.slice aoV vs.length cV) vs rfl (L3.own.alloc _) w3.heap.size (none, 0, 0) rfl (fun j u hu => one_new w3 _ _ j u hu) (by omega) (by have := HS1.out; simp; simp at h13; omega) ?_; intro v4 w4 o4 g4 n4; have L4 := (L3.later ((Below.refl _ _).alloc (Nat.le_refl _) (.cells #[.slice none 0 0] 34))).more o4 g4 n4; rw [← HVS2.out] at L4; obtain ⟨gb, cp4, rfl, hgb1, hgb2⟩ := own_some L4.own (by intro e; rw [e] at hl2; simp at hl2); have hc4 := (L4.own.cellAt goodL hl2 (j := 0) (by decide)).1; have d4 : w4.cell? ⟨gb, lv, none⟩ = some (slv (none, 0, 0)) := (by rw [HX.out] at hc4; simpa using hc4); have R4 : OwnR encN w4 (w.heap.size + 1) (slv (none, 0, 0)) row := (by have h := L4.row lv hl2 hg2; rw [HX.out, HROW.out] at h; exact h); have h34 := g4.size)
            | (at_builtin; refine wpList_append_row goodN Tryz.underlying34 infoN rfl (by decide) (by decide) _ rfl (.tmp 36) (.tmp 38) rfl (w.heap.size + 1) (slv (none, 0, 0)) row rfl (R4.alloc _) w4.heap.size k rfl (fun j u hu => one_new w4 _ _ j u hu) (by omega) (by have := HS1.out; simp; omega) ?_; intro v6 w6 o6 g6 n6; have O6 := (L4.own.alloc (.cells #[.int .i64 k] 3)).kept g6 (by rw [← HX.out]; exact (L4.out lv hl2).symm); have hc6 := (O6.cellAt goodL hl2 (j := 0) (by decide)); have d6 : w6.cell? ⟨gb, lv, none⟩ = some (slv (none, 0, 0)) := (by have h := hc6.1; rw [HX.out] at h; simpa using h); have df6 : w6.frozen? ⟨gb, lv, none⟩ = false := (by have h := hc6.2; simpa using h); obtain ⟨ao6, m6, c6, rfl⟩ := o6.form))
          go_roundw
          case rel =>
            have L6 := Lvs.add (i := k) (x := (ao6, m6, c6)) (L4.later ((Below.refl _ _).alloc (Nat.le_refl _) (.cells #[.int .i64 k] 3))) hl2 hg2 (by rw [HROW.out]; exact o6) (by rw [HX.out]; exact g6) (by rw [HX.out]; exact n6)
            have hB6 : Below w.heap.size w w6 := (by
              have h3 : Below w.heap.size w w3 := (HB1.out.trans (hb2.mono HB1.out.size)).grown hg3 (by have := HS1.out; have := hb2.size; simp at this; omega) (fun b e => by injection e with e; omega)
              have h4 := (h3.alloc (h3.size) (.cells #[.slice none 0 0] 34)).grown g4 (by have := h3.size; simp; omega) (fun b e => by have := (ownR_lt L3.own e).1; omega)
              exact (h4.alloc h4.size (.cells #[.int .i64 k] 3)).grown g6 (by have := h4.size; simp; omega) (fun b e => by cases e))
            have hgb : w.heap.size ≤ gb := by have := (ownR_lt L4.own (k := gb) rfl).1; omega
            have hneM : gb ≠ w.heap.size := by have := (ownR_lt L4.own (k := gb) rfl).1; omega
            have M6 : WI keS w6 w.heap.size m3 := (by
              have m4 := (hm3.next ((Below.refl _ _).alloc (Nat.le_refl _) (.cells #[.slice none 0 0] 34))).same (g4.block w.heap.size (by have := HS1.out; simp; simp at h13; omega) (fun e => by have := (ownR_lt L3.own e.symm).1; omega))
              exact (m4.next ((Below.refl _ _).alloc (Nat.le_refl _) (.cells #[.int .i64 k] 3))).same (g6.block w.heap.size (by have := HS1.out; simp at h34 h13 ⊢; omega) (fun e => by cases e)))
            refine ⟨k + 1, _, vs2.set lv (ao6, m6, c6), m3, by omega, rfl, by go_num, ?_, M6.same (Below.heap_setCell _ _ _ _ (Ne.symm hneM)), fun a1 a2 a3 a4 h4 => ?_, by omega, hB6.setCell hgb _, ?_⟩
            · rw [HNG.out]
              have e : (vs2.set lv (ao6, m6, c6)).length = vs2.length := by simp
              exact L6
            · rw [HNN.out]
              exact hr3 (a1, a2, a3, a4) h4
            · have := hB6.size
              have := HS1.out
              have := g6.size
              simp [World.setCell] at *
              omega
          case measure => simp [intOf]; omega
        · have bl : ((lv : Int) == (vs.length : Int)) = false := by simp; omega
          have hl2 : lv < vs.length := by omega
          have hg2 : lv < G.length := by omega
          have hl2i : (lv : Int) < (vs.length : Int) := by omega
          have hvl3 : vs.length ≤ 3001 := by omega
          obtain ⟨row, hrow⟩ : ∃ row : List Nat, G[lv]'hg2 = row := ⟨_, rfl⟩
          have HROW : Hid (G[lv]'hg2 = row) := hrow
          have hrl : row.length ≤ 3000 := by rw [← hrow]; exact HRL.out _ (List.getElem_mem hg2)
          obtain ⟨x1, x2, x3, hx⟩ : ∃ x1 x2 x3, vs[lv]'hl2 = ((x1, x2, x3) : Sl3) := ⟨_, _, _, rfl⟩
          have HX : Hid (vs[lv]'hl2 = (x1, x2, x3)) := hx
          have HNG : Hid (levR (acs.take (k + 1)) = G.set lv (G[lv]'hg2 ++ [k])) := by
            show _ = _
            rw [HNG0.out, addG, if_neg hlv2, List.getElem?_eq_getElem hg2]
            rfl
          obtain ⟨vs2, hvs2⟩ : ∃ vs2, vs2 = vs := ⟨_, rfl⟩
          subst hvs2
          obtain ⟨gb, cp4, rfl, hgb1, hgb2⟩ := own_some HL1.out.own (by intro e; rw [e] at hl2; simp at hl2)
          clear hlv2 hx hrow
          go_wp2_with (first
            | (go_at_call 26; refine (strandsOf_any a _).mono ?_; rintro e w2 ⟨hb2, aoS, cS, rfl, hrS, hfS⟩)
            | (go_at_call 25; refine (levelOf_any (strR a) aoS cS w.heap.size mm (nxs (acs.take k)) _ hrS HSW.out (HM1.out.next hb2) HREL.out HNB.out (by omega) HSL.out (fun ad e e2 => by injection e2 with e2; have h9 := hfS ad e; have := HS1.out; rw [World.size_alloc] at h9; omega)).mono ?_; rintro e w3 ⟨rfl, hg3, m3, hm3, hr3, hl3⟩; rw [← HLV.out] at hr3 ⊢; have L3 := (HL1.out.later hb2).low hg3 (by omega); have h13 := Nat.le_trans hb2.size hg3.size; have hc4 := (L3.own.cellAt goodL hl2 (j := 0) (by decide)).1; have d4 : w3.cell? ⟨gb, lv, none⟩ = some (slv (x1, x2, x3)) := (by rw [HX.out] at hc4; simpa using hc4); have R4 : OwnR encN w3 (w.heap.size + 1) (slv (x1, x2, x3)) row := (by have h := L3.row lv hl2 hg2; rw [HX.out, HROW.out] at h; exact h))
            | (at_builtin; refine wpList_append_row goodN Tryz.underlying34 infoN rfl (by decide) (by decide) _ rfl (.tmp 36) (.tmp 38) rfl (w.heap.size + 1) (slv (x1, x2, x3)) row rfl (R4.alloc _) w3.heap.size k rfl (fun j u hu => one_new w3 _ _ j u hu) (by omega) (by have h8 := h13; rw [World.size_alloc] at h8 ⊢; have := HS1.out; omega) ?_; intro v6 w6 o6 g6 n6; have O6 := (L3.own.alloc (.cells #[.int .i64 k] 3)).kept g6 (by rw [← HX.out]; exact (L3.out lv hl2).symm); have hc6 := (O6.cellAt goodL hl2 (j := 0) (by decide)); have d6 : w6.cell? ⟨gb, lv, none⟩ = some (slv (x1, x2, x3)) := (by have h := hc6.1; rw [HX.out] at h; simpa using h); have df6 : w6.frozen? ⟨gb, lv, none⟩ = false := (by have h := hc6.2; simpa using h); obtain ⟨ao6, m6, c6, rfl⟩ := o6.form))
          go_roundw
          case rel =>
            have L6 := Lvs.add (i := k) (x := (ao6, m6, c6)) (L3.later ((Below.refl _ _).alloc (Nat.le_refl _) (.cells #[.int .i64 k] 3))) hl2 hg2 (by rw [HROW.out]; exact o6) (by rw [HX.out]; exact g6) (by rw [HX.out]; exact n6)
            have hB6 : Below w.heap.size w w6 := (by
              have h3 : Below w.heap.size w w3 := (HB1.out.trans (hb2.mono HB1.out.size)).grown hg3 (by have := HS1.out; have := hb2.size; simp at this; omega) (fun b e => by injection e with e; omega)
              exact (h3.alloc h3.size (.cells #[.int .i64 k] 3)).grown g6 (by have := h3.size; simp; omega) (fun b e => by have := (ownR_lt R4 e).1; omega))
            have hgb : w.heap.size ≤ gb := by have := (ownR_lt L3.own (k := gb) rfl).1; omega
            have hneM : gb ≠ w.heap.size := by have := (ownR_lt L3.own (k := gb) rfl).1; omega
            have M6 : WI keS w6 w.heap.size m3 := ((hm3.next ((Below.refl _ _).alloc (Nat.le_refl _) (.cells #[.int .i64 k] 3))).same (g6.block w.heap.size (by have := HS1.out; simp at h13 ⊢; omega) (fun e => by have := (ownR_lt R4 e.symm).1; omega)))
            refine ⟨k + 1, _, vs2.set lv (ao6, m6, c6), m3, by omega, rfl, by go_num, ?_, M6.same (Below.heap_setCell _ _ _ _ (Ne.symm hneM)), fun a1 a2 a3 a4 h4 => ?_, by omega, hB6.setCell hgb _, ?_⟩
            · rw [HNG.out]
              have e : (vs2.set lv (ao6, m6, c6)).length = vs2.length := by simp
              exact L6
            · rw [HNN.out]
              exact hr3 (a1, a2, a3, a4) h4
            · have := hB6.size
              have := HS1.out
              have := g6.size
              simp [World.setCell] at *
              omega
          case measure => simp [intOf]; omega
      · have hki : ¬ (k : Int) < (acs.length : Int) := by omega
        have e : acs.take k = acs := List.take_of_length_le (by omega)
        have HF : Hid (Lvs wr (w.heap.size + 1) v (levR acs) vs) := by have h := HL.out; rw [e] at h; exact h
        clear e
        go_wp2
        go_ret2
        exact ⟨HB.out, v, rfl, vs, HF.out⟩
end Go.Proofs.YtgbnjgenopdmfaaGreat

/- sameFluid, sameWells, sameState walked, where both are the same. -/
namespace Go.Proofs.YtgbnjgenopdmfaaGreat
open Go.RowKit Go.Maps
theorem pl_neq (W : World) (p : Plc) : (binOp .neq 53 (.agg #[.int .i64 p.1, .int .i64 p.2.1, .int .i64 p.2.2]) (.agg #[.int .i64 p.1, .int .i64 p.2.1, .int .i64 p.2.2])).run Tryz.prog W = .ok (.bool false) W := by go_simp
set_option maxHeartbeats 1600000 in
theorem sameFluid_same (ao ao' : Option Addr) (cap cap' : Nat) (ps : List F.Pc) (w : World) (h : F.Fl w ao ps) (h' : F.Fl w ao' ps) (hl : ps.length ≤ 100) :
    Calls Tryz.prog 42 #[.slice ao ps.length cap, .slice ao' ps.length cap'] w fun e w' => e = .returned (.bool true) ∧ Below w.heap.size w w' := by
  have HF : Hid (F.Fl w ao ps) := h
  have HF' : Hid (F.Fl w ao' ps) := h'
  clear h h'
  go_enter Tryz.func42, Tryz.ntmps42
  go_wp2
  go_loopw [5] (fun i wr => ∃ k : Nat, k ≤ ps.length ∧ i = .int .i64 k ∧ ∃ n, wr = w.drewN n) (fun i _ => ps.length - (intOf i).toNat)
  case atStart => exact ⟨0, Nat.zero_le _, rfl, 0, rfl⟩
  case round =>
    obtain ⟨k, hk, rfl, n, rfl⟩ := hrel
    by_cases hlt : k < ps.length
    · obtain ⟨b, off, rfl, hb, c0, c1, _⟩ := HF.out.at hlt
      obtain ⟨b', off', rfl, hb', c0', c1', _⟩ := HF'.out.at hlt
      generalize ps[k]'hlt = p at *
      obtain ⟨l1, v1⟩ := p
      simp only at c0 c1 c0' c1'
      have hpn := fun W => pc_neq W l1 l1 v1 v1
      simp only [decide_true, Bool.not_true] at hpn
      have hki : (k : Int) < (ps.length : Int) := by omega
      go_wp2
      go_big_quiet (fail)
      go_wp2
      go_roundw
      case rel => exact ⟨k + 1, by omega, by go_num, n + nq, by simp⟩
      case measure => simp [intOf]; omega
    · go_wp2
      go_ret
      exact ⟨rfl, blw_drewN (Below.refl _ _) _⟩
def swV (A B bx ox bs os k n cx cs : Nat) (p : Plc) (f : List F.Pc) (aox aos : Option Addr) (capx caps : Nat) (d : Nat) (v : Value) (_ : World) : Prop :=
  match d with
  | 20 => v = .pointer (some ⟨A, 0, none⟩)
  | 21 => v = .slice (some ⟨bx, ox, none⟩) n cx
  | 22 => v = .int .i64 (k : Int)
  | 23 => v = .pointer (some ⟨bx, ox + k * 4, none⟩)
  | 24 => v = .pointer (some ⟨bx, ox + k * 4, none⟩)
  | 25 => v = .agg #[.int .i64 p.1, .int .i64 p.2.1, .int .i64 p.2.2]
  | 26 => v = .pointer (some ⟨B, 0, none⟩)
  | 27 => v = .slice (some ⟨bs, os, none⟩) n cs
  | 28 => v = .int .i64 (k : Int)
  | 29 => v = .pointer (some ⟨bs, os + k * 4, none⟩)
  | 30 => v = .pointer (some ⟨bs, os + k * 4, none⟩)
  | 31 => v = .agg #[.int .i64 p.1, .int .i64 p.2.1, .int .i64 p.2.2]
  | 32 => v = .bool false
  | 33 => v = .bool false
  | 34 => v = .pointer (some ⟨A, 0, none⟩)
  | 35 => v = .slice (some ⟨bx, ox, none⟩) n cx
  | 36 => v = .int .i64 (k : Int)
  | 37 => v = .pointer (some ⟨bx, ox + k * 4, none⟩)
  | 38 => v = .pointer (some ⟨bx, ox + k * 4 + 3, none⟩)
  | 39 => v = .slice aox f.length capx
  | 40 => v = .pointer (some ⟨B, 0, none⟩)
  | 41 => v = .slice (some ⟨bs, os, none⟩) n cs
  | 42 => v = .int .i64 (k : Int)
  | 43 => v = .pointer (some ⟨bs, os + k * 4, none⟩)
  | 44 => v = .pointer (some ⟨bs, os + k * 4 + 3, none⟩)
  | 45 => v = .slice aos f.length caps
  | 46 => v = .bool true
  | 47 => v = .bool false
  | 48 => v = .bool false
  | _ => True
theorem swV_mono (A B bx ox bs os k n cx cs : Nat) (p : Plc) (f : List F.Pc) (aox aos : Option Addr) (capx caps : Nat) (d : Nat) (v : Value) (w w' : World) (h : swV A B bx ox bs os k n cx cs p f aox aos capx caps d v w) (_ : Below w.heap.size w w') : swV A B bx ox bs os k n cx cs p f aox aos capx caps d v w' := h
set_option maxHeartbeats 3200000 in
set_option maxRecDepth 100000 in
theorem sameWells_same (x s : Sm) (w : World) (hX : SmIn w x) (hS : SmIn w s) (hst : whp x.wl = whp s.wl) (hl : s.wl.length ≤ 4608) (hf : ∀ y ∈ s.wl, y.2.2.2.length ≤ 100) :
    Calls Tryz.prog 19 #[smv x, smv s] w fun e w' => e = .returned (.bool true) ∧ Below w.heap.size w w' := by
  obtain ⟨w0, hw0⟩ : ∃ w0, w0 = (w.alloc (smo x)).alloc (smo s) := ⟨_, rfl⟩
  have b0 : Below w.heap.size w w0 := by rw [hw0]; exact ((Below.refl _ _).alloc (Nat.le_refl _) _).alloc (by simp) _
  have KX0 : Hid (Bk w.heap.size (sml x) w0) := by show Bk _ _ _; rw [hw0]; exact (Bk.new w (sml x) 40 w.heap.size rfl).later ((Below.refl _ _).alloc (Nat.le_refl _) _)
  have KS0 : Hid (Bk (w.heap.size + 1) (sml s) w0) := by show Bk _ _ _; rw [hw0]; exact Bk.new _ (sml s) 40 (w.heap.size + 1) (by simp)
  have HX : Hid (SmIn w0 x) := hX.next b0
  have HS : Hid (SmIn w0 s) := hS.next b0
  have HB0 : Hid (Below w.heap.size w w0) := b0
  have HW0 : Hid (w0 = _) := hw0
  have hlen : x.wl.length = s.wl.length := by have := congrArg List.length hst; rw [whp_length, whp_length] at this; exact this
  have HLE : Hid (x.wl.length = s.wl.length) := hlen
  have HEQ : Hid (∀ k (h : k < s.wl.length) (hz : k < x.wl.length), ((x.wl[k]'hz).1, (x.wl[k]'hz).2.2.2) = ((s.wl[k]'h).1, (s.wl[k]'h).2.2.2)) := fun k h hz => by
    have h1 := whp_at (l := x.wl) (k := k) hz
    have h2 := whp_at (l := s.wl) (k := k) h
    have : (whp x.wl)[k]'(by rw [whp_length]; exact hz) = (whp s.wl)[k]'(by rw [whp_length]; exact h) := by simp only [hst]
    rw [h1, h2] at this
    exact this
  have HFL : Hid (∀ y ∈ s.wl, y.2.2.2.length ≤ 100) := hf
  have hne : ((x.wl.length : Int) != (s.wl.length : Int)) = false := by simp [hlen]
  clear hX hS hst hw0 b0 hlen hf
  go_enter Tryz.func19, Tryz.ntmps19
  go_wp2_with fail
  rw [← HW0.out]
  go_loopw [5] (fun i wr => ∃ k : Nat, k ≤ s.wl.length ∧ i = .int .i64 k ∧ Below w0.heap.size w0 wr) (fun i _ => s.wl.length - (intOf i).toNat)
  case atStart => exact ⟨0, Nat.zero_le _, rfl, Below.refl _ _⟩
  case round =>
    obtain ⟨k, hk, rfl, hb⟩ := hrel
    have HB : Hid (Below w0.heap.size w0 wr) := hb
    have KX : Hid (Bk w.heap.size [.slice x.aoW s.wl.length x.capW, .bool x.tip, .slice x.aoH x.held.length x.capH, .slice x.aoT x.touched.length x.capT, .int .i64 x.used, .int .i64 x.heat, .int .i64 x.clock] wr) := by
      have := KX0.out.later hb
      simp only [sml] at this
      rw [HLE.out] at this
      exact this
    have KS : Hid (Bk (w.heap.size + 1) (sml s) wr) := KS0.out.later hb
    have HX1 : Hid (SmIn wr x) := HX.out.next hb
    have HS1 : Hid (SmIn wr s) := HS.out.next hb
    clear hb
    have x0 := KX.out.c 0 rfl
    by_cases hlt : k < s.wl.length
    rotate_left
    · go_wp2
      go_ret
      exact ⟨rfl, HB0.out.trans (HB.out.mono HB0.out.size)⟩
    · have hltx : k < x.wl.length := by rw [HLE.out]; exact hlt
      obtain ⟨bx, ox, hax, hcx⟩ := HX1.out.wells.at hltx
      obtain ⟨bs, os, has, hcs⟩ := HS1.out.wells.at hlt
      have heq := HEQ.out k hlt hltx
      have hfl := HFL.out _ (List.getElem_mem hlt)
      generalize x.wl[k]'hltx = yx at *
      generalize s.wl[k]'hlt = ys at *
      obtain ⟨p, aox, capx, f⟩ := yx
      obtain ⟨p', aos, caps, f'⟩ := ys
      simp only [Prod.mk.injEq] at heq
      obtain ⟨rfl, rfl⟩ := heq
      obtain ⟨_, c0, c1, c2, c3, hfx⟩ := hcx
      obtain ⟨_, e0, e1, e2, e3, hfs⟩ := hcs
      simp only at c0 c1 c2 c3 e0 e1 e2 e3 hfx hfs hfl
      have HSF : Hid (∀ W, Below wr.heap.size wr W → Calls Tryz.prog 42 #[.slice aox f.length capx, .slice aos f.length caps] W fun e w' => e = .returned (.bool true) ∧ Below W.heap.size W w') := fun W hW => sameFluid_same aox aos capx caps f W (F.Fl.next hfx hW) (F.Fl.next hfs hW) hfl
      have KXa : Hid (Bk w.heap.size [.slice (some ⟨bx, ox, none⟩) s.wl.length x.capW, .bool x.tip, .slice x.aoH x.held.length x.capH, .slice x.aoT x.touched.length x.capT, .int .i64 x.used, .int .i64 x.heat, .int .i64 x.clock] wr) := by show Bk _ _ _; rw [← hax]; exact KX.out
      have KSa : Hid (Bk (w.heap.size + 1) [.slice (some ⟨bs, os, none⟩) s.wl.length s.capW, .bool s.tip, .slice s.aoH s.held.length s.capH, .slice s.aoT s.touched.length s.capT, .int .i64 s.used, .int .i64 s.heat, .int .i64 s.clock] wr) := by show Bk _ _ _; rw [← has]; exact KS.out
      have hki : (k : Int) < (s.wl.length : Int) := by omega
      clear hax has hfx hfs hltx
      go_wp2_with fail
      rename_i KK hkk
      have HKK := (show Hid _ from hkk)
      clear hkk
      clear KX KS
      have KX := KXa
      have KS := KSa
      refine region_inv [false, false, false, false, false, false, false, false, false, false, false, false, false, false, false, false, false, false, false, false, true, true, true, true, true, true, true, true, true, true, true, true, true, true, true, true, true, true, true, true, true, true, true, true, true, true, true, true, true]
        [(20, [], none), (21, [20], none), (22, [], none), (23, [21, 22], none), (24, [23], none), (25, [24], none), (26, [], none), (27, [26], none), (28, [], none), (29, [27, 28], none), (30, [29], none), (31, [30], none), (32, [25, 31], none), (33, [32], none), (34, [33], some (33, false)), (35, [33, 34], some (33, false)), (36, [33], some (33, false)), (37, [33, 35, 36], some (33, false)), (38, [33, 37], some (33, false)), (39, [33, 38], some (33, false)), (40, [33], some (33, false)), (41, [33, 40], some (33, false)), (42, [33], some (33, false)), (43, [33, 41, 42], some (33, false)), (44, [33, 43], some (33, false)), (45, [33, 44], some (33, false)), (46, [33, 39, 45], some (33, false)), (47, [33, 46], some (33, false)), (48, [33, 47], none)]
        (swV w.heap.size (w.heap.size + 1) bx ox bs os k s.wl.length x.capW s.capW p f aox aos capx caps) (by kernel_rfl) (by kernel_rfl) (swV_mono w.heap.size (w.heap.size + 1) bx ox bs os k s.wl.length x.capW s.capW p f aox aos capx caps) ?_ ?_
      · refine ⟨?_, ?_, ?_, ?_, ?_, ?_, ?_, ?_, ?_, ?_, ?_, ?_, ?_, ?_, ?_, ?_, ?_, ?_, ?_, ?_, ?_, ?_, ?_, ?_, ?_, ?_, ?_, ?_, ?_, trivial⟩
        · intro f wA hb _ K hK
          simp only [over, overL, Nat.reduceAdd]
          go_simp
          exact hK _ _ ⟨_, rfl, by simp only [over, overL, Nat.reduceAdd]; rfl, Below.refl _ _⟩
        · intro f wA hb ⟨h20, _⟩ K hK
          replace h20 : f 20 = _ := h20
          have q0 := (KX.out.later hb).c 0 rfl
          simp only [over, overL, Nat.reduceAdd, h20]
          go_simp
          exact hK _ _ ⟨_, rfl, by simp only [over, overL, Nat.reduceAdd, h20]; rfl, Below.refl _ _⟩
        · intro f wA hb _ K hK
          simp only [over, overL, Nat.reduceAdd]
          go_simp
          exact hK _ _ ⟨_, rfl, by simp only [over, overL, Nat.reduceAdd]; rfl, Below.refl _ _⟩
        · intro f wA hb ⟨h21, h22, _⟩ K hK
          replace h21 : f 21 = _ := h21
          replace h22 : f 22 = _ := h22
          simp only [over, overL, Nat.reduceAdd, h21, h22]
          go_simp
          exact hK _ _ ⟨_, rfl, by simp only [over, overL, Nat.reduceAdd, h21, h22]; rfl, Below.refl _ _⟩
        · intro f wA hb ⟨h23, _⟩ K hK
          replace h23 : f 23 = _ := h23
          simp only [over, overL, Nat.reduceAdd, h23]
          go_simp
          exact hK _ _ ⟨_, rfl, by simp only [over, overL, Nat.reduceAdd, h23]; rfl, Below.refl _ _⟩
        · intro f wA hb ⟨h24, _⟩ K hK
          replace h24 : f 24 = _ := h24
          have q0 := cell_later hb c0
          have q1 := cell_later hb c1
          have q2 := cell_later hb c2
          simp only [over, overL, Nat.reduceAdd, h24]
          go_simp
          exact hK _ _ ⟨_, rfl, by simp only [over, overL, Nat.reduceAdd, h24]; rfl, Below.refl _ _⟩
        · intro f wA hb _ K hK
          simp only [over, overL, Nat.reduceAdd]
          go_simp
          exact hK _ _ ⟨_, rfl, by simp only [over, overL, Nat.reduceAdd]; rfl, Below.refl _ _⟩
        · intro f wA hb ⟨h26, _⟩ K hK
          replace h26 : f 26 = _ := h26
          have q0 := (KS.out.later hb).c 0 rfl
          simp only [over, overL, Nat.reduceAdd, h26]
          go_simp
          exact hK _ _ ⟨_, rfl, by simp only [over, overL, Nat.reduceAdd, h26]; rfl, Below.refl _ _⟩
        · intro f wA hb _ K hK
          simp only [over, overL, Nat.reduceAdd]
          go_simp
          exact hK _ _ ⟨_, rfl, by simp only [over, overL, Nat.reduceAdd]; rfl, Below.refl _ _⟩
        · intro f wA hb ⟨h27, h28, _⟩ K hK
          replace h27 : f 27 = _ := h27
          replace h28 : f 28 = _ := h28
          simp only [over, overL, Nat.reduceAdd, h27, h28]
          go_simp
          exact hK _ _ ⟨_, rfl, by simp only [over, overL, Nat.reduceAdd, h27, h28]; rfl, Below.refl _ _⟩
        · intro f wA hb ⟨h29, _⟩ K hK
          replace h29 : f 29 = _ := h29
          simp only [over, overL, Nat.reduceAdd, h29]
          go_simp
          exact hK _ _ ⟨_, rfl, by simp only [over, overL, Nat.reduceAdd, h29]; rfl, Below.refl _ _⟩
        · intro f wA hb ⟨h30, _⟩ K hK
          replace h30 : f 30 = _ := h30
          have q0 := cell_later hb e0
          have q1 := cell_later hb e1
          have q2 := cell_later hb e2
          simp only [over, overL, Nat.reduceAdd, h30]
          go_simp
          exact hK _ _ ⟨_, rfl, by simp only [over, overL, Nat.reduceAdd, h30]; rfl, Below.refl _ _⟩
        · intro f wA hb ⟨h25, h31, _⟩ K hK
          replace h25 : f 25 = _ := h25
          replace h31 : f 31 = _ := h31
          have hpl := pl_neq wA p
          simp only [over, overL, Nat.reduceAdd, h25, h31]
          go_simp
          exact hK _ _ ⟨_, rfl, by simp only [over, overL, Nat.reduceAdd, h25, h31]; rfl, Below.refl _ _⟩
        · intro f wA hb ⟨h32, _⟩ K hK
          replace h32 : f 32 = _ := h32
          simp only [over, overL, Nat.reduceAdd, h32]
          go_simp
          exact hK _ _ ⟨_, rfl, by simp only [over, overL, Nat.reduceAdd, h32]; rfl, Below.refl _ _⟩
        · intro f wA hb ⟨h33, _⟩
          replace h33 : f 33 = _ := h33
          refine ⟨fun _ => ?_, fun hg => absurd h33 hg⟩
          intro K hK
          simp only [over, overL, Nat.reduceAdd, h33]
          go_simp
          exact hK _ _ ⟨_, rfl, by simp only [over, overL, Nat.reduceAdd, h33]; rfl, Below.refl _ _⟩
        · intro f wA hb ⟨h33, h34, _⟩
          replace h33 : f 33 = _ := h33
          replace h34 : f 34 = _ := h34
          refine ⟨fun _ => ?_, fun hg => absurd h33 hg⟩
          intro K hK
          have q0 := (KX.out.later hb).c 0 rfl
          simp only [over, overL, Nat.reduceAdd, h33, h34]
          go_simp
          exact hK _ _ ⟨_, rfl, by simp only [over, overL, Nat.reduceAdd, h33, h34]; rfl, Below.refl _ _⟩
        · intro f wA hb ⟨h33, _⟩
          replace h33 : f 33 = _ := h33
          refine ⟨fun _ => ?_, fun hg => absurd h33 hg⟩
          intro K hK
          simp only [over, overL, Nat.reduceAdd, h33]
          go_simp
          exact hK _ _ ⟨_, rfl, by simp only [over, overL, Nat.reduceAdd, h33]; rfl, Below.refl _ _⟩
        · intro f wA hb ⟨h33, h35, h36, _⟩
          replace h33 : f 33 = _ := h33
          replace h35 : f 35 = _ := h35
          replace h36 : f 36 = _ := h36
          refine ⟨fun _ => ?_, fun hg => absurd h33 hg⟩
          intro K hK
          simp only [over, overL, Nat.reduceAdd, h33, h35, h36]
          go_simp
          exact hK _ _ ⟨_, rfl, by simp only [over, overL, Nat.reduceAdd, h33, h35, h36]; rfl, Below.refl _ _⟩
        · intro f wA hb ⟨h33, h37, _⟩
          replace h33 : f 33 = _ := h33
          replace h37 : f 37 = _ := h37
          refine ⟨fun _ => ?_, fun hg => absurd h33 hg⟩
          intro K hK
          simp only [over, overL, Nat.reduceAdd, h33, h37]
          go_simp
          exact hK _ _ ⟨_, rfl, by simp only [over, overL, Nat.reduceAdd, h33, h37]; rfl, Below.refl _ _⟩
        · intro f wA hb ⟨h33, h38, _⟩
          replace h33 : f 33 = _ := h33
          replace h38 : f 38 = _ := h38
          refine ⟨fun _ => ?_, fun hg => absurd h33 hg⟩
          intro K hK
          have q3 := cell_later hb c3
          simp only [over, overL, Nat.reduceAdd, h33, h38]
          go_simp
          exact hK _ _ ⟨_, rfl, by simp only [over, overL, Nat.reduceAdd, h33, h38]; rfl, Below.refl _ _⟩
        · intro f wA hb ⟨h33, _⟩
          replace h33 : f 33 = _ := h33
          refine ⟨fun _ => ?_, fun hg => absurd h33 hg⟩
          intro K hK
          simp only [over, overL, Nat.reduceAdd, h33]
          go_simp
          exact hK _ _ ⟨_, rfl, by simp only [over, overL, Nat.reduceAdd, h33]; rfl, Below.refl _ _⟩
        · intro f wA hb ⟨h33, h40, _⟩
          replace h33 : f 33 = _ := h33
          replace h40 : f 40 = _ := h40
          refine ⟨fun _ => ?_, fun hg => absurd h33 hg⟩
          intro K hK
          have q0 := (KS.out.later hb).c 0 rfl
          simp only [over, overL, Nat.reduceAdd, h33, h40]
          go_simp
          exact hK _ _ ⟨_, rfl, by simp only [over, overL, Nat.reduceAdd, h33, h40]; rfl, Below.refl _ _⟩
        · intro f wA hb ⟨h33, _⟩
          replace h33 : f 33 = _ := h33
          refine ⟨fun _ => ?_, fun hg => absurd h33 hg⟩
          intro K hK
          simp only [over, overL, Nat.reduceAdd, h33]
          go_simp
          exact hK _ _ ⟨_, rfl, by simp only [over, overL, Nat.reduceAdd, h33]; rfl, Below.refl _ _⟩
        · intro f wA hb ⟨h33, h41, h42, _⟩
          replace h33 : f 33 = _ := h33
          replace h41 : f 41 = _ := h41
          replace h42 : f 42 = _ := h42
          refine ⟨fun _ => ?_, fun hg => absurd h33 hg⟩
          intro K hK
          simp only [over, overL, Nat.reduceAdd, h33, h41, h42]
          go_simp
          exact hK _ _ ⟨_, rfl, by simp only [over, overL, Nat.reduceAdd, h33, h41, h42]; rfl, Below.refl _ _⟩
        · intro f wA hb ⟨h33, h43, _⟩
          replace h33 : f 33 = _ := h33
          replace h43 : f 43 = _ := h43
          refine ⟨fun _ => ?_, fun hg => absurd h33 hg⟩
          intro K hK
          simp only [over, overL, Nat.reduceAdd, h33, h43]
          go_simp
          exact hK _ _ ⟨_, rfl, by simp only [over, overL, Nat.reduceAdd, h33, h43]; rfl, Below.refl _ _⟩
        · intro f wA hb ⟨h33, h44, _⟩
          replace h33 : f 33 = _ := h33
          replace h44 : f 44 = _ := h44
          refine ⟨fun _ => ?_, fun hg => absurd h33 hg⟩
          intro K hK
          have q3 := cell_later hb e3
          simp only [over, overL, Nat.reduceAdd, h33, h44]
          go_simp
          exact hK _ _ ⟨_, rfl, by simp only [over, overL, Nat.reduceAdd, h33, h44]; rfl, Below.refl _ _⟩
        · intro f wA hb ⟨h33, h39, h45, _⟩
          replace h33 : f 33 = _ := h33
          replace h39 : f 39 = _ := h39
          replace h45 : f 45 = _ := h45
          refine ⟨fun _ => ?_, fun hg => absurd h33 hg⟩
          intro K hK
          simp only [over, overL, Nat.reduceAdd, h33, h39, h45]
          go_simp
          refine ((HSF.out wA hb).mono) ?_
          rintro e w2 ⟨rfl, hb2⟩
          exact hK _ _ ⟨_, rfl, by simp only [over, overL, Nat.reduceAdd, h33, h39, h45]; rfl, hb2⟩
        · intro f wA hb ⟨h33, h46, _⟩
          replace h33 : f 33 = _ := h33
          replace h46 : f 46 = _ := h46
          refine ⟨fun _ => ?_, fun hg => absurd h33 hg⟩
          intro K hK
          simp only [over, overL, Nat.reduceAdd, h33, h46]
          go_simp
          exact hK _ _ ⟨_, rfl, by simp only [over, overL, Nat.reduceAdd, h33, h46]; rfl, Below.refl _ _⟩
        · intro f wA hb ⟨h33, h47, _⟩ K hK
          replace h33 : f 33 = _ := h33
          replace h47 : f 47 = _ := h47
          simp only [over, overL, Nat.reduceAdd, h33, h47]
          go_simp
          exact hK _ _ ⟨_, rfl, by simp only [over, overL, Nat.reduceAdd, h33, h47]; rfl, Below.refl _ _⟩
      intro f' w3 hb hv
      have h48 : f' 48 = _ := hv.2.2.2.2.2.2.2.2.2.2.2.2.2.2.2.2.2.2.2.2.2.2.2.2.2.2.2.2.1
      have HB3 : Hid (Below w0.heap.size w0 w3) := HB.out.trans (hb.mono HB.out.size)
      clear hv hb
      simp only [over, overL, Nat.reduceAdd, h48]
      clear h48
      refine HKK.out _ _ ?_
      go_wp2
      go_roundw
      case rel => exact ⟨k + 1, by omega, by go_num, HB3.out⟩
      case measure => simp [intOf]; omega
set_option maxHeartbeats 3200000 in
set_option maxRecDepth 100000 in
theorem sameState_same (x s : Sm) (w : World) (hX : SmIn w x) (hS : SmIn w s) (hst : x.st = s.st) (hl : s.wl.length ≤ 4608) (hf : ∀ y ∈ s.wl, y.2.2.2.length ≤ 100) (hh : s.held.length ≤ 100) (ht : s.touched.length ≤ 100) :
    Calls Tryz.prog 21 #[smv x, smv s] w fun e w' => e = .returned (.bool true) ∧ Below w.heap.size w w' := by
  obtain ⟨aoW, capW, wl, tip, aoH, capH, held, aoT, capT, touched, used, heat, clock⟩ := x
  have e1 : whp wl = whp s.wl := congrArg Sta.wells hst
  have e2 : tip = s.tip := congrArg Sta.tip hst
  have e3 : held = s.held := congrArg Sta.held hst
  have e4 : touched = s.touched := congrArg Sta.touched hst
  have e5 : used = s.used := congrArg Sta.used hst
  have e6 : heat = s.heat := congrArg Sta.heat hst
  have e7 : clock = s.clock := congrArg Sta.clock hst
  subst e2 e3 e4 e5 e6 e7
  have HE1 : Hid (whp wl = whp s.wl) := e1
  have hlen : wl.length = s.wl.length := by have := congrArg List.length e1; rw [whp_length, whp_length] at this; exact this
  obtain ⟨x, hx⟩ : ∃ x : Sm, x = ⟨aoW, capW, wl, s.tip, aoH, capH, s.held, aoT, capT, s.touched, s.used, s.heat, s.clock⟩ := ⟨_, rfl⟩
  obtain ⟨w0, hw0⟩ : ∃ w0, w0 = (w.alloc (smo ⟨aoW, capW, wl, s.tip, aoH, capH, s.held, aoT, capT, s.touched, s.used, s.heat, s.clock⟩)).alloc (smo s) := ⟨_, rfl⟩
  have b0 : Below w.heap.size w w0 := by rw [hw0]; exact ((Below.refl _ _).alloc (Nat.le_refl _) _).alloc (by simp) _
  have KX0 : Hid (Bk w.heap.size [.slice aoW wl.length capW, .bool s.tip, .slice aoH s.held.length capH, .slice aoT s.touched.length capT, .int .i64 s.used, .int .i64 s.heat, .int .i64 s.clock] w0) := by show Bk _ _ _; rw [hw0]; exact (Bk.new w _ 40 w.heap.size rfl).later ((Below.refl _ _).alloc (Nat.le_refl _) _)
  have KS0 : Hid (Bk (w.heap.size + 1) (sml s) w0) := by show Bk _ _ _; rw [hw0]; exact Bk.new _ (sml s) 40 (w.heap.size + 1) (by simp)
  have HX : Hid (SmIn w0 ⟨aoW, capW, wl, s.tip, aoH, capH, s.held, aoT, capT, s.touched, s.used, s.heat, s.clock⟩) := hX.next b0
  have HS : Hid (SmIn w0 s) := hS.next b0
  have HB0 : Hid (Below w.heap.size w w0) := b0
  have HW0 : Hid (w0 = _) := hw0
  have HL : Hid (s.wl.length ≤ 4608) := hl
  have HFL : Hid (∀ y ∈ s.wl, y.2.2.2.length ≤ 100) := hf
  have HHL : Hid (s.held.length ≤ 100) := hh
  have hne : ((wl.length : Int) != (s.wl.length : Int)) = false := by simp [hlen]
  clear hX hS hst e1 hw0 b0 hlen hf hl hh hx x
  go_enter Tryz.func21, Tryz.ntmps21
  go_wp2_with fail
  rw [← HW0.out]
  refine (sameFluid_same aoH s.aoH capH s.capH s.held w0 HX.out.held HS.out.held HHL.out).mono ?_
  rintro e w1 ⟨rfl, hb⟩
  have KX1 : Hid (Bk w.heap.size [.slice aoW wl.length capW, .bool s.tip, .slice aoH s.held.length capH, .slice aoT s.touched.length capT, .int .i64 s.used, .int .i64 s.heat, .int .i64 s.clock] w1) := KX0.out.later hb
  have KS1 : Hid (Bk (w.heap.size + 1) (sml s) w1) := KS0.out.later hb
  have HB1 : Hid (Below w.heap.size w w1) := HB0.out.trans (hb.mono HB0.out.size)
  have HX1 : Hid (SmIn w1 ⟨aoW, capW, wl, s.tip, aoH, capH, s.held, aoT, capT, s.touched, s.used, s.heat, s.clock⟩) := HX.out.next hb
  have HS1 : Hid (SmIn w1 s) := HS.out.next hb
  clear hb HX HS KX0 KS0 HB0
  have x0 := (KX1.out).c 0 rfl
  have x1 := (KX1.out).c 1 rfl
  have x2 := (KX1.out).c 2 rfl
  have x3 := (KX1.out).c 3 rfl
  have x4 := (KX1.out).c 4 rfl
  have x5 := (KX1.out).c 5 rfl
  have x6 := (KX1.out).c 6 rfl
  have y0 := (KS1.out).c 0 rfl
  have y1 := (KS1.out).c 1 rfl
  have y2 := (KS1.out).c 2 rfl
  have y3 := (KS1.out).c 3 rfl
  have y4 := (KS1.out).c 4 rfl
  have y5 := (KS1.out).c 5 rfl
  have y6 := (KS1.out).c 6 rfl
  go_wp2_with fail
  go_loopw [5] (fun i wr => ∃ k : Nat, k ≤ s.touched.length ∧ i = .int .i64 k ∧ ∃ n, wr = w1.drewN n) (fun i _ => s.touched.length - (intOf i).toNat)
  case atStart => exact ⟨0, Nat.zero_le _, rfl, 0, rfl⟩
  case round =>
    obtain ⟨k, hk, rfl, n, rfl⟩ := hrel
    by_cases hlt : k < s.touched.length
    · obtain ⟨b, off, ha, hb, c0, _⟩ := HX1.out.touched.at hlt
      obtain ⟨b', off', ha', hb', c0', _⟩ := HS1.out.touched.at hlt
      simp only at ha c0
      generalize s.touched[k]'hlt = q at *
      rw [ha] at x3
      rw [ha'] at y3
      have hki : (k : Int) < (s.touched.length : Int) := by omega
      clear ha ha'
      go_wp2
      go_big_quiet (fail)
      go_wp2
      go_roundw
      case rel => exact ⟨k + 1, by omega, by go_num, n + nq, by simp⟩
      case measure => simp [intOf]; omega
    · obtain rfl : k = s.touched.length := by omega
      clear hlt
      have HBn : Hid (Below w1.heap.size w1 (w1.drewN n)) := blw_drewN (Below.refl _ _) n
      have HCW := (show Hid _ from sameWells_same ⟨aoW, capW, wl, s.tip, aoH, capH, s.held, aoT, capT, s.touched, s.used, s.heat, s.clock⟩ s (w1.drewN n) (HX1.out.next HBn.out) (HS1.out.next HBn.out) HE1.out HL.out HFL.out)
      go_wp2_with fail
      refine Calls.mono HCW.out ?_
      rintro e w2 ⟨rfl, hb⟩
      have HB2 : Hid (Below w.heap.size w w2) := (HB1.out.trans (HBn.out.mono HB1.out.size)).trans (hb.mono (Nat.le_trans HB1.out.size HBn.out.size))
      clear hb
      go_wp2
      go_ret
      exact ⟨rfl, HB2.out⟩
end Go.Proofs.YtgbnjgenopdmfaaGreat
