/- ware.numbers and ware.kindOf walked. -/
import Derived.Test.YtmmpaaaifdikdaaGreatDoorChk
namespace Go.Proofs.YtmmpaaaifdikdaaGreatDoor
open Go.RowKit

/-- Ten pointers into a ware's box. -/
def IsPtrs (B : Nat) (v : Value) (w : World) : Prop := ∃ b, v = .slice (some ⟨b, 0, none⟩) 10 10 ∧ ∀ k, k < 10 → w.cell? ⟨b, k, none⟩ = some (.pointer (some ⟨B, k + 2, none⟩))
theorem IsPtrs.later {B : Nat} {v : Value} {w w' : World} (h : IsPtrs B v w) (hb : Below w.heap.size w w') : IsPtrs B v w' := by
  obtain ⟨b, rfl, hc⟩ := h
  exact ⟨b, rfl, fun k hk => cell_later hb (hc k hk)⟩
theorem new_ptrs (B : Nat) (w : World) (t : Nat) : IsPtrs B (.slice (some ⟨w.heap.size, 0, none⟩) 10 10) (w.alloc (.cells #[.pointer (some ⟨B, 2, none⟩), .pointer (some ⟨B, 3, none⟩), .pointer (some ⟨B, 4, none⟩), .pointer (some ⟨B, 5, none⟩), .pointer (some ⟨B, 6, none⟩), .pointer (some ⟨B, 7, none⟩), .pointer (some ⟨B, 8, none⟩), .pointer (some ⟨B, 9, none⟩), .pointer (some ⟨B, 10, none⟩), .pointer (some ⟨B, 11, none⟩)] t)) :=
  ⟨_, rfl, fun k hk => by
    rcases (show k = 0 ∨ k = 1 ∨ k = 2 ∨ k = 3 ∨ k = 4 ∨ k = 5 ∨ k = 6 ∨ k = 7 ∨ k = 8 ∨ k = 9 by omega) with e | e | e | e | e | e | e | e | e | e
    all_goals (subst e; simp [go_sem])⟩
def numsV (B : Nat) (d : Nat) (v : Value) (w : World) : Prop :=
  match d with
  | 3 => v = .pointer (some ⟨B, 0, none⟩)
  | 4 => v = .pointer (some ⟨B, 0, none⟩)
  | 5 => v = .pointer (some ⟨B, 2, none⟩)
  | 6 => v = .pointer (some ⟨B, 0, none⟩)
  | 7 => v = .pointer (some ⟨B, 0, none⟩)
  | 8 => v = .pointer (some ⟨B, 3, none⟩)
  | 9 => v = .pointer (some ⟨B, 0, none⟩)
  | 10 => v = .pointer (some ⟨B, 0, none⟩)
  | 11 => v = .pointer (some ⟨B, 4, none⟩)
  | 12 => v = .pointer (some ⟨B, 0, none⟩)
  | 13 => v = .pointer (some ⟨B, 0, none⟩)
  | 14 => v = .pointer (some ⟨B, 5, none⟩)
  | 15 => v = .pointer (some ⟨B, 0, none⟩)
  | 16 => v = .pointer (some ⟨B, 0, none⟩)
  | 17 => v = .pointer (some ⟨B, 6, none⟩)
  | 18 => v = .pointer (some ⟨B, 0, none⟩)
  | 19 => v = .pointer (some ⟨B, 0, none⟩)
  | 20 => v = .pointer (some ⟨B, 7, none⟩)
  | 21 => v = .pointer (some ⟨B, 0, none⟩)
  | 22 => v = .pointer (some ⟨B, 0, none⟩)
  | 23 => v = .pointer (some ⟨B, 8, none⟩)
  | 24 => v = .pointer (some ⟨B, 0, none⟩)
  | 25 => v = .pointer (some ⟨B, 0, none⟩)
  | 26 => v = .pointer (some ⟨B, 9, none⟩)
  | 27 => v = .pointer (some ⟨B, 0, none⟩)
  | 28 => v = .pointer (some ⟨B, 0, none⟩)
  | 29 => v = .pointer (some ⟨B, 10, none⟩)
  | 30 => v = .pointer (some ⟨B, 0, none⟩)
  | 31 => v = .pointer (some ⟨B, 0, none⟩)
  | 32 => v = .pointer (some ⟨B, 11, none⟩)
  | 33 => IsPtrs B v w
  | 2 => IsPtrs B v w
  | _ => True
theorem numsV_mono (B : Nat) (d : Nat) (v : Value) (w w' : World) (h : numsV B d v w) (hb : Below w.heap.size w w') : numsV B d v w' := by
  unfold numsV at h ⊢
  split <;> simp only [] at h <;> first | exact h | exact h.later hb
set_option maxHeartbeats 3200000 in
theorem numbers_any (B : Nat) (w : World) :
    Calls Tryz.prog 55 #[.pointer (some ⟨B, 0, none⟩)] w fun e w' => ∃ v, e = .returned v ∧ IsPtrs B v w' ∧ Below w.heap.size w w' := by
  go_enter Tryz.func55, Tryz.ntmps55
  go_wp2_with fail
  refine region_inv [false, false, true, true, true, true, true, true, true, true, true, true, true, true, true, true, true, true, true, true, true, true, true, true, true, true, true, true, true, true, true, true, true, true]
    [(3, [], none), (4, [3], none), (5, [4], none), (6, [], none), (7, [6], none), (8, [7], none), (9, [], none), (10, [9], none), (11, [10], none), (12, [], none), (13, [12], none), (14, [13], none), (15, [], none), (16, [15], none), (17, [16], none), (18, [], none), (19, [18], none), (20, [19], none), (21, [], none), (22, [21], none), (23, [22], none), (24, [], none), (25, [24], none), (26, [25], none), (27, [], none), (28, [27], none), (29, [28], none), (30, [], none), (31, [30], none), (32, [31], none), (33, [5, 8, 11, 14, 17, 20, 23, 26, 29, 32], none), (2, [33], none)]
    (numsV B) (by kernel_rfl) (by kernel_rfl) (numsV_mono B) ?_ ?_
  · refine ⟨?_, ?_, ?_, ?_, ?_, ?_, ?_, ?_, ?_, ?_, ?_, ?_, ?_, ?_, ?_, ?_, ?_, ?_, ?_, ?_, ?_, ?_, ?_, ?_, ?_, ?_, ?_, ?_, ?_, ?_, ?_, ?_, trivial⟩
    · intro f w1 hb _ K hK
      simp only [over, overL, Nat.reduceAdd]
      go_simp
      exact hK _ _ ⟨_, rfl, by simp only [over, overL, Nat.reduceAdd]; rfl, Below.refl _ _⟩
    · intro f w1 hb ⟨h3, _⟩ K hK
      have h3 : f 3 = _ := h3
      simp only [over, overL, Nat.reduceAdd, h3]
      go_simp
      exact hK _ _ ⟨_, rfl, by simp only [over, overL, Nat.reduceAdd, h3]; rfl, Below.refl _ _⟩
    · intro f w1 hb ⟨h4, _⟩ K hK
      have h4 : f 4 = _ := h4
      simp only [over, overL, Nat.reduceAdd, h4]
      go_simp
      exact hK _ _ ⟨_, rfl, by simp only [over, overL, Nat.reduceAdd, h4]; rfl, Below.refl _ _⟩
    · intro f w1 hb _ K hK
      simp only [over, overL, Nat.reduceAdd]
      go_simp
      exact hK _ _ ⟨_, rfl, by simp only [over, overL, Nat.reduceAdd]; rfl, Below.refl _ _⟩
    · intro f w1 hb ⟨h6, _⟩ K hK
      have h6 : f 6 = _ := h6
      simp only [over, overL, Nat.reduceAdd, h6]
      go_simp
      exact hK _ _ ⟨_, rfl, by simp only [over, overL, Nat.reduceAdd, h6]; rfl, Below.refl _ _⟩
    · intro f w1 hb ⟨h7, _⟩ K hK
      have h7 : f 7 = _ := h7
      simp only [over, overL, Nat.reduceAdd, h7]
      go_simp
      exact hK _ _ ⟨_, rfl, by simp only [over, overL, Nat.reduceAdd, h7]; rfl, Below.refl _ _⟩
    · intro f w1 hb _ K hK
      simp only [over, overL, Nat.reduceAdd]
      go_simp
      exact hK _ _ ⟨_, rfl, by simp only [over, overL, Nat.reduceAdd]; rfl, Below.refl _ _⟩
    · intro f w1 hb ⟨h9, _⟩ K hK
      have h9 : f 9 = _ := h9
      simp only [over, overL, Nat.reduceAdd, h9]
      go_simp
      exact hK _ _ ⟨_, rfl, by simp only [over, overL, Nat.reduceAdd, h9]; rfl, Below.refl _ _⟩
    · intro f w1 hb ⟨h10, _⟩ K hK
      have h10 : f 10 = _ := h10
      simp only [over, overL, Nat.reduceAdd, h10]
      go_simp
      exact hK _ _ ⟨_, rfl, by simp only [over, overL, Nat.reduceAdd, h10]; rfl, Below.refl _ _⟩
    · intro f w1 hb _ K hK
      simp only [over, overL, Nat.reduceAdd]
      go_simp
      exact hK _ _ ⟨_, rfl, by simp only [over, overL, Nat.reduceAdd]; rfl, Below.refl _ _⟩
    · intro f w1 hb ⟨h12, _⟩ K hK
      have h12 : f 12 = _ := h12
      simp only [over, overL, Nat.reduceAdd, h12]
      go_simp
      exact hK _ _ ⟨_, rfl, by simp only [over, overL, Nat.reduceAdd, h12]; rfl, Below.refl _ _⟩
    · intro f w1 hb ⟨h13, _⟩ K hK
      have h13 : f 13 = _ := h13
      simp only [over, overL, Nat.reduceAdd, h13]
      go_simp
      exact hK _ _ ⟨_, rfl, by simp only [over, overL, Nat.reduceAdd, h13]; rfl, Below.refl _ _⟩
    · intro f w1 hb _ K hK
      simp only [over, overL, Nat.reduceAdd]
      go_simp
      exact hK _ _ ⟨_, rfl, by simp only [over, overL, Nat.reduceAdd]; rfl, Below.refl _ _⟩
    · intro f w1 hb ⟨h15, _⟩ K hK
      have h15 : f 15 = _ := h15
      simp only [over, overL, Nat.reduceAdd, h15]
      go_simp
      exact hK _ _ ⟨_, rfl, by simp only [over, overL, Nat.reduceAdd, h15]; rfl, Below.refl _ _⟩
    · intro f w1 hb ⟨h16, _⟩ K hK
      have h16 : f 16 = _ := h16
      simp only [over, overL, Nat.reduceAdd, h16]
      go_simp
      exact hK _ _ ⟨_, rfl, by simp only [over, overL, Nat.reduceAdd, h16]; rfl, Below.refl _ _⟩
    · intro f w1 hb _ K hK
      simp only [over, overL, Nat.reduceAdd]
      go_simp
      exact hK _ _ ⟨_, rfl, by simp only [over, overL, Nat.reduceAdd]; rfl, Below.refl _ _⟩
    · intro f w1 hb ⟨h18, _⟩ K hK
      have h18 : f 18 = _ := h18
      simp only [over, overL, Nat.reduceAdd, h18]
      go_simp
      exact hK _ _ ⟨_, rfl, by simp only [over, overL, Nat.reduceAdd, h18]; rfl, Below.refl _ _⟩
    · intro f w1 hb ⟨h19, _⟩ K hK
      have h19 : f 19 = _ := h19
      simp only [over, overL, Nat.reduceAdd, h19]
      go_simp
      exact hK _ _ ⟨_, rfl, by simp only [over, overL, Nat.reduceAdd, h19]; rfl, Below.refl _ _⟩
    · intro f w1 hb _ K hK
      simp only [over, overL, Nat.reduceAdd]
      go_simp
      exact hK _ _ ⟨_, rfl, by simp only [over, overL, Nat.reduceAdd]; rfl, Below.refl _ _⟩
    · intro f w1 hb ⟨h21, _⟩ K hK
      have h21 : f 21 = _ := h21
      simp only [over, overL, Nat.reduceAdd, h21]
      go_simp
      exact hK _ _ ⟨_, rfl, by simp only [over, overL, Nat.reduceAdd, h21]; rfl, Below.refl _ _⟩
    · intro f w1 hb ⟨h22, _⟩ K hK
      have h22 : f 22 = _ := h22
      simp only [over, overL, Nat.reduceAdd, h22]
      go_simp
      exact hK _ _ ⟨_, rfl, by simp only [over, overL, Nat.reduceAdd, h22]; rfl, Below.refl _ _⟩
    · intro f w1 hb _ K hK
      simp only [over, overL, Nat.reduceAdd]
      go_simp
      exact hK _ _ ⟨_, rfl, by simp only [over, overL, Nat.reduceAdd]; rfl, Below.refl _ _⟩
    · intro f w1 hb ⟨h24, _⟩ K hK
      have h24 : f 24 = _ := h24
      simp only [over, overL, Nat.reduceAdd, h24]
      go_simp
      exact hK _ _ ⟨_, rfl, by simp only [over, overL, Nat.reduceAdd, h24]; rfl, Below.refl _ _⟩
    · intro f w1 hb ⟨h25, _⟩ K hK
      have h25 : f 25 = _ := h25
      simp only [over, overL, Nat.reduceAdd, h25]
      go_simp
      exact hK _ _ ⟨_, rfl, by simp only [over, overL, Nat.reduceAdd, h25]; rfl, Below.refl _ _⟩
    · intro f w1 hb _ K hK
      simp only [over, overL, Nat.reduceAdd]
      go_simp
      exact hK _ _ ⟨_, rfl, by simp only [over, overL, Nat.reduceAdd]; rfl, Below.refl _ _⟩
    · intro f w1 hb ⟨h27, _⟩ K hK
      have h27 : f 27 = _ := h27
      simp only [over, overL, Nat.reduceAdd, h27]
      go_simp
      exact hK _ _ ⟨_, rfl, by simp only [over, overL, Nat.reduceAdd, h27]; rfl, Below.refl _ _⟩
    · intro f w1 hb ⟨h28, _⟩ K hK
      have h28 : f 28 = _ := h28
      simp only [over, overL, Nat.reduceAdd, h28]
      go_simp
      exact hK _ _ ⟨_, rfl, by simp only [over, overL, Nat.reduceAdd, h28]; rfl, Below.refl _ _⟩
    · intro f w1 hb _ K hK
      simp only [over, overL, Nat.reduceAdd]
      go_simp
      exact hK _ _ ⟨_, rfl, by simp only [over, overL, Nat.reduceAdd]; rfl, Below.refl _ _⟩
    · intro f w1 hb ⟨h30, _⟩ K hK
      have h30 : f 30 = _ := h30
      simp only [over, overL, Nat.reduceAdd, h30]
      go_simp
      exact hK _ _ ⟨_, rfl, by simp only [over, overL, Nat.reduceAdd, h30]; rfl, Below.refl _ _⟩
    · intro f w1 hb ⟨h31, _⟩ K hK
      have h31 : f 31 = _ := h31
      simp only [over, overL, Nat.reduceAdd, h31]
      go_simp
      exact hK _ _ ⟨_, rfl, by simp only [over, overL, Nat.reduceAdd, h31]; rfl, Below.refl _ _⟩
    · intro f w1 hb ⟨h5, h8, h11, h14, h17, h20, h23, h26, h29, h32, _⟩ K hK
      have h5 : f 5 = _ := h5
      have h8 : f 8 = _ := h8
      have h11 : f 11 = _ := h11
      have h14 : f 14 = _ := h14
      have h17 : f 17 = _ := h17
      have h20 : f 20 = _ := h20
      have h23 : f 23 = _ := h23
      have h26 : f 26 = _ := h26
      have h29 : f 29 = _ := h29
      have h32 : f 32 = _ := h32
      simp only [over, overL, Nat.reduceAdd, h5, h8, h11, h14, h17, h20, h23, h26, h29, h32]
      go_simp
      exact hK _ _ ⟨_, new_ptrs _ _ _, by simp only [over, overL, Nat.reduceAdd, h5, h8, h11, h14, h17, h20, h23, h26, h29, h32]; rfl, (Below.refl _ _).alloc (Nat.le_refl _) _⟩
    · intro f w1 hb ⟨h33, _⟩ K hK
      simp only [over, overL, Nat.reduceAdd]
      go_simp
      exact hK _ _ ⟨_, h33, by simp only [over, overL, Nat.reduceAdd]; rfl, Below.refl _ _⟩
  · intro f w1 hb h
    have h2 : IsPtrs B (f 2) w1 := h.2.2.2.2.2.2.2.2.2.2.2.2.2.2.2.2.2.2.2.2.2.2.2.2.2.2.2.2.2.2.2.1
    simp only [over, overL, Nat.reduceAdd]
    go_wp2
    go_ret
    exact ⟨_, rfl, h2, hb⟩

/-- The words of the kinds. -/
def kwL : List (List UInt8) := [[], [112, 108, 97, 116, 101], [114, 97, 99, 107], [116, 114, 97, 115, 104]]
/-- The table of the kinds' words lies where it must. -/
def KW (w : World) : Prop := ∀ (k : Nat) l, kwL[k]? = some l → w.cell? ⟨0, k, none⟩ = some (.string ⟨l.toArray⟩)
theorem KW.later {w w' : World} (h : KW w) (hb : Below w.heap.size w w') : KW w' := fun k l hk => cell_later hb (h k l hk)
/-- The kind that a word tells. -/
def kindN (l : List UInt8) : Int := if l = [] then 0 else if l = [112, 108, 97, 116, 101] then 1 else if l = [114, 97, 99, 107] then 2 else if l = [116, 114, 97, 115, 104] then 3 else 0
end Go.Proofs.YtmmpaaaifdikdaaGreatDoor
