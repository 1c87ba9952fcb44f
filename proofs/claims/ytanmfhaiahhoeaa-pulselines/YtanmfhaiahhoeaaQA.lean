/- Moves: their numbers, whether they may be, the longest of them. -/
import Derived.Test.YtanmfhaiahhoeaaLC
import Derived.Shelf.Abstract
namespace Go.Proofs.Ytanmfhaiahhoeaa
open Go.RowKit

abbrev ptr (b : Nat) : Value := .pointer (some ⟨b, 0, none⟩)
/-- A point, or three numbers. -/
abbrev v3 (x y z : Int) : Value := .agg #[.int .i64 x, .int .i64 y, .int .i64 z]
/-- A block that holds them. -/
abbrev o3 (x y z : Int) (t : TypeId) : Obj := .cells #[.int .i64 x, .int .i64 y, .int .i64 z] t
theorem bk_kpt {M : Nat → Prop} {b : Nat} {cs : List Value} {w w1 : World} (h : Bk b cs w) (hk : Kpt M w w1) (hM : ¬ M b) : Bk b cs w1 := h.same hk.size (hk.block b h.1 hM)
theorem Kpt.belowB {M : Nat → Prop} {w A B : World} (h : Below w.heap.size w A) (hk : Kpt M A B) (hM : ∀ k, M k → w.heap.size ≤ k) : Below w.heap.size w B := h.trans (hk.below h.size hM)
theorem over_eq (a : Act) (m : List Bool) (f : Nat → Value) : over a m f = { tmps := (overL f m 0 a.tmps.toList).toArray, defers := a.defers } := rfl
theorem box3 {w : World} {b : Nat} {u0 u1 u2 : Value} (c0 : w.cell? ⟨b, 0, none⟩ = some u0) (c1 : w.cell? ⟨b, 1, none⟩ = some u1) (c2 : w.cell? ⟨b, 2, none⟩ = some u2) (x y z : Value) :
    (((w.setCell ⟨b, 0, none⟩ x).setCell ⟨b, 1, none⟩ y).setCell ⟨b, 2, none⟩ z).cell? ⟨b, 0, none⟩ = some x ∧
    (((w.setCell ⟨b, 0, none⟩ x).setCell ⟨b, 1, none⟩ y).setCell ⟨b, 2, none⟩ z).cell? ⟨b, 1, none⟩ = some y ∧
    (((w.setCell ⟨b, 0, none⟩ x).setCell ⟨b, 1, none⟩ y).setCell ⟨b, 2, none⟩ z).cell? ⟨b, 2, none⟩ = some z := by
  refine ⟨?_, ?_, ?_⟩
  all_goals simp [go_sem, c0, c1, c2]
/-- An array of three, indexed. -/
theorem ix0 (x y z : Int) (w : World) : (Instr.index 49 (v3 x y z) (.int .i64 0)).run Try.prog w = .ok (.int .i64 x) w := by kernel_rfl
theorem ix1 (x y z : Int) (w : World) : (Instr.index 49 (v3 x y z) (.int .i64 1)).run Try.prog w = .ok (.int .i64 y) w := by kernel_rfl
theorem ix2 (x y z : Int) (w : World) : (Instr.index 49 (v3 x y z) (.int .i64 2)).run Try.prog w = .ok (.int .i64 z) w := by kernel_rfl

theorem numbers_any (x y z : Int) (w : World) : Calls Try.prog 38 #[v3 x y z] w fun e w' => e = .returned (v3 x y z) ∧ w' = (w.alloc (o3 x y z 23)).alloc (o3 x y z 49) := by
  go_enter Try.func38, Try.ntmps38
  go_wp2
  refine bodyPost_ret (v := v3 x y z) (by simp [results, Try.results38, go_sem]) rfl ⟨rfl, rfl⟩
theorem pointOf_any (x y z : Int) (w : World) : Calls Try.prog 29 #[v3 x y z] w fun e w' => e = .returned (v3 x y z) ∧ w' = (w.alloc (o3 x y z 49)).alloc (o3 x y z 23) := by
  go_enter Try.func29, Try.ntmps29
  go_wp2
  refine bodyPost_ret (v := v3 x y z) (by simp [results, Try.results29, go_sem]) rfl ⟨rfl, rfl⟩

/-- A number of a move that may be. -/
def inM (n : Int) : Bool := decide (-20000 ≤ n) && decide (n ≤ 20000)
def mv (x y z : Int) : Bool := inM x && inM y && inM z
theorem inM_iff {n : Int} : inM n = true ↔ -20000 ≤ n ∧ n ≤ 20000 := by simp [inM]
theorem mv_iff {x y z : Int} : mv x y z = true ↔ (-20000 ≤ x ∧ x ≤ 20000) ∧ (-20000 ≤ y ∧ y ≤ 20000) ∧ (-20000 ≤ z ∧ z ≤ 20000) := by simp [mv, inM_iff, and_assoc]
theorem mv_no {x y z : Int} (h : ¬ ((-20000 ≤ x ∧ x ≤ 20000) ∧ (-20000 ≤ y ∧ y ≤ 20000) ∧ (-20000 ≤ z ∧ z ≤ 20000))) : mv x y z = false := by
  cases e : mv x y z with
  | false => rfl
  | true => exact absurd (mv_iff.1 e) h
theorem two_new (w : World) (a b : Obj) : Below w.heap.size w ((w.alloc a).alloc b) := ((Below.refl _ _).alloc (Nat.le_refl _) _).alloc (by simp) _
theorem three_new (w : World) (a b c : Obj) : Below w.heap.size w (((w.alloc a).alloc b).alloc c) := (((Below.refl _ _).alloc (Nat.le_refl _) _).alloc (by simp) _).alloc (by simp; omega) _
set_option maxHeartbeats 6400000 in
set_option maxRecDepth 100000 in
theorem isMove_any (x y z : Int) (w : World) : Calls Try.prog 21 #[v3 x y z] w fun e w' => e = .returned (.bool (mv x y z)) ∧ Below w.heap.size w w' := by
  have HN : Hid (∀ W, Calls Try.prog 38 #[v3 x y z] W fun e w' => e = .returned (v3 x y z) ∧ w' = (W.alloc (o3 x y z 23)).alloc (o3 x y z 49)) := numbers_any x y z
  go_enter Try.func21, Try.ntmps21
  go_wp2_with fail
  refine (HN.out _).mono ?_
  rintro e w1 ⟨rfl, hw1⟩
  have HB : Hid (Below w.heap.size w w1) := by show Below _ _ _; rw [hw1]; exact three_new _ _ _ _
  clear hw1
  have i0 := ix0 x y z
  have i1 := ix1 x y z
  have i2 := ix2 x y z
  go_wp2_with fail
  refine wp_loop_rounds 4 ?_
  rw [rounds_succ]
  go_wp2
  · go_ret
    exact ⟨ret_bool (mv_no (by omega)).symm, HB.out⟩
  · rw [rounds_succ]
    go_wp2
    · go_ret
      exact ⟨ret_bool (mv_no (by omega)).symm, HB.out⟩
    · rw [rounds_succ]
      go_wp2
      · go_ret
        exact ⟨ret_bool (mv_no (by omega)).symm, HB.out⟩
      · rw [rounds_succ]
        go_wp2
        go_ret
        exact ⟨ret_bool (mv_iff.2 (by omega)).symm, HB.out⟩
      · go_ret
        exact ⟨ret_bool (mv_no (by omega)).symm, HB.out⟩
    · go_ret
      exact ⟨ret_bool (mv_no (by omega)).symm, HB.out⟩
  · go_ret
    exact ⟨ret_bool (mv_no (by omega)).symm, HB.out⟩
/-- The longest number. -/
def lg (x y z : Int) : Nat := max x.natAbs (max y.natAbs z.natAbs)
theorem lg_le {x y z : Int} (h : mv x y z = true) : lg x y z ≤ 20000 := by
  have := mv_iff.1 h
  unfold lg
  omega
set_option maxHeartbeats 6400000 in
set_option maxRecDepth 100000 in
theorem longest_any (x y z : Int) (w : World) (h : mv x y z = true) : Calls Try.prog 22 #[v3 x y z] w fun e w' => e = .returned (.int .i64 (lg x y z : Nat)) ∧ Below w.heap.size w w' := by
  have HN : Hid (∀ W, Calls Try.prog 38 #[v3 x y z] W fun e w' => e = .returned (v3 x y z) ∧ w' = (W.alloc (o3 x y z 23)).alloc (o3 x y z 49)) := numbers_any x y z
  obtain ⟨⟨hx1, hx2⟩, ⟨hy1, hy2⟩, ⟨hz1, hz2⟩⟩ := mv_iff.1 h
  clear h
  go_enter Try.func22, Try.ntmps22
  go_wp2_with fail
  refine (HN.out _).mono ?_
  rintro e w1 ⟨rfl, hw1⟩
  have HB : Hid (Below w.heap.size w w1) := by show Below _ _ _; rw [hw1]; exact three_new _ _ _ _
  clear hw1
  have i0 := ix0 x y z
  have i1 := ix1 x y z
  have i2 := ix2 x y z
  go_wp2_with fail
  refine wp_loop_rounds 4 ?_
  rw [rounds_succ]
  go_wp2
  all_goals
    rw [rounds_succ]
    go_wp2
    all_goals
      rw [rounds_succ]
      go_wp2
      all_goals
        rw [rounds_succ]
        go_wp2
        go_ret
        exact ⟨ret_int (by unfold lg; omega), HB.out⟩
end Go.Proofs.Ytanmfhaiahhoeaa
