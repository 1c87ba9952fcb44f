/- Hulls, plainly; the faces with their answers named. -/
import Derived.Test.YtiafcgbohckmmaaSweep
import Derived.Test.YtiafcgbohckmmaaMeet
import Derived.Test.YtiafcgbohckmmaaFHull
namespace Go.Proofs.Ytiafcgbohckmmaa
open Go.RowKit

theorem fhull_r (a b x : Bx) (r : Int) (h : hullR a b = (x, r)) (w : World) : Calls Try.prog 10 #[bv a, bv b] w fun e w' => e = .returned (.tuple #[bv x, .int .i64 r]) ∧ Below w.heap.size w w' := by
  have := fhull_any a b w
  rw [h] at this
  exact this
theorem meet_r (a b : Bx) (x : Bool) (r : Int) (h : meetR a b = (x, r)) (w : World) : Calls Try.prog 9 #[bv a, bv b] w fun e w' => e = .returned (.tuple #[.bool x, .int .i64 r]) ∧ Below w.heap.size w w' := by
  have := meet_any a b w
  rw [h] at this
  exact this
theorem sweep_r (a m : Bx) (p : Pt) (r : Int) (h : sweepR a p = (m, r)) (w : World) : Calls Try.prog 12 #[bv a, pv p] w fun e w' => e = .returned (.tuple #[bv m, .int .i64 r]) ∧ Below w.heap.size w w' := by
  have := sweep_any a p w
  rw [h] at this
  exact this
theorem badL2_zero {a b : Bx} : badL [a, b] = 0 ↔ bad1 a = 0 ∧ bad1 b = 0 := by
  rw [badL_two]
  by_cases h : bad1 a = 0
  · rw [if_pos h]; simp [h]
  · rw [if_neg h]; simp [h]
theorem bad1_iff {b : Bx} : bad1 b = 0 ↔ ((-10000000 ≤ b.lx ∧ b.lx ≤ 10000000) ∧ (-10000000 ≤ b.ly ∧ b.ly ≤ 10000000) ∧ (-10000000 ≤ b.lz ∧ b.lz ≤ 10000000) ∧ (-10000000 ≤ b.hx ∧ b.hx ≤ 10000000) ∧ (-10000000 ≤ b.hy ∧ b.hy ≤ 10000000) ∧ (-10000000 ≤ b.hz ∧ b.hz ≤ 10000000)) ∧ b.lx ≤ b.hx ∧ b.ly ≤ b.hy ∧ b.lz ≤ b.hz := by
  rw [bad1_ok, nearB_iff, atMost_iff]
theorem bx_ext {a b : Bx} (h0 : a.lx = b.lx) (h1 : a.ly = b.ly) (h2 : a.lz = b.lz) (h3 : a.hx = b.hx) (h4 : a.hy = b.hy) (h5 : a.hz = b.hz) : a = b := by
  cases a; cases b; simp at h0 h1 h2 h3 h4 h5; simp [*]
theorem hull_comm (a b : Bx) : hullB b a = hullB a b := by
  apply bx_ext <;> simp only [hullB] <;> omega
theorem hull_left (a b : Bx) : hullB (hullB a b) a = hullB a b := by
  apply bx_ext <;> simp only [hullB] <;> omega
theorem hull_right (a b : Bx) : hullB b (hullB a b) = hullB a b := by
  apply bx_ext <;> simp only [hullB] <;> omega
theorem hull_good {a b : Bx} (ha : bad1 a = 0) (hb : bad1 b = 0) : bad1 (hullB a b) = 0 := by
  rw [bad1_iff] at *
  simp only [hullB]
  omega
theorem hullR_ok {a b : Bx} (ha : bad1 a = 0) (hb : bad1 b = 0) : hullR a b = (hullB a b, 0) := if_pos (badL2_zero.2 ⟨ha, hb⟩)
theorem meetR_ok {a b : Bx} (ha : bad1 a = 0) (hb : bad1 b = 0) : meetR a b = (meet a b, 0) := if_pos (badL2_zero.2 ⟨ha, hb⟩)
/-- The cube of two. -/
abbrev cube2 : Bx := ⟨0, 0, 0, 2, 2, 2⟩
theorem cube2_good : bad1 cube2 = 0 := by decide
theorem cube2_hull : hullR cube2 cube2 = (cube2, 0) := by rw [hullR_ok cube2_good cube2_good]; rfl
end Go.Proofs.Ytiafcgbohckmmaa
