/- The law SpaceMoves: regions, answers. -/
import Derived.Test.YtiafcgbohckmmaaHM
import Derived.Test.YtiafcgbohckmmaaRefH
import Derived.Test.YtiafcgbohckmmaaMet
namespace Go.Proofs.Ytiafcgbohckmmaa
open Go.RowKit

def mv13V (a b : Bx) (d : Nat) (v : Value) (_w : World) : Prop :=
  match d with
  | 68 => v = .int .i64 0
  | 69 => v = .bool false
  | 70 => v = .bool false
  | 71 => v = .int .i64 0
  | 72 => v = .bool false
  | 73 => v = .bool false
  | 74 => v = .bool false
  | 75 => v = .bool (meet a b)
  | 76 => v = bv a
  | 77 => v = bv b
  | 78 => v = .bool (meet a b)
  | 79 => v = .bool false
  | 80 => v = .bool false
  | 81 => v = .bool false
  | 82 => v = bv (hullB a b)
  | 83 => v = bv a
  | 84 => v = bv b
  | 85 => v = bv (hullB a b)
  | 86 => v = .bool false
  | 87 => v = .bool false
  | _ => True
def mv19V (a m : Bx) (p : Pt) (d : Nat) (v : Value) (_w : World) : Prop :=
  match d with
  | 122 => v = .int .i64 0
  | 123 => v = .bool false
  | 124 => v = .bool false
  | 125 => v = bv m
  | 126 => v = bv a
  | 127 => v = pv p
  | 128 => v = bv m
  | 129 => v = .bool false
  | 130 => v = .bool false
  | _ => True
def mv30V (a m : Bx) (d : Nat) (v : Value) (_w : World) : Prop :=
  match d with
  | 155 => v = .int .i64 0
  | 156 => v = .bool true
  | 157 => v = .bool true
  | 158 => v = bv (hullB a m)
  | 159 => v = bv a
  | 160 => v = bv m
  | 161 => v = bv (hullB a m)
  | 162 => v = .bool true
  | 163 => v = .bool true
  | 6 => v = .bool true
  | _ => True
theorem BoxMay_r (a : Bx) (r : Int) (h : bad1 a = r) (w : World) : Calls Try.prog 13 #[bv a] w fun e w' => e = .returned (.int .i64 r) ∧ Below w.heap.size w w' := by
  rw [← h]; exact BoxMay_any a w
theorem PointMay_r (p : Pt) (r : Bool) (h : nearP p = r) (w : World) : Calls Try.prog 16 #[pv p] w fun e w' => e = .returned (.bool r) ∧ Below w.heap.size w w' := by
  rw [← h]; exact PointMay_any p w
theorem BoxMoved_r (a m : Bx) (p : Pt) (h : m = movB a p) (ha : SmB a) (hp : SmP p) (w : World) : Calls Try.prog 17 #[bv a, pv p] w fun e w' => e = .returned (bv m) ∧ Below w.heap.size w w' := by
  rw [h]; exact BoxMoved_any a p w ha hp
theorem moveR_bad {a : Bx} {p : Pt} (h : bad1 a ≠ 0) : moveR a p = (zB, bad1 a) := if_neg h
theorem moveR_far {a : Bx} {p : Pt} (h : bad1 a = 0) (hp : nearP p = false) : moveR a p = (zB, 2) := by unfold moveR; rw [if_pos h, hp]; rfl
theorem moveR_out {a : Bx} {p : Pt} (h : bad1 a = 0) (hp : nearP p = true) (hm : nearB (movB a p) = false) : moveR a p = (zB, 2) := by unfold moveR; rw [if_pos h, hp, if_pos rfl, hm]; rfl
theorem moveR_ok {a : Bx} {p : Pt} (h : bad1 a = 0) (hp : nearP p = true) (hm : nearB (movB a p) = true) : moveR a p = (movB a p, 0) := by unfold moveR; rw [if_pos h, hp, if_pos rfl, hm]; rfl
theorem sweepR_bad {a m : Bx} {p : Pt} {r : Int} (h : moveR a p = (m, r)) (hr : r ≠ 0) : sweepR a p = (zB, r) := by unfold sweepR; rw [h]; exact if_neg hr
theorem sweepR_ok {a m : Bx} {p : Pt} (h : moveR a p = (m, 0)) (hs : straight p = true) : sweepR a p = (hullB a m, 0) := by unfold sweepR; rw [h, if_pos rfl, hs]; rfl
theorem sweepR_kind {a m : Bx} {p : Pt} (h : moveR a p = (m, 0)) (hs : straight p = false) : sweepR a p = (zB, 6) := by unfold sweepR; rw [h, if_pos rfl, hs]; rfl
theorem meetR_bad {a b : Bx} {r : Int} (h : badL [a, b] = r) (hr : r ≠ 0) : meetR a b = (false, r) := by unfold meetR; rw [h, if_neg hr]
theorem hullR_bad {a b : Bx} {r : Int} (h : badL [a, b] = r) (hr : r ≠ 0) : hullR a b = (zB, r) := by unfold hullR; rw [h, if_neg hr]
/-- What the count of directions says. -/
theorem straight_of {p : Pt} {x y z : Int} (hx : one p.x = x) (hy : one p.y = y) (hz : one p.z = z) : straight p = decide (x + y + z ≤ 1) := by simp only [straight, hx, hy, hz]
end Go.Proofs.Ytiafcgbohckmmaa
