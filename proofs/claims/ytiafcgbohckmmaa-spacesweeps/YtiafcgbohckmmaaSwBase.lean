/- The law SpaceSweeps: regions. -/
import Derived.Test.YtiafcgbohckmmaaStep
import Derived.Test.YtiafcgbohckmmaaSeq2
namespace Go.Proofs.Ytiafcgbohckmmaa
open Go.RowKit

/-- A cell with a number. -/
structure Cf (b : Nat) (v : Int) (w : World) : Prop where
  lt : b < w.heap.size
  c : w.cell? ⟨b, 0, none⟩ = some (.int .i64 v)
theorem Cf.later {b : Nat} {v : Int} {w w' : World} (h : Cf b v w) (hb : Below w.heap.size w w') : Cf b v w' := ⟨Nat.lt_of_lt_of_le h.lt hb.size, cell_later hb h.c⟩
theorem Cf.new (w : World) (v : Int) : Cf w.heap.size v (w.alloc (.cells #[.int .i64 v] 3)) := ⟨by simp, by go_simp⟩
abbrev cube1 : Bx := ⟨0, 0, 0, 1, 1, 1⟩
theorem cube1_sweep : sweepR cube1 ⟨4, 0, 0⟩ = (⟨0, 0, 0, 5, 1, 1⟩, 0) := by
  have h : moveR cube1 ⟨4, 0, 0⟩ = (⟨4, 0, 0, 5, 1, 1⟩, 0) := by
    rw [moveR_ok (by decide) (by decide) (by decide)]
    rfl
  rw [sweepR_ok h (by decide)]
  rfl
def sw5V (a s : Bx) (q : Pt) (far r : Int) (B : Nat) (d : Nat) (v : Value) (_w : World) : Prop :=
  match d with
  | 36 => v = bv a
  | 37 => v = .func (.func 25) #[] #[ptr B]
  | 38 => v = .int .i64 far
  | 39 => v = pv q
  | 40 => v = .tuple #[bv s, .int .i64 r]
  | 35 => v = .tuple #[bv s, .int .i64 r]
  | 41 => v = bv s
  | 42 => v = .int .i64 r
  | _ => True
def sw16V (a m : Bx) (q : Pt) (stop : Int) (B n : Nat) (d : Nat) (v : Value) (w : World) : Prop :=
  match d with
  | 80 => v = bv a
  | 81 => v = .func (.func 25) #[] #[ptr B]
  | 82 => v = .int .i64 stop
  | 83 => v = pv q
  | 84 => v = .tuple #[bv m, .int .i64 0]
  | 79 => v = .tuple #[bv m, .int .i64 0]
  | 85 => v = bv m
  | 86 => v = .int .i64 0
  | 16 => ∃ b, v = ptr b ∧ n ≤ b ∧ Bf b zB w
  | _ => True
theorem sw16V_mono (a m : Bx) (q : Pt) (stop : Int) (B n : Nat) (d : Nat) (v : Value) (w w' : World) (h : sw16V a m q stop B n d v w) (hb : Below w.heap.size w w') : sw16V a m q stop B n d v w' := by
  unfold sw16V at h ⊢
  split <;> simp only [] at h <;> first | exact h | (obtain ⟨b, h1, h2, h3⟩ := h; exact ⟨b, h1, h2, h3.later hb⟩)
theorem step_r (way n : Int) (q : Pt) (hq : q = stepP way n) (B : Nat) (w : World) (h : Cf B way w) (h0 : -9223372036854775808 ≤ way) (h1 : way ≤ 9223372036854775807) :
    Calls Try.prog 25 #[.int .i64 n, ptr B] w fun e w' => e = .returned (pv q) ∧ Below w.heap.size w w' := by
  rw [hq]; exact step_any way n B w h.c h.lt h0 h1
end Go.Proofs.Ytiafcgbohckmmaa
