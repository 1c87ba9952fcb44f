/- Points in blocks. -/
import Derived.Test.YtiafcgbohckmmaaIs
namespace Go.Proofs.Ytiafcgbohckmmaa
open Go.RowKit

/-- A point in a block. -/
structure Pf (b : Nat) (p : Pt) (w : World) : Prop where
  lt : b < w.heap.size
  c0 : w.cell? ⟨b, 0, none⟩ = some (.int .i64 p.x)
  c1 : w.cell? ⟨b, 1, none⟩ = some (.int .i64 p.y)
  c2 : w.cell? ⟨b, 2, none⟩ = some (.int .i64 p.z)
theorem Pf.later {b : Nat} {p : Pt} {w w' : World} (h : Pf b p w) (hb : Below w.heap.size w w') : Pf b p w' :=
  ⟨Nat.lt_of_lt_of_le h.lt hb.size, cell_later hb h.c0, cell_later hb h.c1, cell_later hb h.c2⟩
theorem Pf.new (w : World) (p : Pt) : Pf w.heap.size p (w.alloc (po p)) := ⟨by simp, by go_simp, by go_simp, by go_simp⟩
theorem Bf.put {b : Nat} {a : Bx} {w : World} (h : Bf b a w) (c : Bx) : Bf b c (put6 w b c) := by
  obtain ⟨⟨hl, r0, r1, r2, r3, r4, r5⟩, f0, f1, f2, f3, f4, f5⟩ := h
  simp only [Nat.zero_add] at r1 r2 r3 r4 r5
  refine ⟨⟨by simpa using hl, ?_, ?_, ?_, ?_, ?_, ?_⟩, ?_, ?_, ?_, ?_, ?_, ?_⟩
  all_goals simp [go_sem, *]
theorem refusal1r (a : Bx) (r : Int) (h : bad1 a = r) (W : World) (n : Nat) (hn : n = W.heap.size) : Calls Try.prog 28 #[.slice (some ⟨n, 0, none⟩) 1 1] (W.alloc (bo a)) fun e w' => e = .returned (.int .i64 r) ∧ Below (W.alloc (bo a)).heap.size (W.alloc (bo a)) w' := by
  rw [← h]; exact refusal1 a W n hn
theorem near1r (p : Pt) (r : Bool) (h : nearP p = r) (W : World) (n : Nat) (hn : n = W.heap.size) : Calls Try.prog 31 #[.slice (some ⟨n, 0, none⟩) 1 1] (W.alloc (po p)) fun e w' => e = .returned (.bool r) ∧ Below (W.alloc (po p)).heap.size (W.alloc (po p)) w' := by
  rw [← h]; exact near1 p W n hn
theorem near2r (a : Bx) (r : Bool) (h : nearB a = r) (W : World) (n : Nat) (hn : n = W.heap.size) : Calls Try.prog 31 #[.slice (some ⟨n, 0, none⟩) 2 2] (W.alloc (bp a)) fun e w' => e = .returned (.bool r) ∧ Below (W.alloc (bp a)).heap.size (W.alloc (bp a)) w' := by
  rw [← h]; exact near2 a W n hn
theorem isStraight_r (p : Pt) (r : Bool) (h : straight p = r) (w : World) : Calls Try.prog 33 #[pv p] w fun e w' => e = .returned (.bool r) ∧ Below w.heap.size w w' := by
  rw [← h]; exact isStraight_any p w
end Go.Proofs.Ytiafcgbohckmmaa
