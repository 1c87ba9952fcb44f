/- Slices of boxes and closures over them; what the faces come to. -/
import Derived.Test.YtiafcgbohckmmaaHull
import Derived.Test.YtiafcgbohckmmaaMts
namespace Go.Proofs.Ytiafcgbohckmmaa
open Go.RowKit

/-- A slice of boxes. -/
def IsSl (l : List Bx) (v : Value) (w : World) : Prop := ∃ ao cap, v = .slice ao l.length cap ∧ Bxs w ao l
/-- The closure over boxes. -/
def IsMeets (l : List Bx) (v : Value) (w : World) : Prop := ∃ B, v = .func (.func 42) #[] #[ptr B] ∧ B < w.heap.size ∧ ∃ ao cap, w.cell? ⟨B, 0, none⟩ = some (.slice ao l.length cap) ∧ Bxs w ao l
theorem IsSl.later {l : List Bx} {v : Value} {w w' : World} (h : IsSl l v w) (hb : Below w.heap.size w w') : IsSl l v w' := by
  obtain ⟨ao, cap, h1, h2⟩ := h
  exact ⟨ao, cap, h1, h2.next hb⟩
theorem IsMeets.later {l : List Bx} {v : Value} {w w' : World} (h : IsMeets l v w) (hb : Below w.heap.size w w') : IsMeets l v w' := by
  obtain ⟨B, h1, h2, ao, cap, h3, h4⟩ := h
  exact ⟨B, h1, Nat.lt_of_lt_of_le h2 hb.size, ao, cap, cell_later hb h3, h4.next hb⟩
theorem meets_is (l : List Bx) (v : Value) (w : World) (h : IsSl l v w) : Calls Try.prog 29 #[v] w fun e w' => ∃ u, e = .returned u ∧ IsMeets l u w' ∧ Below w.heap.size w w' := by
  obtain ⟨ao, cap, rfl, h2⟩ := h
  refine (meets_any ao l.length cap w).mono ?_
  rintro e w' ⟨rfl, rfl⟩
  exact ⟨_, rfl, ⟨_, rfl, by simp, ao, cap, by go_simp, h2.next ((Below.refl _ _).alloc (Nat.le_refl _) _)⟩, (Below.refl _ _).alloc (Nat.le_refl _) _⟩
theorem IsMeets.tests {l : List Bx} {B : Nat} {w : World} (hl : l.length ≤ 9223372036854775807) (h : IsMeets l (.func (.func 42) #[] #[ptr B]) w) : Tests 42 #[ptr B] (fun b => l.any (meet b)) w := by
  intro a W hW
  obtain ⟨B', e, h2, ao, cap, h3, h4⟩ := h.later hW
  simp at e
  subst e
  exact outer_any a B ao cap l W h3 h2 h4 hl
theorem new1 (a : Bx) (w : World) : IsSl [a] (.slice (some ⟨w.heap.size, 0, none⟩) 1 1) (w.alloc (bo a)) := ⟨_, _, rfl, Bxs.one w a⟩
theorem new2 (a b : Bx) (w : World) : IsSl [a, b] (.slice (some ⟨w.heap.size, 0, none⟩) 2 2) (w.alloc (bo2 a b)) := ⟨_, _, rfl, Bxs.two w a b⟩

/-- What the faces come to. -/
def meetR (a b : Bx) : Bool × Int := if badL [a, b] = 0 then (meet a b, 0) else (false, badL [a, b])
def hullR (a b : Bx) : Bx × Int := if badL [a, b] = 0 then (hullB a b, 0) else (zB, badL [a, b])
def moveR (a : Bx) (p : Pt) : Bx × Int := if bad1 a = 0 then (if nearP p = true then (if nearB (movB a p) = true then (movB a p, 0) else (zB, 2)) else (zB, 2)) else (zB, bad1 a)
def sweepR (a : Bx) (p : Pt) : Bx × Int := if (moveR a p).2 = 0 then (if straight p = true then (hullB a (moveR a p).1, 0) else (zB, 6)) else (zB, (moveR a p).2)
theorem near_sm {b : Bx} (h : bad1 b = 0) : SmB b := by
  have h := nearB_iff.1 (bad1_ok.1 h).1
  unfold SmB SmP
  simp only
  omega
theorem nearP_sm {p : Pt} (h : nearP p = true) : SmP p := by
  have h := nearP_iff.1 h
  unfold SmP
  omega
end Go.Proofs.Ytiafcgbohckmmaa
