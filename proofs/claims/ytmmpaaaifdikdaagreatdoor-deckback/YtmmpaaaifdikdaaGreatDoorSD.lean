/- Boxes of the call itself. -/
import Derived.Test.YtmmpaaaifdikdaaGreatDoorSC
import Derived.Maps.AppendAt
namespace Go.Proofs.YtmmpaaaifdikdaaGreatDoor.S
open Go.RowKit

theorem Tryz.info55 : (Tryz.prog.info? 55).map (fun i => (i.zero, i.size, i.bytes)) = some (some (.agg #[.int .i64 0, .int .i64 0, .int .i64 0, .int .i64 0, .int .i64 0, .int .i64 0]), 6, 48) := by kernel_rfl
/-- Boxes as cells. -/
def cellsB1 (b : Bx) : List Value := [.int .i64 b.lx, .int .i64 b.ly, .int .i64 b.lz, .int .i64 b.hx, .int .i64 b.hy, .int .i64 b.hz]
def cellsB (l : List Bx) : List Value := l.flatMap cellsB1
theorem cellsB_length (l : List Bx) : (cellsB l).length = l.length * 6 := by
  induction l with
  | nil => rfl
  | cons p ps ih => simp only [cellsB, cellsB1, List.flatMap_cons, List.length_append, List.length_cons, List.length_nil] at ih ⊢; omega
theorem cellsB_append (a b : List Bx) : cellsB (a ++ b) = cellsB a ++ cellsB b := by simp [cellsB]
theorem cellsB_at {l : List Bx} {k i : Nat} (h : k < l.length) (hi : i < 6) : (cellsB l)[k * 6 + i]? = (cellsB1 (l[k]'h))[i]? := by
  have e : l = l.take k ++ l[k]'h :: l.drop (k + 1) := by rw [← List.drop_eq_getElem_cons h, List.take_append_drop]
  have e2 : cellsB l = cellsB (l.take k) ++ (cellsB1 (l[k]'h) ++ cellsB (l.drop (k + 1))) := by
    conv => lhs; rw [e]
    rw [cellsB_append]; rfl
  have hl : (cellsB (l.take k)).length = k * 6 := by rw [cellsB_length, List.length_take, Nat.min_eq_left (by omega)]
  rw [e2, List.getElem?_append_right (by omega), hl, List.getElem?_append_left (by simp [cellsB1]; omega)]
  congr 1
  omega
theorem cellsB_one {l : List Bx} : ∀ u ∈ cellsB l, u.oneCell' = true := by
  intro u hu
  obtain ⟨b, _, hb⟩ := List.mem_flatMap.1 hu
  simp only [cellsB1, List.mem_cons, List.mem_nil_iff, or_false] at hb
  rcases hb with rfl | rfl | rfl | rfl | rfl | rfl <;> rfl
theorem Bxs.cells {w : World} {ad : Addr} {l : List Bx} (h : Bxs w (some ad) l) : ∀ j u, (cellsB l)[j]? = some u → w.cell? (ad.add j) = some u := by
  intro j u hj
  have hlt : j < l.length * 6 := by
    have := (List.getElem?_eq_some_iff.1 hj).1
    rw [cellsB_length] at this
    exact this
  rcases h with rfl | ⟨b, off, e, hc⟩
  · simp at hlt
  · injection e with e
    subst e
    have hk : j / 6 < l.length := by omega
    have hat := cellsB_at (i := j % 6) hk (by omega)
    rw [show j / 6 * 6 + j % 6 = j by omega, hj] at hat
    obtain ⟨_, c0, c1, c2, c3, c4, c5⟩ := hc (j / 6) hk
    rw [Addr.add_lit]
    generalize l[j / 6]'hk = x at *
    rcases (show j % 6 = 0 ∨ j % 6 = 1 ∨ j % 6 = 2 ∨ j % 6 = 3 ∨ j % 6 = 4 ∨ j % 6 = 5 by omega) with e | e | e | e | e | e
    all_goals
      rw [e] at hat
      simp only [cellsB1, List.getElem?_cons_zero, List.getElem?_cons_succ] at hat
      injection hat with hat
      subst hat
    · rw [show off + j = off + j / 6 * 6 by omega]; exact c0
    · rw [show off + j = off + j / 6 * 6 + 1 by omega]; exact c1
    · rw [show off + j = off + j / 6 * 6 + 2 by omega]; exact c2
    · rw [show off + j = off + j / 6 * 6 + 3 by omega]; exact c3
    · rw [show off + j = off + j / 6 * 6 + 4 by omega]; exact c4
    · rw [show off + j = off + j / 6 * 6 + 5 by omega]; exact c5
/-- The call's own boxes. -/
def OwnB (w : World) (base : Nat) (v : Value) (l : List Bx) : Prop := w.ownsRow base 55 6 v l.length (cellsB l)
/-- A slice with just these boxes. -/
def IsCopy (l : List Bx) (v : Value) (w : World) : Prop := ∃ ao cap, v = .slice ao l.length cap ∧ Bxs w ao l ∧ l.length ≤ cap
theorem IsCopy.later {l : List Bx} {v : Value} {w w' : World} (h : IsCopy l v w) (hb : Below w.heap.size w w') : IsCopy l v w' := by
  obtain ⟨ao, cap, h1, h2, h3⟩ := h
  exact ⟨ao, cap, h1, h2.next hb, h3⟩
theorem OwnB.shape {w : World} {base : Nat} {v : Value} {l : List Bx} (h : OwnB w base v l) : IsCopy l v w := by
  have h' := h
  rcases h.2 with ⟨h1, h2⟩ | ⟨g, cap', cur, h1, h2, h3, h4⟩
  · exact ⟨none, 0, by rw [h1, h2], .inl (List.eq_nil_of_length_eq_zero h2), by omega⟩
  · subst h1
    refine ⟨_, _, rfl, .inr ⟨g, 0, rfl, fun k hk => ?_⟩, by omega⟩
    have lt : g < w.heap.size := (Array.getElem?_eq_some_iff.1 h3).1
    have e : ∀ i, i < 6 → w.cell? ⟨g, k * 6 + i, none⟩ = (cellsB1 (l[k]'hk))[i]? := fun i hi => (World.ownsRow.cellAt h' (k * 6 + i) (by omega)).trans (cellsB_at hk hi)
    simp only [Nat.zero_add]
    exact ⟨lt, e 0 (by decide), e 1 (by decide), e 2 (by decide), e 3 (by decide), e 4 (by decide), e 5 (by decide)⟩

end Go.Proofs.YtmmpaaaifdikdaaGreatDoor.S
