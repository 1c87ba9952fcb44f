/- Seats of the call itself. -/
import Derived.Test.YtmmpaaaifdikdaaGreatDoorDA
import Derived.Test.YtmmpaaaifdikdaaGreatDoorDF
import Derived.Maps.AppendAt
namespace Go.Proofs.YtmmpaaaifdikdaaGreatDoor
open Go.RowKit

theorem Tryz.info36 : (Tryz.prog.info? 36).map (fun i => (i.zero, i.size, i.bytes)) = some (some (.agg #[.int .i64 0, .string ⟨#[]⟩, .int .i64 0, .int .i64 0, .int .i64 0, .int .i64 0, .int .i64 0, .int .i64 0, .int .i64 0, .int .i64 0, .int .i64 0, .int .i64 0, .int .i64 0, .string ⟨#[]⟩]), 14, 128) := by kernel_rfl
/-- Seats as cells. -/
def cellsD1 (s : Sit) : List Value := [.int .i64 s.slot, .string s.ware.name, .int .i64 s.ware.kind, .int .i64 s.ware.rows, .int .i64 s.ware.cols, .int .i64 s.ware.x, .int .i64 s.ware.y, .int .i64 s.ware.pitch, .int .i64 s.ware.wid, .int .i64 s.ware.len, .int .i64 s.ware.hei, .int .i64 s.ware.deep, .int .i64 s.ware.cap, .string s.name]
def cellsD (l : List Sit) : List Value := l.flatMap cellsD1
theorem cellsD_length (l : List Sit) : (cellsD l).length = l.length * 14 := by
  induction l with
  | nil => rfl
  | cons p ps ih => simp only [cellsD, cellsD1, List.flatMap_cons, List.length_append, List.length_cons, List.length_nil] at ih ⊢; omega
theorem cellsD_append (a b : List Sit) : cellsD (a ++ b) = cellsD a ++ cellsD b := by simp [cellsD]
theorem cellsD_at {l : List Sit} {k i : Nat} (h : k < l.length) (hi : i < 14) : (cellsD l)[k * 14 + i]? = (cellsD1 (l[k]'h))[i]? := by
  have e : l = l.take k ++ l[k]'h :: l.drop (k + 1) := by rw [← List.drop_eq_getElem_cons h, List.take_append_drop]
  have e2 : cellsD l = cellsD (l.take k) ++ (cellsD1 (l[k]'h) ++ cellsD (l.drop (k + 1))) := by
    conv => lhs; rw [e]
    rw [cellsD_append]; rfl
  have hl : (cellsD (l.take k)).length = k * 14 := by rw [cellsD_length, List.length_take, Nat.min_eq_left (by omega)]
  rw [e2, List.getElem?_append_right (by omega), hl, List.getElem?_append_left (by simp [cellsD1]; omega)]
  congr 1
  omega
theorem cellsD_one {l : List Sit} : ∀ u ∈ cellsD l, u.oneCell' = true := by
  intro u hu
  obtain ⟨b, _, hb⟩ := List.mem_flatMap.1 hu
  simp only [cellsD1, List.mem_cons, List.mem_nil_iff, or_false] at hb
  rcases hb with rfl | rfl | rfl | rfl | rfl | rfl | rfl | rfl | rfl | rfl | rfl | rfl | rfl | rfl <;> rfl
theorem Sts.cells {w : World} {ad : Addr} {l : List Sit} (h : Sts w (some ad) l) : ∀ j u, (cellsD l)[j]? = some u → w.cell? (ad.add j) = some u := by
  intro j u hj
  have hlt : j < l.length * 14 := by
    have := (List.getElem?_eq_some_iff.1 hj).1
    rw [cellsD_length] at this
    exact this
  rcases h with rfl | ⟨b, off, e, hc⟩
  · simp at hlt
  · injection e with e
    subst e
    have hk : j / 14 < l.length := by omega
    have hat := cellsD_at (i := j % 14) hk (by omega)
    rw [show j / 14 * 14 + j % 14 = j by omega, hj] at hat
    obtain ⟨_, c0, c1, c2, c3, c4, c5, c6, c7, c8, c9, c10, c11, c12, c13⟩ := hc (j / 14) hk
    rw [Addr.add_lit]
    generalize l[j / 14]'hk = x at *
    rcases (show j % 14 = 0 ∨ j % 14 = 1 ∨ j % 14 = 2 ∨ j % 14 = 3 ∨ j % 14 = 4 ∨ j % 14 = 5 ∨ j % 14 = 6 ∨ j % 14 = 7 ∨ j % 14 = 8 ∨ j % 14 = 9 ∨ j % 14 = 10 ∨ j % 14 = 11 ∨ j % 14 = 12 ∨ j % 14 = 13 by omega) with e | e | e | e | e | e | e | e | e | e | e | e | e | e
    all_goals
      rw [e] at hat
      simp only [cellsD1, List.getElem?_cons_zero, List.getElem?_cons_succ] at hat
      injection hat with hat
      subst hat
    · rw [show off + j = off + j / 14 * 14 by omega]; exact c0
    · rw [show off + j = off + j / 14 * 14 + 1 by omega]; exact c1
    · rw [show off + j = off + j / 14 * 14 + 2 by omega]; exact c2
    · rw [show off + j = off + j / 14 * 14 + 3 by omega]; exact c3
    · rw [show off + j = off + j / 14 * 14 + 4 by omega]; exact c4
    · rw [show off + j = off + j / 14 * 14 + 5 by omega]; exact c5
    · rw [show off + j = off + j / 14 * 14 + 6 by omega]; exact c6
    · rw [show off + j = off + j / 14 * 14 + 7 by omega]; exact c7
    · rw [show off + j = off + j / 14 * 14 + 8 by omega]; exact c8
    · rw [show off + j = off + j / 14 * 14 + 9 by omega]; exact c9
    · rw [show off + j = off + j / 14 * 14 + 10 by omega]; exact c10
    · rw [show off + j = off + j / 14 * 14 + 11 by omega]; exact c11
    · rw [show off + j = off + j / 14 * 14 + 12 by omega]; exact c12
    · rw [show off + j = off + j / 14 * 14 + 13 by omega]; exact c13
/-- The call's own seats. -/
def OwnD (w : World) (base : Nat) (v : Value) (l : List Sit) : Prop := w.ownsRow base 36 14 v l.length (cellsD l)
theorem OwnD.nil (w : World) (base : Nat) : OwnD w base (.slice none 0 0) [] := World.ownsRow_nil w base 36 14
theorem OwnD.later {w w' : World} {base : Nat} {v : Value} {l : List Sit} (h : OwnD w base v l) (hb : Below w.heap.size w w') : OwnD w' base v l := owns_later h hb
theorem OwnD.shape {w : World} {base : Nat} {v : Value} {l : List Sit} (h : OwnD w base v l) : ∃ ao cap, v = .slice ao l.length cap ∧ Sts w ao l ∧ l.length ≤ cap := by
  have h' := h
  rcases h.2 with ⟨h1, h2⟩ | ⟨g, cap', cur, h1, h2, h3, h4⟩
  · exact ⟨none, 0, by rw [h1, h2], .inl (List.eq_nil_of_length_eq_zero h2), by omega⟩
  · subst h1
    refine ⟨_, _, rfl, .inr ⟨g, 0, rfl, fun k hk => ?_⟩, by omega⟩
    have lt : g < w.heap.size := (Array.getElem?_eq_some_iff.1 h3).1
    have e : ∀ i, i < 14 → w.cell? ⟨g, k * 14 + i, none⟩ = (cellsD1 (l[k]'hk))[i]? := fun i hi => (World.ownsRow.cellAt h' (k * 14 + i) (by omega)).trans (cellsD_at hk hi)
    simp only [Nat.zero_add]
    exact ⟨lt, e 0 (by decide), e 1 (by decide), e 2 (by decide), e 3 (by decide), e 4 (by decide), e 5 (by decide), e 6 (by decide), e 7 (by decide), e 8 (by decide), e 9 (by decide), e 10 (by decide), e 11 (by decide), e 12 (by decide), e 13 (by decide)⟩
/-- Seats appended to the call's own. -/
theorem wpList_append_seats (w : World) {ops : Array Oper} {rest : List Oper} {o : Oper} {a : Act} {Q : Exit → Act → World → Prop} (hgd : o.guard = none) (s x : Operand)
    (ho : o.op = .call { callee := .builtin .append, args := #[s, x], argTypes := #[22, 22] }) (base : Nat) (v : Value) (l : List Sit) (hs : a.eval s = v) (hown : OwnD w base v l)
    (ad : Addr) (n c : Nat) (m : List Sit) (hn : n = m.length) (hx : a.eval x = .slice (some ad) n c) (hq : Sts w (some ad) m) (hlen : l.length ≤ 1000000) (hlenm : m.length ≤ 1000000) (hbase : base ≤ w.heap.size)
    (h : ∀ v' w', OwnD w' base v' (l ++ m) → w.grownBy w' v.ownBlock → wpList Tryz.prog ops Q rest (a.put o.dst v') w') :
    wpList Tryz.prog ops Q (o :: rest) a w := by
  obtain ⟨i0, hi, hz0, hz1, hz2⟩ := info_parts Tryz.info36
  subst hn
  refine wpList_append_own_at w hgd s x 22 ho base 36 i0 (.agg #[.int .i64 0, .string ⟨#[]⟩, .int .i64 0, .int .i64 0, .int .i64 0, .int .i64 0, .int .i64 0, .int .i64 0, .int .i64 0, .int .i64 0, .int .i64 0, .int .i64 0, .int .i64 0, .string ⟨#[]⟩]) 14 128 Tryz.underlying22 hi hz0 hz1 hz2 rfl (by decide) v l.length (cellsD l) hs hown ad m.length c (cellsD m) hx (cellsD_length m) hq.cells cellsD_one ?_ ?_ hbase ?_
  · unfold maxLen; omega
  · omega
  · intro v' w' h1 h2 _ h4
    refine h v' w' ?_ h2
    unfold OwnD
    rw [cellsD_append, List.length_append]
    exact h1
theorem Sts.one (w : World) (s : Sit) (n : Nat) (hn : n = w.heap.size) : Sts (w.alloc (sobj s)) (some ⟨n, 0, none⟩) [s] := by
  subst hn
  refine .inr ⟨w.heap.size, 0, rfl, fun k hk => ?_⟩
  match k, hk with
  | 0, _ => exact (Sf.new w s).bx

end Go.Proofs.YtmmpaaaifdikdaaGreatDoor
