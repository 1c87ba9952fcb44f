/- Knots of a call's own; knots copied. -/
import Derived.Test.YteamcgoemgailaaRefS
import Derived.Test.YteamcgoemgailaaOpen
import Derived.Maps.AppendAt
namespace Go.Proofs.Yteamcgoemgailaa
open Go.RowKit

theorem Try.info31 : (Try.prog.info? 31).map (fun i => (i.zero, i.size, i.bytes)) = some (some (.agg #[.int .i64 0, .int .i64 0]), 2, 16) := by kernel_rfl
/-- Knots as cells. -/
def cellsK1 (b : Kn) : List Value := [.int .i64 b.v, .int .i64 b.s]
def cellsK (l : List Kn) : List Value := l.flatMap cellsK1
theorem cellsK_length (l : List Kn) : (cellsK l).length = l.length * 2 := by
  induction l with
  | nil => rfl
  | cons p ps ih => simp only [cellsK, cellsK1, List.flatMap_cons, List.length_append, List.length_cons, List.length_nil] at ih ⊢; omega
theorem cellsK_append (a b : List Kn) : cellsK (a ++ b) = cellsK a ++ cellsK b := by simp [cellsK]
theorem cellsK_at {l : List Kn} {k i : Nat} (h : k < l.length) (hi : i < 2) : (cellsK l)[k * 2 + i]? = (cellsK1 (l[k]'h))[i]? := by
  have e : l = l.take k ++ l[k]'h :: l.drop (k + 1) := by rw [← List.drop_eq_getElem_cons h, List.take_append_drop]
  have e2 : cellsK l = cellsK (l.take k) ++ (cellsK1 (l[k]'h) ++ cellsK (l.drop (k + 1))) := by
    conv => lhs; rw [e]
    rw [cellsK_append]; rfl
  have hl : (cellsK (l.take k)).length = k * 2 := by rw [cellsK_length, List.length_take, Nat.min_eq_left (by omega)]
  rw [e2, List.getElem?_append_right (by omega), hl, List.getElem?_append_left (by simp [cellsK1]; omega)]
  congr 1
  omega
theorem cellsK_one {l : List Kn} : ∀ u ∈ cellsK l, u.oneCell' = true := by
  intro u hu
  obtain ⟨b, _, hb⟩ := List.mem_flatMap.1 hu
  simp only [cellsK1, List.mem_cons, List.mem_nil_iff, or_false] at hb
  rcases hb with rfl | rfl <;> rfl
theorem Kns.cells {w : World} {ad : Addr} {l : List Kn} (h : Kns w (some ad) l) : ∀ j u, (cellsK l)[j]? = some u → w.cell? (ad.add j) = some u := by
  intro j u hj
  have hlt : j < l.length * 2 := by
    have := (List.getElem?_eq_some_iff.1 hj).1
    rw [cellsK_length] at this
    exact this
  rcases h with rfl | ⟨b, off, e, hc⟩
  · simp at hlt
  · injection e with e
    subst e
    have hk : j / 2 < l.length := by omega
    have hat := cellsK_at (i := j % 2) hk (by omega)
    rw [show j / 2 * 2 + j % 2 = j by omega, hj] at hat
    obtain ⟨_, c0, c1⟩ := hc (j / 2) hk
    rw [Addr.add_lit]
    generalize l[j / 2]'hk = x at *
    rcases (show j % 2 = 0 ∨ j % 2 = 1 by omega) with e | e
    all_goals
      rw [e] at hat
      simp only [cellsK1, List.getElem?_cons_zero, List.getElem?_cons_succ] at hat
      injection hat with hat
      subst hat
    · rw [show off + j = off + j / 2 * 2 by omega]; exact c0
    · rw [show off + j = off + j / 2 * 2 + 1 by omega]; exact c1
/-- The call's own knots. -/
def OwnK (w : World) (base : Nat) (v : Value) (l : List Kn) : Prop := w.ownsRow base 31 2 v l.length (cellsK l)
theorem OwnK.nil (w : World) (base : Nat) : OwnK w base (.slice none 0 0) [] := World.ownsRow_nil w base 31 2
theorem OwnK.alloc {w : World} {base : Nat} {v : Value} {ps : List Kn} (h : OwnK w base v ps) (o : Obj) : OwnK (w.alloc o) base v ps := World.ownsRow.alloc h o
theorem OwnK.drewN {w : World} {base : Nat} {v : Value} {ps : List Kn} (h : OwnK w base v ps) (n : Nat) : OwnK (w.drewN n) base v ps := h
/-- A slice with just these knots. -/
def IsCopy (l : List Kn) (v : Value) (w : World) : Prop := ∃ ao cap, v = .slice ao l.length cap ∧ Kns w ao l ∧ l.length ≤ cap
theorem IsCopy.later {l : List Kn} {v : Value} {w w' : World} (h : IsCopy l v w) (hb : Below w.heap.size w w') : IsCopy l v w' := by
  obtain ⟨ao, cap, h1, h2, h3⟩ := h
  exact ⟨ao, cap, h1, h2.next hb, h3⟩
theorem OwnK.shape {w : World} {base : Nat} {v : Value} {l : List Kn} (h : OwnK w base v l) : IsCopy l v w := by
  have h' := h
  rcases h.2 with ⟨h1, h2⟩ | ⟨g, cap', cur, h1, h2, h3, h4⟩
  · exact ⟨none, 0, by rw [h1, h2], .inl (List.eq_nil_of_length_eq_zero h2), by omega⟩
  · subst h1
    refine ⟨_, _, rfl, .inr ⟨g, 0, rfl, fun k hk => ?_⟩, by omega⟩
    have lt : g < w.heap.size := (Array.getElem?_eq_some_iff.1 h3).1
    have e : ∀ i, i < 2 → w.cell? ⟨g, k * 2 + i, none⟩ = (cellsK1 (l[k]'hk))[i]? := fun i hi => (World.ownsRow.cellAt h' (k * 2 + i) (by omega)).trans (cellsK_at hk hi)
    simp only [Nat.zero_add]
    exact ⟨lt, e 0 (by decide), e 1 (by decide)⟩
/-- Knots appended to the call's own. -/
theorem wpList_append_kn (w : World) {ops : Array Oper} {rest : List Oper} {o : Oper} {a : Act} {Q : Exit → Act → World → Prop} (hgd : o.guard = none) (s x : Operand)
    (ho : o.op = .call { callee := .builtin .append, args := #[s, x], argTypes := #[22, 22] }) (base : Nat) (v : Value) (ps : List Kn) (hs : a.eval s = v) (hown : OwnK w base v ps)
    (ad : Addr) (c : Nat) (l : List Kn) (hx : a.eval x = .slice (some ad) l.length c) (hq : Kns w (some ad) l) (hlen : (ps.length + l.length) * 16 ≤ 140737488355328) (hbase : base ≤ w.heap.size)
    (h : ∀ v' w', OwnK w' base v' (ps ++ l) → w.grownBy w' v.ownBlock → (v'.ownBlock = v.ownBlock ∨ v'.ownBlock = some w.heap.size) → wpList Try.prog ops Q rest (a.put o.dst v') w') :
    wpList Try.prog ops Q (o :: rest) a w := by
  obtain ⟨i0, hi, hz0, hz1, hz2⟩ := info_parts Try.info31
  refine wpList_append_own_at w hgd s x 22 ho base 31 i0 (.agg #[.int .i64 0, .int .i64 0]) 2 16 Try.underlying22 hi hz0 hz1 hz2 rfl (by decide) v ps.length (cellsK ps) hs hown ad l.length c (cellsK l) hx (cellsK_length l) hq.cells cellsK_one ?_ ?_ hbase ?_
  · unfold maxLen; omega
  · exact hlen
  · intro v' w' h1 h2 _ h4
    refine h v' w' ?_ h2 h4
    unfold OwnK
    rw [List.length_append, cellsK_append]; exact h1
set_option maxHeartbeats 800000 in
theorem knots_any (ao : Option Addr) (cap : Nat) (l : List Kn) (w : World) (h : Kns w ao l) (hn : ao = none → cap = 0) (hreach : l.length * 16 ≤ 140737488351232) :
    Calls Try.prog 8 #[.slice ao l.length cap] w fun e w' => ∃ v, e = .returned v ∧ IsCopy l v w' ∧ Below w.heap.size w w' := by
  have HF : Hid (Kns w ao l) := h
  clear h
  cases ao with
  | none =>
    obtain rfl : l = [] := by
      rcases HF.out with h | ⟨b, off, h, _⟩
      · exact h
      · cases h
    rw [hn rfl]
    have HC : Hid (IsCopy [] (.slice none 0 0) w) := ⟨none, 0, rfl, Kns.nil _ _, Nat.le_refl _⟩
    simp only [List.length_nil]
    go_enter Try.func8, Try.ntmps8
    go_wp2
    go_ret
    exact ⟨_, rfl, HC.out, Below.refl _ _⟩
  | some a =>
    clear hn
    go_enter Try.func8, Try.ntmps8
    go_wp2_with (at_builtin; refine wpList_append_kn _ rfl (.const (.slice none 0 0)) (.tmp 3) rfl w.heap.size (.slice none 0 0) [] rfl (OwnK.nil _ _) a cap l rfl HF.out (by simp; omega) (Nat.le_refl _) ?_; intro v' w1 ho hg _)
    go_ret
    exact ⟨v', rfl, by simpa using ho.shape, (Below.refl _ _).grown hg (Nat.le_refl _) (fun k hk => by cases hk)⟩
end Go.Proofs.Yteamcgoemgailaa
