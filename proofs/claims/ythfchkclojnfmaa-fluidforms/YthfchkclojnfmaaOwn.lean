/- Fluids of a call's own; fluid.behind walked. -/
import Derived.Test.YthfchkclojnfmaaRefu
namespace Go.Proofs.Ythfchkclojnfmaa
open Go.RowKit

theorem Try.info46 : (Try.prog.info? 46).map (fun i => (i.zero, i.size, i.bytes)) = some (some (.agg #[.string ⟨#[]⟩, .int .i64 0]), 2, 24) := by kernel_rfl

/-- Parcels as cells. -/
def cellsL (ps : List Pc) : List Value := ps.flatMap fun p => [.string p.1, .int .i64 p.2]
theorem cellsL_length (ps : List Pc) : (cellsL ps).length = ps.length * 2 := by
  induction ps with
  | nil => rfl
  | cons p ps ih => simp only [cellsL, List.flatMap_cons, List.length_append, List.length_cons, List.length_nil] at ih ⊢; omega
theorem cellsL_append (a b : List Pc) : cellsL (a ++ b) = cellsL a ++ cellsL b := by simp [cellsL]
theorem cellsL_one (p : Pc) : cellsL [p] = [.string p.1, .int .i64 p.2] := by simp [cellsL]
theorem cellsL_at {ps : List Pc} {k : Nat} (h : k < ps.length) : (cellsL ps)[k * 2]? = some (.string (ps[k]'h).1) ∧ (cellsL ps)[k * 2 + 1]? = some (.int .i64 (ps[k]'h).2) := by
  have e : ps = ps.take k ++ ps[k]'h :: ps.drop (k + 1) := by rw [← List.drop_eq_getElem_cons h, List.take_append_drop]
  have e2 : cellsL ps = cellsL (ps.take k) ++ ([.string (ps[k]'h).1, .int .i64 (ps[k]'h).2] ++ cellsL (ps.drop (k + 1))) := by
    conv => lhs; rw [e]
    rw [cellsL_append]; rfl
  have hl : (cellsL (ps.take k)).length = k * 2 := by rw [cellsL_length, List.length_take, Nat.min_eq_left (by omega)]
  rw [e2]
  constructor
  · rw [List.getElem?_append_right (by omega), hl]; simp
  · rw [List.getElem?_append_right (by omega), hl]; simp

/-- The call's own fluid. -/
def Own (w : World) (base : Nat) (v : Value) (ps : List Pc) : Prop := w.ownsRow base 46 2 v ps.length (cellsL ps)
theorem Own.nil (w : World) (base : Nat) : Own w base (.slice none 0 0) [] := World.ownsRow_nil w base 46 2
theorem Own.shape {w : World} {base : Nat} {v : Value} {ps : List Pc} (h : Own w base v ps) : ∃ ao cap, v = .slice ao ps.length cap := by
  rcases h.2 with ⟨h1, h2⟩ | ⟨g, cap, cur, h1, _⟩
  · exact ⟨none, 0, by rw [h1, h2]⟩
  · exact ⟨_, _, h1⟩
theorem Own.fl {w : World} {base : Nat} {ao : Option Addr} {n cap : Nat} {ps : List Pc} (h : Own w base (.slice ao n cap) ps) (hs : ∀ p ∈ ps, p.1.size ≤ maxLen) : Fl w ao ps := by
  refine ⟨hs, ?_⟩
  rcases h.2 with ⟨h1, h2⟩ | ⟨g, cap', cur, h1, h2, h3, h4⟩
  · exact .inl (List.eq_nil_of_length_eq_zero h2)
  · simp only [Value.slice.injEq] at h1
    obtain ⟨rfl, rfl, rfl⟩ := h1
    refine .inr ⟨g, 0, rfl, (Array.getElem?_eq_some_iff.1 h3).1, fun k hk => ?_⟩
    have c := cellsL_at hk
    have e1 := World.ownsRow.cellAt h (k * 2) (by omega)
    have e2 := World.ownsRow.cellAt h (k * 2 + 1) (by omega)
    simp only [Nat.zero_add]
    exact ⟨e1.trans c.1, e2.trans c.2⟩
theorem Own.kept {w w' : World} {base : Nat} {v : Value} {ps : List Pc} {row : Option Nat} (h : Own w base v ps) (hg : w.grownBy w' row) (hne : v.ownBlock = none ∨ v.ownBlock ≠ row) : Own w' base v ps := World.ownsRow.kept h hg hne
theorem Own.alloc {w : World} {base : Nat} {v : Value} {ps : List Pc} (h : Own w base v ps) (o : Obj) : Own (w.alloc o) base v ps := World.ownsRow.alloc h o

/-- Where the fluid that came of another one lies. -/
def Loc (w : World) (v v' : Value) : Prop := v'.ownBlock = v.ownBlock ∨ ∃ g, v'.ownBlock = some g ∧ w.heap.size ≤ g

set_option maxHeartbeats 800000 in
theorem behind_zero_any (base : Nat) (v : Value) (acc : List Pc) (l : ByteArray) (w : World) (hown : Own w base v acc) :
    Calls Try.prog 38 #[v, .agg #[.string l, .int .i64 0]] w fun e w' => ∃ v', e = .returned v' ∧ Own w' base v' (behind acc (l, 0)) ∧ w.grownBy w' v.ownBlock ∧ Loc w v v' := by
  have HO : Hid (Own w base v acc) := hown
  clear hown
  obtain ⟨ao, cap, rfl⟩ := HO.out.shape
  go_enter Try.func38, Try.ntmps38
  go_wp2
  go_ret
  exact ⟨_, rfl, by rw [behind_zero rfl]; exact HO.out.alloc _, World.grownBy_alloc _ _ _, .inl rfl⟩

theorem Own.drewN {w : World} {base : Nat} {v : Value} {ps : List Pc} (h : Own w base v ps) (n : Nat) : Own (w.drewN n) base v ps := h
theorem grown_drewN {w w' : World} {row : Option Nat} (h : w.grownBy w' row) (n : Nat) : w.grownBy (w'.drewN n) row := ⟨h.os, h.tape, h.output, h.size, h.block⟩
theorem grown_trans {w w' w'' : World} {row : Option Nat} (h : w.grownBy w' row) (k : w'.grownBy w'' row) : w.grownBy w'' row := h.trans k
theorem grown_setCell (w : World) (g o : Nat) (u : Value) : w.grownBy (w.setCell ⟨g, o, none⟩ u) (some g) :=
  ⟨rfl, rfl, rfl, by simp [World.setCell], fun k _ hk => Below.heap_setCell w ⟨g, o, none⟩ u k (fun e => hk (by simp [e]))⟩

/-- One parcel appended to the call's own fluid. -/
theorem wpList_append_pc (w : World) {ops : Array Oper} {rest : List Oper} {o : Oper} {a : Act} {Q : Exit → Act → World → Prop} (hgd : o.guard = none) (s x : Operand)
    (ho : o.op = .call { callee := .builtin .append, args := #[s, x], argTypes := #[22, 22] }) (base : Nat) (v : Value) (ps : List Pc) (hs : a.eval s = v) (hown : Own w base v ps)
    (b : Nat) (l : ByteArray) (n : Int) (hx : a.eval x = .slice (some ⟨b, 0, none⟩) 1 1) (h0 : w.cell? ⟨b, 0, none⟩ = some (.string l)) (h1 : w.cell? ⟨b, 1, none⟩ = some (.int .i64 n))
    (hlen : ps.length ≤ 1000000000000) (hbase : base ≤ w.heap.size)
    (h : ∀ v' w', Own w' base v' (ps ++ [(l, n)]) → w.grownBy w' v.ownBlock → Loc w v v' → wpList Try.prog ops Q rest (a.put o.dst v') w') :
    wpList Try.prog ops Q (o :: rest) a w := by
  obtain ⟨i0, hi, hz0, hz1, hz2⟩ := info_parts Try.info46
  refine wpList_append_own_at w hgd s x 22 ho base 46 i0 (.agg #[.string ⟨#[]⟩, .int .i64 0]) 2 24 Try.underlying22 hi hz0 hz1 hz2 rfl (by decide) v ps.length (cellsL ps) hs hown ⟨b, 0, none⟩ 1 1 [.string l, .int .i64 n] hx rfl ?_ ?_ ?_ ?_ hbase ?_
  · intro j u hj
    match j, hj with
    | 0, hj => simp at hj; subst hj; simpa [Addr.add] using h0
    | 1, hj => simp at hj; subst hj; simpa [Addr.add] using h1
  · intro u hu
    simp at hu
    rcases hu with rfl | rfl <;> rfl
  · unfold maxLen; omega
  · omega
  · intro v' w' h1 h2 _ h4
    refine h v' w' ?_ h2 (h4.imp id fun e => ⟨_, e, Nat.le_refl _⟩)
    unfold Own
    rw [cellsL_append, cellsL_one, List.length_append]
    exact h1

theorem ba_ne {a b : ByteArray} (h : a ≠ b) : (a.toList == b.toList) = false := by
  rw [beq_eq_false_iff_ne]
  intro e
  apply h
  rw [ByteArray.toList_eq, ByteArray.toList_eq] at e
  exact ByteArray.ext (Array.ext' e)
theorem Loc.back {w w1 : World} {v v' : Value} (h : Loc w1 v v') (hs : w.heap.size ≤ w1.heap.size) : Loc w v v' := h.imp id fun ⟨g, e, hg⟩ => ⟨g, e, Nat.le_trans hs hg⟩

/-- The last parcel of the call's own fluid. -/
theorem Own.last {w : World} {base : Nat} {v : Value} {acc : List Pc} {q : Pc} (h : Own w base v (acc ++ [q])) :
    ∃ g cap, v = .slice (some ⟨g, 0, none⟩) (acc.length + 1) cap ∧ g < w.heap.size ∧ w.cell? ⟨g, acc.length * 2, none⟩ = some (.string q.1) ∧ w.cell? ⟨g, acc.length * 2 + 1, none⟩ = some (.int .i64 q.2) ∧ w.frozen? ⟨g, acc.length * 2 + 1, none⟩ = false ∧ base ≤ g := by
  have hl : (acc ++ [q]).length = acc.length + 1 := by simp
  rcases h.2 with ⟨h1, h2⟩ | ⟨g, cap, cur, h1, h2, h3, h4⟩
  · rw [hl] at h2; omega
  · subst h1
    have c := cellsL_at (ps := acc ++ [q]) (k := acc.length) (by simp)
    simp only [List.getElem_append_right (Nat.le_refl _), Nat.sub_self, List.getElem_cons_zero] at c
    have e1 := World.ownsRow.cellAt h (acc.length * 2) (by rw [hl]; omega)
    have e2 := World.ownsRow.cellAt h (acc.length * 2 + 1) (by rw [hl]; omega)
    exact ⟨g, cap, by rw [hl], (Array.getElem?_eq_some_iff.1 h3).1, e1.trans c.1, e2.trans c.2, World.ownsRow.frozenAt h _, h2⟩

set_option maxHeartbeats 800000 in
theorem behind_first_any (base : Nat) (v : Value) (l : ByteArray) (n : Int) (w : World) (hown : Own w base v []) (hn : 0 < n) (hbase : base ≤ w.heap.size) :
    Calls Try.prog 38 #[v, .agg #[.string l, .int .i64 n]] w fun e w' => ∃ v', e = .returned v' ∧ Own w' base v' (behind [] (l, n)) ∧ w.grownBy w' v.ownBlock ∧ Loc w v v' := by
  have HO : Hid (Own w base v []) := hown
  clear hown
  obtain ⟨ao, cap, rfl⟩ := HO.out.shape
  have hnz : (n == 0) = false := by simp; omega
  simp only [List.length_nil] at HO ⊢
  go_enter Try.func38, Try.ntmps38
  go_wp2
  go_big_quiet (fail)
  go_wp2_with (at_builtin; refine wpList_append_pc _ rfl (.tmp 36) (.tmp 38) rfl base (.slice ao 0 cap) [] rfl (((HO.out.alloc _).drewN nq).alloc _) (w.heap.size + 1) l n rfl (by go_simp) (by go_simp) (by simp) (by simp; omega) ?_; intro v' w1 hown1 hg hloc)
  go_ret
  refine ⟨_, rfl, ?_, ?_, hloc.back (by simp; omega)⟩
  · rw [behind_nil (by simp only; omega)]; exact hown1
  · exact ((World.grownBy_alloc w _ _).trans (grown_drewN (World.grownBy_alloc _ _ _) nq)).trans hg

set_option maxHeartbeats 800000 in
theorem behind_other_any (base : Nat) (v : Value) (acc : List Pc) (q : Pc) (l : ByteArray) (n : Int) (w : World) (hown : Own w base v (acc ++ [q])) (hn : 0 < n) (hne : q.1 ≠ l) (hl : acc.length ≤ 1000000) (hbase : base ≤ w.heap.size) :
    Calls Try.prog 38 #[v, .agg #[.string l, .int .i64 n]] w fun e w' => ∃ v', e = .returned v' ∧ Own w' base v' (behind (acc ++ [q]) (l, n)) ∧ w.grownBy w' v.ownBlock ∧ Loc w v v' := by
  have HO : Hid (Own w base v (acc ++ [q])) := hown
  clear hown
  obtain ⟨g, cap, rfl, hg, c0, c1, f1, hbg⟩ := HO.out.last
  have HN : Hid (q.1 ≠ l) := hne
  clear hne
  have hnz : (n == 0) = false := by simp; omega
  have hlb : (q.1.toList == l.toList) = false := ba_ne HN.out
  go_enter Try.func38, Try.ntmps38
  go_wp2
  go_big_quiet (fail)
  go_wp2_with (at_builtin; refine wpList_append_pc _ rfl (.tmp 36) (.tmp 38) rfl base (.slice (some ⟨g, 0, none⟩) (acc.length + 1) cap) (acc ++ [q]) rfl (((HO.out.alloc _).drewN nq).alloc _) (w.heap.size + 1) l n rfl (by go_simp) (by go_simp) (by simp; omega) (by simp; omega) ?_; intro v' w1 hown1 hg hloc)
  go_ret
  refine ⟨_, rfl, ?_, ?_, hloc.back (by simp; omega)⟩
  · rw [behind_other (by simp only; omega) HN.out]; exact hown1
  · exact ((World.grownBy_alloc w _ _).trans (grown_drewN (World.grownBy_alloc _ _ _) nq)).trans hg

set_option maxHeartbeats 800000 in
theorem behind_same_any (base : Nat) (v : Value) (acc : List Pc) (m : Int) (l : ByteArray) (n : Int) (w : World) (hown : Own w base v (acc ++ [(l, m)])) (hn : 0 < n) (hn2 : n ≤ 1000000000000) (hm : 0 ≤ m) (hm2 : m ≤ 1000000000000) (hl : acc.length ≤ 1000000) :
    Calls Try.prog 38 #[v, .agg #[.string l, .int .i64 n]] w fun e w' => ∃ v', e = .returned v' ∧ Own w' base v' (behind (acc ++ [(l, m)]) (l, n)) ∧ w.grownBy w' v.ownBlock ∧ Loc w v v' := by
  have HO : Hid (Own w base v (acc ++ [(l, m)])) := hown
  clear hown
  obtain ⟨g, cap, rfl, hg, c0, c1, f1, hbg⟩ := HO.out.last
  simp only at c0 c1
  have hnz : (n == 0) = false := by simp; omega
  have hgn : g ≠ w.heap.size := by omega
  go_enter Try.func38, Try.ntmps38
  go_wp2
  go_big_quiet (fail)
  go_wp2
  go_region
  go_wp2
  go_ret
  refine ⟨.slice (some ⟨g, 0, none⟩) (acc.length + 1) cap, rfl, ?_, ?_, .inl rfl⟩
  · rw [behind_same (q := (l, m)) (p := (l, n)) (by simp only; omega) rfl]
    have h0 := (HO.out.alloc (.cells #[.string l, .int .i64 n] 46)).drewN (nq + 1)
    unfold Own at h0
    rw [List.length_append, List.length_singleton] at h0
    have h1 := (World.ownsRow.stored h0 (acc.length * 2 + 1) (.int .i64 (m + n))).1
    unfold Own
    rw [cellsL_append, cellsL_one, List.length_append, List.length_singleton]
    rw [cellsL_append, cellsL_one, List.set_append_right _ _ (by rw [cellsL_length]; omega), cellsL_length, show acc.length * 2 + 1 - acc.length * 2 = 1 by omega] at h1
    exact h1
  · exact (grown_drewN (World.grownBy_alloc w _ _) _).trans (grown_setCell _ _ _ _)

/-- One parcel behind a fluid of the call's own. -/
theorem behind_any (base : Nat) (v : Value) (acc : List Pc) (l : ByteArray) (n : Int) (w : World) (hown : Own w base v acc) (hn : 0 ≤ n) (hn2 : n ≤ 1000000000000) (hm : ∀ q ∈ acc, 0 ≤ q.2 ∧ q.2 ≤ 1000000000000) (hl : acc.length ≤ 1000000) (hbase : base ≤ w.heap.size) :
    Calls Try.prog 38 #[v, .agg #[.string l, .int .i64 n]] w fun e w' => ∃ v', e = .returned v' ∧ Own w' base v' (behind acc (l, n)) ∧ w.grownBy w' v.ownBlock ∧ Loc w v v' := by
  by_cases h : n = 0
  · subst h; exact behind_zero_any base v acc l w hown
  · rcases snoc_cases acc with rfl | ⟨a, q, rfl⟩
    · exact behind_first_any base v l n w hown (by omega) hbase
    · have hq := hm q (by simp)
      have hl' : a.length ≤ 1000000 := by simp at hl; omega
      by_cases e : q.1 = l
      · obtain ⟨l', m⟩ := q
        simp only at e hq
        subst e
        exact behind_same_any base v a m l' n w hown (by omega) hn2 hq.1 hq.2 hl'
      · exact behind_other_any base v a q l n w hown (by omega) e hl' hbase
end Go.Proofs.Ythfchkclojnfmaa
