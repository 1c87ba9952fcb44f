/- Plain forms, drawing, plainly; fluid.behind, plain walked. -/
import Derived.Test.YtjappkfhballhaaGreatFB
namespace Go.Proofs.YtjappkfhballhaaGreat.F
open Go.RowKit

/-- One parcel behind a plain form. -/
def behind (acc : List Pc) (p : Pc) : List Pc :=
  if p.2 = 0 then acc else
  match acc.getLast? with
  | some q => if q.1 = p.1 then acc.dropLast ++ [(q.1, q.2 + p.2)] else acc ++ [p]
  | none => [p]
def plainL (ps : List Pc) : List Pc := ps.foldl behind []

theorem behind_zero {acc : List Pc} {p : Pc} (h : p.2 = 0) : behind acc p = acc := if_pos h
theorem behind_nil {p : Pc} (h : p.2 ≠ 0) : behind [] p = [p] := by unfold behind; rw [if_neg h]; rfl
theorem behind_same {a : List Pc} {q p : Pc} (h : p.2 ≠ 0) (e : q.1 = p.1) : behind (a ++ [q]) p = a ++ [(q.1, q.2 + p.2)] := by
  unfold behind; rw [if_neg h]; simp [e]
theorem behind_other {a : List Pc} {q p : Pc} (h : p.2 ≠ 0) (e : q.1 ≠ p.1) : behind (a ++ [q]) p = a ++ [q] ++ [p] := by
  unfold behind; rw [if_neg h]; simp [e]
theorem snoc_cases (l : List Pc) : l = [] ∨ ∃ a q, l = a ++ [q] := by
  rcases List.eq_nil_or_concat l with h | ⟨a, q, h⟩
  · exact .inl h
  · exact .inr ⟨a, q, by simpa using h⟩
theorem tot_behind (acc : List Pc) (p : Pc) : tot (behind acc p) = tot acc + p.2 := by
  by_cases h : p.2 = 0
  · rw [behind_zero h]; omega
  · rcases snoc_cases acc with rfl | ⟨a, q, rfl⟩
    · rw [behind_nil h]; simp [tot]
    · by_cases e : q.1 = p.1
      · rw [behind_same h e, tot_snoc, tot_snoc]; simp only; omega
      · rw [behind_other h e, tot_snoc]
theorem length_behind (acc : List Pc) (p : Pc) : (behind acc p).length ≤ acc.length + 1 := by
  by_cases h : p.2 = 0
  · rw [behind_zero h]; omega
  · rcases snoc_cases acc with rfl | ⟨a, q, rfl⟩
    · rw [behind_nil h]; simp
    · by_cases e : q.1 = p.1
      · rw [behind_same h e]; simp
      · rw [behind_other h e]; simp
theorem plainL_snoc (a : List Pc) (p : Pc) : plainL (a ++ [p]) = behind (plainL a) p := by unfold plainL; rw [List.foldl_append]; rfl
theorem tot_plainL (ps : List Pc) : tot (plainL ps) = tot ps := by
  induction ps using snoc_ind with
  | h0 => rfl
  | h1 a p ih => rw [plainL_snoc, tot_behind, ih, tot_snoc]
theorem length_plainL (ps : List Pc) : (plainL ps).length ≤ ps.length := by
  induction ps using snoc_ind with
  | h0 => simp [plainL]
  | h1 a p ih => have := length_behind (plainL a) p; rw [plainL_snoc]; simp; omega

/-- A property of labels that holds of all parcels. -/
theorem behind_all {C : ByteArray → Prop} {acc : List Pc} {p : Pc} (ha : ∀ q ∈ acc, C q.1 ∧ 0 ≤ q.2) (hp : C p.1 ∧ 0 ≤ p.2) : ∀ q ∈ behind acc p, C q.1 ∧ 0 ≤ q.2 := by
  by_cases h : p.2 = 0
  · rw [behind_zero h]; exact ha
  · rcases snoc_cases acc with rfl | ⟨a, q, rfl⟩
    · rw [behind_nil h]; intro r hr; simp at hr; subst hr; exact hp
    · have hq := ha q (by simp)
      by_cases e : q.1 = p.1
      · rw [behind_same h e]; intro r hr
        rcases List.mem_append.1 hr with hr | hr
        · exact ha r (by simp [hr])
        · simp at hr; subst hr; exact ⟨hq.1, by simp only; omega⟩
      · rw [behind_other h e]; intro r hr
        rcases List.mem_append.1 hr with hr | hr
        · exact ha r hr
        · simp at hr; subst hr; exact hp
theorem plainL_all {C : ByteArray → Prop} {ps : List Pc} (h : ∀ q ∈ ps, C q.1 ∧ 0 ≤ q.2) : ∀ q ∈ plainL ps, C q.1 ∧ 0 ≤ q.2 := by
  induction ps using snoc_ind with
  | h0 => intro q hq; cases hq
  | h1 a p ih =>
    rw [plainL_snoc]
    exact behind_all (ih (fun q hq => h q (by simp [hq]))) (h p (by simp))
theorem le_tot {ps : List Pc} (h : Nn ps) : ∀ p ∈ ps, p.2 ≤ tot ps := by
  induction ps with
  | nil => intro p hp; cases hp
  | cons q ps ih =>
    intro p hp
    have h1 := h q (by simp)
    have h2 : Nn ps := fun r hr => h r (by simp [hr])
    have h3 := tot_nonneg h2
    simp only [tot]
    rcases List.mem_cons.1 hp with rfl | hp
    · omega
    · have := ih h2 p hp; omega
/-- A list with labels that may be and volumes from 0 on, all together within the greatest. -/
theorem fine_mk {ps : List Pc} (h : ∀ q ∈ ps, lab q.1 = true ∧ 0 ≤ q.2) (ht : tot ps ≤ 1000000000) : Fine ps := fun p hp =>
  ⟨(h p hp).1, (h p hp).2, by have := le_tot (fun q hq => (h q hq).2) p hp; omega⟩
theorem Fine.weak {ps : List Pc} (h : Fine ps) : ∀ q ∈ ps, lab q.1 = true ∧ 0 ≤ q.2 := fun q hq => ⟨(h q hq).1, (h q hq).2.1⟩
theorem fine_plainL {ps : List Pc} (h : Fine ps) (ht : tot ps ≤ 1000000000) : Fine (plainL ps) := fine_mk (plainL_all (C := fun s => lab s = true) h.weak) (by rw [tot_plainL]; exact ht)
theorem nn_plainL {ps : List Pc} (h : Nn ps) : Nn (plainL ps) := fun p hp => (plainL_all (C := fun _ => True) (fun q hq => ⟨trivial, h q hq⟩) p hp).2

/-! ### drawing -/
/-- One parcel more drawn from: taken, left, and how much is still to be taken. -/
def step (s : List Pc × List Pc × Int) (p : Pc) : List Pc × List Pc × Int :=
  (behind s.1 (p.1, min p.2 s.2.2), behind s.2.1 (p.1, p.2 - min p.2 s.2.2), s.2.2 - min p.2 s.2.2)
def drawS (v : Int) (ps : List Pc) : List Pc × List Pc × Int := ps.foldl step ([], [], v)
/-- The same, the document's way. -/
def rstep (s : List Pc × List Pc × Int) (p : Pc) : List Pc × List Pc × Int :=
  if p.2 ≤ s.2.2 then (s.1 ++ [p], s.2.1, s.2.2 - p.2) else (s.1 ++ [(p.1, s.2.2)], s.2.1 ++ [(p.1, p.2 - s.2.2)], 0)
def drawR (v : Int) (ps : List Pc) : List Pc × List Pc × Int := ps.foldl rstep ([], [], v)

theorem drawS_snoc (v : Int) (a : List Pc) (p : Pc) : drawS v (a ++ [p]) = step (drawS v a) p := by unfold drawS; rw [List.foldl_append]; rfl
theorem drawR_snoc (v : Int) (a : List Pc) (p : Pc) : drawR v (a ++ [p]) = rstep (drawR v a) p := by unfold drawR; rw [List.foldl_append]; rfl
theorem drawS_v {v : Int} (h : 0 ≤ v) {ps : List Pc} (hn : Nn ps) : 0 ≤ (drawS v ps).2.2 ∧ (drawS v ps).2.2 ≤ v := by
  induction ps using snoc_ind with
  | h0 => exact ⟨h, Int.le_refl _⟩
  | h1 a p ih =>
    have := ih (fun q hq => hn q (by simp [hq]))
    have hp := hn p (by simp)
    rw [drawS_snoc]
    simp only [step]; omega
theorem draw_same {v : Int} (h : 0 ≤ v) {ps : List Pc} (hn : Nn ps) : drawS v ps = (plainL (drawR v ps).1, plainL (drawR v ps).2.1, (drawR v ps).2.2) ∧ Nn (drawR v ps).1 ∧ Nn (drawR v ps).2.1 := by
  induction ps using snoc_ind with
  | h0 => exact ⟨rfl, (fun _ h => by cases h), (fun _ h => by cases h)⟩
  | h1 a p ih =>
    have hna : Nn a := fun q hq => hn q (by simp [hq])
    obtain ⟨i1, i2, i3⟩ := ih hna
    have hv := drawS_v h hna
    have hp := hn p (by simp)
    rw [drawS_snoc, drawR_snoc]
    rw [i1] at hv ⊢
    simp only at hv
    generalize drawR v a = s at *
    unfold rstep
    split
    · rename_i hc
      refine ⟨?_, i2.snoc hp, i3⟩
      simp only [step, Int.min_eq_left hc, plainL_snoc, Int.sub_self]
      rw [behind_zero (acc := plainL s.2.1) rfl]
    · rename_i hc
      refine ⟨?_, i2.snoc (by simp only; omega), i3.snoc (by simp only; omega)⟩
      simp only [step, Int.min_eq_right (by omega : s.2.2 ≤ p.2), plainL_snoc, Int.sub_self]
theorem length_drawS (v : Int) (ps : List Pc) : (drawS v ps).1.length ≤ ps.length ∧ (drawS v ps).2.1.length ≤ ps.length := by
  induction ps using snoc_ind with
  | h0 => simp [drawS]
  | h1 a p ih =>
    rw [drawS_snoc]
    have h1 := length_behind (drawS v a).1 (p.1, min p.2 (drawS v a).2.2)
    have h2 := length_behind (drawS v a).2.1 (p.1, p.2 - min p.2 (drawS v a).2.2)
    simp only [step, List.length_append, List.length_singleton]
    omega
theorem tot_drawS (v : Int) (ps : List Pc) : tot (drawS v ps).1 + tot (drawS v ps).2.1 = tot ps ∧ tot (drawS v ps).1 + (drawS v ps).2.2 = v := by
  induction ps using snoc_ind with
  | h0 => simp [drawS, tot]
  | h1 a p ih =>
    rw [drawS_snoc, tot_snoc]
    simp only [step, tot_behind]
    omega
theorem drawS_all {C : ByteArray → Prop} {v : Int} (h : 0 ≤ v) {ps : List Pc} (hn : ∀ q ∈ ps, C q.1 ∧ 0 ≤ q.2) : (∀ q ∈ (drawS v ps).1, C q.1 ∧ 0 ≤ q.2) ∧ (∀ q ∈ (drawS v ps).2.1, C q.1 ∧ 0 ≤ q.2) := by
  induction ps using snoc_ind with
  | h0 => exact ⟨(fun q hq => by cases hq), (fun q hq => by cases hq)⟩
  | h1 a p ih =>
    have hna : ∀ q ∈ a, C q.1 ∧ 0 ≤ q.2 := fun q hq => hn q (by simp [hq])
    obtain ⟨i1, i2⟩ := ih hna
    have hv := drawS_v h (ps := a) (fun q hq => (hna q hq).2)
    have hp := hn p (by simp)
    rw [drawS_snoc]
    simp only [step]
    exact ⟨behind_all i1 ⟨hp.1, by simp only; omega⟩, behind_all i2 ⟨hp.1, by simp only; omega⟩⟩
/-- What is left to be taken: nothing, where there is enough. -/
theorem drawS_enough {v : Int} (h : 0 ≤ v) {ps : List Pc} (hn : Nn ps) (hv : v ≤ tot ps) : (drawS v ps).2.2 = 0 := by
  have key : ∀ ps : List Pc, Nn ps → (drawS v ps).2.2 = max (v - tot ps) 0 := by
    intro ps
    induction ps using snoc_ind with
    | h0 => intro _; simp only [drawS, List.foldl_nil, tot]; omega
    | h1 a p ih =>
      intro hn
      have := ih (fun q hq => hn q (by simp [hq]))
      have hp := hn p (by simp)
      have ha := tot_nonneg (ps := a) (fun q hq => hn q (by simp [hq]))
      rw [drawS_snoc, tot_snoc]
      simp only [step]; omega
  rw [key ps hn]; omega


theorem Tryz.info65 : (Tryz.prog.info? 65).map (fun i => (i.zero, i.size, i.bytes)) = some (some (.agg #[.string ⟨#[]⟩, .int .i64 0]), 2, 24) := by kernel_rfl

/-- Parcels as cells. -/
def cellsL (ps : List Pc) : List Value := ps.flatMap fun p => [.string p.1, .int .i64 p.2]
theorem cellsL_length (ps : List Pc) : (cellsL ps).length = ps.length * 2 := by
  induction ps with
  | nil => rfl
  | cons p ps ih => simp only [cellsL, List.flatMap_cons, List.length_append, List.length_cons, List.length_nil] at ih ⊢; omega
theorem cellsL_append (a b : List Pc) : cellsL (a ++ b) = cellsL a ++ cellsL b := by simp [cellsL]
theorem cellsL_one (p : Pc) : cellsL [p] = [.string p.1, .int .i64 p.2] := by simp [cellsL]
theorem cellsL_at {ps : List Pc} {k : Nat} (h : k < ps.length) : (cellsL ps)[k * 2]? = some (.string (ps[k]'h).1) ∧ (cellsL ps)[k * 2 + 1]? = some (.int .i64 (ps[k]'h).2) := by
  have e : ps = ps.take k ++ ps[k]'h :: ps.drop (k + 1) := by rw [← List.drop_eq_getElem_cons h, List.take_append_drop]
  have e2 : cellsL ps = cellsL (ps.take k) ++ ([.string (ps[k]'h).1, .int .i64 (ps[k]'h).2] ++ cellsL (ps.drop (k + 1))) := by
    conv => lhs; rw [e]
    rw [cellsL_append]; rfl
  have hl : (cellsL (ps.take k)).length = k * 2 := by rw [cellsL_length, List.length_take, Nat.min_eq_left (by omega)]
  rw [e2]
  constructor
  · rw [List.getElem?_append_right (by omega), hl]; simp
  · rw [List.getElem?_append_right (by omega), hl]; simp

/-- The call's own fluid. -/
def Own (w : World) (base : Nat) (v : Value) (ps : List Pc) : Prop := w.ownsRow base 65 2 v ps.length (cellsL ps)
theorem Own.nil (w : World) (base : Nat) : Own w base (.slice none 0 0) [] := World.ownsRow_nil w base 65 2
theorem Own.shape {w : World} {base : Nat} {v : Value} {ps : List Pc} (h : Own w base v ps) : ∃ ao cap, v = .slice ao ps.length cap := by
  rcases h.2 with ⟨h1, h2⟩ | ⟨g, cap, cur, h1, _⟩
  · exact ⟨none, 0, by rw [h1, h2]⟩
  · exact ⟨_, _, h1⟩
theorem Own.fl {w : World} {base : Nat} {ao : Option Addr} {n cap : Nat} {ps : List Pc} (h : Own w base (.slice ao n cap) ps) (hs : ∀ p ∈ ps, p.1.size ≤ maxLen) : Fl w ao ps := by
  refine ⟨hs, ?_⟩
  rcases h.2 with ⟨h1, h2⟩ | ⟨g, cap', cur, h1, h2, h3, h4⟩
  · exact .inl (List.eq_nil_of_length_eq_zero h2)
  · simp only [Value.slice.injEq] at h1
    obtain ⟨rfl, rfl, rfl⟩ := h1
    refine .inr ⟨g, 0, rfl, (Array.getElem?_eq_some_iff.1 h3).1, fun k hk => ?_⟩
    have c := cellsL_at hk
    have e1 := World.ownsRow.cellAt h (k * 2) (by omega)
    have e2 := World.ownsRow.cellAt h (k * 2 + 1) (by omega)
    simp only [Nat.zero_add]
    exact ⟨e1.trans c.1, e2.trans c.2⟩
theorem Own.kept {w w' : World} {base : Nat} {v : Value} {ps : List Pc} {row : Option Nat} (h : Own w base v ps) (hg : w.grownBy w' row) (hne : v.ownBlock = none ∨ v.ownBlock ≠ row) : Own w' base v ps := World.ownsRow.kept h hg hne
theorem Own.alloc {w : World} {base : Nat} {v : Value} {ps : List Pc} (h : Own w base v ps) (o : Obj) : Own (w.alloc o) base v ps := World.ownsRow.alloc h o

/-- Where the fluid that came of another one lies. -/
def Loc (w : World) (v v' : Value) : Prop := v'.ownBlock = v.ownBlock ∨ ∃ g, v'.ownBlock = some g ∧ w.heap.size ≤ g

set_option maxHeartbeats 800000 in
theorem behind_zero_any (base : Nat) (v : Value) (acc : List Pc) (l : ByteArray) (w : World) (hown : Own w base v acc) :
    Calls Tryz.prog 139 #[v, .agg #[.string l, .int .i64 0]] w fun e w' => ∃ v', e = .returned v' ∧ Own w' base v' (behind acc (l, 0)) ∧ w.grownBy w' v.ownBlock ∧ Loc w v v' := by
  have HO : Hid (Own w base v acc) := hown
  clear hown
  obtain ⟨ao, cap, rfl⟩ := HO.out.shape
  go_enter Tryz.func139, Tryz.ntmps139
  go_wp2
  go_ret
  exact ⟨_, rfl, by rw [behind_zero rfl]; exact HO.out.alloc _, World.grownBy_alloc _ _ _, .inl rfl⟩

theorem Own.drewN {w : World} {base : Nat} {v : Value} {ps : List Pc} (h : Own w base v ps) (n : Nat) : Own (w.drewN n) base v ps := h
theorem grown_drewN {w w' : World} {row : Option Nat} (h : w.grownBy w' row) (n : Nat) : w.grownBy (w'.drewN n) row := ⟨h.os, h.tape, h.output, h.size, h.block⟩
theorem grown_trans {w w' w'' : World} {row : Option Nat} (h : w.grownBy w' row) (k : w'.grownBy w'' row) : w.grownBy w'' row := h.trans k
theorem grown_setCell (w : World) (g o : Nat) (u : Value) : w.grownBy (w.setCell ⟨g, o, none⟩ u) (some g) :=
  ⟨rfl, rfl, rfl, by simp [World.setCell], fun k _ hk => Below.heap_setCell w ⟨g, o, none⟩ u k (fun e => hk (by simp [e]))⟩

/-- One parcel appended to the call's own fluid. -/
theorem wpList_append_pc (w : World) {ops : Array Oper} {rest : List Oper} {o : Oper} {a : Act} {Q : Exit → Act → World → Prop} (hgd : o.guard = none) (s x : Operand)
    (ho : o.op = .call { callee := .builtin .append, args := #[s, x], argTypes := #[24, 24] }) (base : Nat) (v : Value) (ps : List Pc) (hs : a.eval s = v) (hown : Own w base v ps)
    (b : Nat) (l : ByteArray) (n : Int) (hx : a.eval x = .slice (some ⟨b, 0, none⟩) 1 1) (h0 : w.cell? ⟨b, 0, none⟩ = some (.string l)) (h1 : w.cell? ⟨b, 1, none⟩ = some (.int .i64 n))
    (hlen : ps.length ≤ 1000000000000) (hbase : base ≤ w.heap.size)
    (h : ∀ v' w', Own w' base v' (ps ++ [(l, n)]) → w.grownBy w' v.ownBlock → Loc w v v' → wpList Tryz.prog ops Q rest (a.put o.dst v') w') :
    wpList Tryz.prog ops Q (o :: rest) a w := by
  obtain ⟨i0, hi, hz0, hz1, hz2⟩ := info_parts Tryz.info65
  refine wpList_append_own_at w hgd s x 24 ho base 65 i0 (.agg #[.string ⟨#[]⟩, .int .i64 0]) 2 24 Tryz.underlying24 hi hz0 hz1 hz2 rfl (by decide) v ps.length (cellsL ps) hs hown ⟨b, 0, none⟩ 1 1 [.string l, .int .i64 n] hx rfl ?_ ?_ ?_ ?_ hbase ?_
  · intro j u hj
    match j, hj with
    | 0, hj => simp at hj; subst hj; simpa [Addr.add] using h0
    | 1, hj => simp at hj; subst hj; simpa [Addr.add] using h1
  · intro u hu
    simp at hu
    rcases hu with rfl | rfl <;> rfl
  · unfold maxLen; omega
  · omega
  · intro v' w' h1 h2 _ h4
    refine h v' w' ?_ h2 (h4.imp id fun e => ⟨_, e, Nat.le_refl _⟩)
    unfold Own
    rw [cellsL_append, cellsL_one, List.length_append]
    exact h1

theorem ba_ne {a b : ByteArray} (h : a ≠ b) : (a.toList == b.toList) = false := by
  rw [beq_eq_false_iff_ne]
  intro e
  apply h
  rw [ByteArray.toList_eq, ByteArray.toList_eq] at e
  exact ByteArray.ext (Array.ext' e)
theorem Loc.back {w w1 : World} {v v' : Value} (h : Loc w1 v v') (hs : w.heap.size ≤ w1.heap.size) : Loc w v v' := h.imp id fun ⟨g, e, hg⟩ => ⟨g, e, Nat.le_trans hs hg⟩

/-- The last parcel of the call's own fluid. -/
theorem Own.last {w : World} {base : Nat} {v : Value} {acc : List Pc} {q : Pc} (h : Own w base v (acc ++ [q])) :
    ∃ g cap, v = .slice (some ⟨g, 0, none⟩) (acc.length + 1) cap ∧ g < w.heap.size ∧ w.cell? ⟨g, acc.length * 2, none⟩ = some (.string q.1) ∧ w.cell? ⟨g, acc.length * 2 + 1, none⟩ = some (.int .i64 q.2) ∧ w.frozen? ⟨g, acc.length * 2 + 1, none⟩ = false ∧ base ≤ g := by
  have hl : (acc ++ [q]).length = acc.length + 1 := by simp
  rcases h.2 with ⟨h1, h2⟩ | ⟨g, cap, cur, h1, h2, h3, h4⟩
  · rw [hl] at h2; omega
  · subst h1
    have c := cellsL_at (ps := acc ++ [q]) (k := acc.length) (by simp)
    simp only [List.getElem_append_right (Nat.le_refl _), Nat.sub_self, List.getElem_cons_zero] at c
    have e1 := World.ownsRow.cellAt h (acc.length * 2) (by rw [hl]; omega)
    have e2 := World.ownsRow.cellAt h (acc.length * 2 + 1) (by rw [hl]; omega)
    exact ⟨g, cap, by rw [hl], (Array.getElem?_eq_some_iff.1 h3).1, e1.trans c.1, e2.trans c.2, World.ownsRow.frozenAt h _, h2⟩

set_option maxHeartbeats 800000 in
theorem behind_first_any (base : Nat) (v : Value) (l : ByteArray) (n : Int) (w : World) (hown : Own w base v []) (hn : 0 < n) (hbase : base ≤ w.heap.size) :
    Calls Tryz.prog 139 #[v, .agg #[.string l, .int .i64 n]] w fun e w' => ∃ v', e = .returned v' ∧ Own w' base v' (behind [] (l, n)) ∧ w.grownBy w' v.ownBlock ∧ Loc w v v' := by
  have HO : Hid (Own w base v []) := hown
  clear hown
  obtain ⟨ao, cap, rfl⟩ := HO.out.shape
  have hnz : (n == 0) = false := by simp; omega
  simp only [List.length_nil] at HO ⊢
  go_enter Tryz.func139, Tryz.ntmps139
  go_wp2
  go_big_quiet (fail)
  go_wp2_with (at_builtin; refine wpList_append_pc _ rfl (.tmp 36) (.tmp 38) rfl base (.slice ao 0 cap) [] rfl (((HO.out.alloc _).drewN nq).alloc _) (w.heap.size + 1) l n rfl (by go_simp) (by go_simp) (by simp) (by simp; omega) ?_; intro v' w1 hown1 hg hloc)
  go_ret
  refine ⟨_, rfl, ?_, ?_, hloc.back (by simp; omega)⟩
  · rw [behind_nil (by simp only; omega)]; exact hown1
  · exact ((World.grownBy_alloc w _ _).trans (grown_drewN (World.grownBy_alloc _ _ _) nq)).trans hg

set_option maxHeartbeats 800000 in
theorem behind_other_any (base : Nat) (v : Value) (acc : List Pc) (q : Pc) (l : ByteArray) (n : Int) (w : World) (hown : Own w base v (acc ++ [q])) (hn : 0 < n) (hne : q.1 ≠ l) (hl : acc.length ≤ 1000000) (hbase : base ≤ w.heap.size) :
    Calls Tryz.prog 139 #[v, .agg #[.string l, .int .i64 n]] w fun e w' => ∃ v', e = .returned v' ∧ Own w' base v' (behind (acc ++ [q]) (l, n)) ∧ w.grownBy w' v.ownBlock ∧ Loc w v v' := by
  have HO : Hid (Own w base v (acc ++ [q])) := hown
  clear hown
  obtain ⟨g, cap, rfl, hg, c0, c1, f1, hbg⟩ := HO.out.last
  have HN : Hid (q.1 ≠ l) := hne
  clear hne
  have hnz : (n == 0) = false := by simp; omega
  have hlb : (q.1.toList == l.toList) = false := ba_ne HN.out
  go_enter Tryz.func139, Tryz.ntmps139
  go_wp2
  go_big_quiet (fail)
  go_wp2_with (at_builtin; refine wpList_append_pc _ rfl (.tmp 36) (.tmp 38) rfl base (.slice (some ⟨g, 0, none⟩) (acc.length + 1) cap) (acc ++ [q]) rfl (((HO.out.alloc _).drewN nq).alloc _) (w.heap.size + 1) l n rfl (by go_simp) (by go_simp) (by simp; omega) (by simp; omega) ?_; intro v' w1 hown1 hg hloc)
  go_ret
  refine ⟨_, rfl, ?_, ?_, hloc.back (by simp; omega)⟩
  · rw [behind_other (by simp only; omega) HN.out]; exact hown1
  · exact ((World.grownBy_alloc w _ _).trans (grown_drewN (World.grownBy_alloc _ _ _) nq)).trans hg

set_option maxHeartbeats 800000 in
theorem behind_same_any (base : Nat) (v : Value) (acc : List Pc) (m : Int) (l : ByteArray) (n : Int) (w : World) (hown : Own w base v (acc ++ [(l, m)])) (hn : 0 < n) (hn2 : n ≤ 1000000000000) (hm : 0 ≤ m) (hm2 : m ≤ 1000000000000) (hl : acc.length ≤ 1000000) :
    Calls Tryz.prog 139 #[v, .agg #[.string l, .int .i64 n]] w fun e w' => ∃ v', e = .returned v' ∧ Own w' base v' (behind (acc ++ [(l, m)]) (l, n)) ∧ w.grownBy w' v.ownBlock ∧ Loc w v v' := by
  have HO : Hid (Own w base v (acc ++ [(l, m)])) := hown
  clear hown
  obtain ⟨g, cap, rfl, hg, c0, c1, f1, hbg⟩ := HO.out.last
  simp only at c0 c1
  have hnz : (n == 0) = false := by simp; omega
  have hgn : g ≠ w.heap.size := by omega
  go_enter Tryz.func139, Tryz.ntmps139
  go_wp2
  go_big_quiet (fail)
  go_wp2
  go_region
  go_wp2
  go_ret
  refine ⟨.slice (some ⟨g, 0, none⟩) (acc.length + 1) cap, rfl, ?_, ?_, .inl rfl⟩
  · rw [behind_same (q := (l, m)) (p := (l, n)) (by simp only; omega) rfl]
    have h0 := (HO.out.alloc (.cells #[.string l, .int .i64 n] 65)).drewN (nq + 1)
    unfold Own at h0
    rw [List.length_append, List.length_singleton] at h0
    have h1 := (World.ownsRow.stored h0 (acc.length * 2 + 1) (.int .i64 (m + n))).1
    unfold Own
    rw [cellsL_append, cellsL_one, List.length_append, List.length_singleton]
    rw [cellsL_append, cellsL_one, List.set_append_right _ _ (by rw [cellsL_length]; omega), cellsL_length, show acc.length * 2 + 1 - acc.length * 2 = 1 by omega] at h1
    exact h1
  · exact (grown_drewN (World.grownBy_alloc w _ _) _).trans (grown_setCell _ _ _ _)

/-- One parcel behind a fluid of the call's own. -/
theorem behind_any (base : Nat) (v : Value) (acc : List Pc) (l : ByteArray) (n : Int) (w : World) (hown : Own w base v acc) (hn : 0 ≤ n) (hn2 : n ≤ 1000000000000) (hm : ∀ q ∈ acc, 0 ≤ q.2 ∧ q.2 ≤ 1000000000000) (hl : acc.length ≤ 1000000) (hbase : base ≤ w.heap.size) :
    Calls Tryz.prog 139 #[v, .agg #[.string l, .int .i64 n]] w fun e w' => ∃ v', e = .returned v' ∧ Own w' base v' (behind acc (l, n)) ∧ w.grownBy w' v.ownBlock ∧ Loc w v v' := by
  by_cases h : n = 0
  · subst h; exact behind_zero_any base v acc l w hown
  · rcases snoc_cases acc with rfl | ⟨a, q, rfl⟩
    · exact behind_first_any base v l n w hown (by omega) hbase
    · have hq := hm q (by simp)
      have hl' : a.length ≤ 1000000 := by simp at hl; omega
      by_cases e : q.1 = l
      · obtain ⟨l', m⟩ := q
        simp only at e hq
        subst e
        exact behind_same_any base v a m l' n w hown (by omega) hn2 hq.1 hq.2 hl'
      · exact behind_other_any base v a q l n w hown (by omega) e hl' hbase

/-- What lies below base is left alone by whoever writes rows of its own. -/
theorem below_grown {base : Nat} {a w w' : World} {v : Value} {ps : List Pc} (h : Below base a w) (ho : Own w base v ps) (hg : w.grownBy w' v.ownBlock) (hB : base ≤ w.heap.size) : Below base a w' :=
  h.grown hg hB (fun k hk => (World.ownsRow.lt ho k hk).1)
theorem Own.form {w : World} {base : Nat} {v : Value} {ps : List Pc} (h : Own w base v ps) : ∃ ao n cap, v = .slice ao n cap := by
  obtain ⟨ao, cap, h⟩ := h.shape
  exact ⟨ao, _, cap, h⟩
theorem plainL_append (a b : List Pc) : plainL (a ++ b) = b.foldl behind (plainL a) := by unfold plainL; rw [List.foldl_append]
theorem foldl_take_succ {ps : List Pc} {m : Nat} (h : m < ps.length) (acc : List Pc) : (ps.take (m + 1)).foldl behind acc = behind ((ps.take m).foldl behind acc) (ps[m]'h) := by
  rw [List.take_succ_eq_append_getElem h, List.foldl_append]; rfl
/-- Volumes within a bound stay within it. -/
theorem plain_bound {ps : List Pc} (hn : Nn ps) {B : Int} (hB : tot ps ≤ B) : ∀ q ∈ plainL ps, 0 ≤ q.2 ∧ q.2 ≤ B := fun q hq =>
  ⟨nn_plainL hn q hq, by have := le_tot (nn_plainL hn) q hq; rw [tot_plainL] at this; omega⟩
theorem length_cat {fs : List Fd} (hl : ∀ f ∈ fs, f.2.2.length ≤ 100) : (cat fs).length ≤ 100 * fs.length := by
  induction fs using snoc_ind with
  | h0 => simp [cat]
  | h1 a f ih =>
    have h := ih (fun g hg => hl g (by simp [hg]))
    have h2 := hl f (by simp)
    rw [cat_snoc]
    simp only [List.length_append, List.length_singleton]
    omega
theorem fine_cat {fs : List Fd} (hn : ∀ f ∈ fs, Fine f.2.2) : Fine (cat fs) := fun p hp => by
  unfold cat at hp
  obtain ⟨l, hl, hp⟩ := List.mem_flatten.1 hp
  obtain ⟨f, hf, rfl⟩ := List.mem_map.1 hl
  exact hn f hf p hp
theorem fine_append {a b : List Pc} (ha : Fine a) (hb : Fine b) : Fine (a ++ b) := fun p hp => (List.mem_append.1 hp).elim (ha p) (hb p)
/-- The bounds that behind asks for, of a plain form of at most 200 parcels. -/
theorem plain_ask {ps : List Pc} (h : Fine ps) (hl : ps.length ≤ 200) : (∀ q ∈ plainL ps, 0 ≤ q.2 ∧ q.2 ≤ 1000000000000) ∧ (plainL ps).length ≤ 1000000 := by
  have := tot_le h
  refine ⟨plain_bound h.nn (by omega), ?_⟩
  have := length_plainL ps
  omega

set_option maxHeartbeats 1600000 in
theorem plain_any (b c : Nat) (fs : List Fd) (w : World) (hF : FlS w b fs) (hn : ∀ f ∈ fs, Fine f.2.2) (hl : ∀ f ∈ fs, f.2.2.length ≤ 100) (hfs : fs.length ≤ 2) :
    Calls Tryz.prog 136 #[.slice (some ⟨b, 0, none⟩) fs.length c] w fun e w' => ∃ v, e = .returned v ∧ Own w' w.heap.size v (plainL (cat fs)) ∧ Below w.heap.size w w' := by
  have HF : Hid (FlS w b fs) := hF
  have HN : Hid (∀ f ∈ fs, Fine f.2.2) := hn
  have HL : Hid (∀ f ∈ fs, f.2.2.length ≤ 100) := hl
  clear hF hn hl
  go_enter Tryz.func136, Tryz.ntmps136
  go_wp2
  go_loopw [3, 10] (fun v i wr => ∃ k : Nat, k ≤ fs.length ∧ i = .int .i64 k ∧ Own wr w.heap.size v (plainL (cat (fs.take k))) ∧ Below w.heap.size w wr) (fun _ i _ => fs.length - (intOf i).toNat)
  case atStart => exact ⟨0, Nat.zero_le _, rfl, Own.nil _ _, Below.refl _ _⟩
  case round =>
    obtain ⟨k, hk, rfl, hown, hb⟩ := hrel
    obtain ⟨w1, rfl⟩ : ∃ w1, w1 = wr := ⟨_, rfl⟩
    have HB : Hid (Below w.heap.size w w1) := hb
    obtain ⟨ao0, n0, cap0, rfl⟩ := hown.form
    have HO : Hid (Own w1 w.heap.size (.slice ao0 n0 cap0) (plainL (cat (fs.take k)))) := hown
    clear hb hown
    by_cases hlt : k < fs.length
    · obtain ⟨f, hf⟩ : ∃ f, fs[k]'hlt = f := ⟨_, rfl⟩
      obtain ⟨ao, cap, ps⟩ := f
      have hmem : (ao, cap, ps) ∈ fs := by rw [← hf]; exact List.getElem_mem hlt
      have HP : Hid (cat (fs.take (k + 1)) = cat (fs.take k) ++ ps) := by have := cat_take_succ hlt; rw [hf] at this; exact this
      have hcell : w1.cell? ⟨b, k, none⟩ = some (.slice ao ps.length cap) := by have := ((HF.out.next HB.out).2 k hlt).1; rw [hf] at this; exact this
      have HFl : Hid (Fl w ao ps) := by have := (HF.out.2 k hlt).2; rw [hf] at this; exact this
      have HN1 : Hid (Fine (cat (fs.take k) ++ ps)) := fine_append (fine_cat fun g hg => HN.out g (List.mem_of_mem_take hg)) (HN.out _ hmem)
      have hl1 : ps.length ≤ 100 := HL.out _ hmem
      have hl0 : (cat (fs.take k)).length ≤ 100 := by
        have := length_cat (fs := fs.take k) (fun g hg => HL.out g (List.mem_of_mem_take hg))
        rw [List.length_take] at this
        omega
      clear hf hmem
      generalize cat (fs.take k) = C at *
      go_wp2
      go_loopw [3, 16] (fun v i wr => ∃ m : Nat, m ≤ ps.length ∧ i = .int .i64 m ∧ Own wr w.heap.size v (plainL (C ++ ps.take m)) ∧ Below w.heap.size w wr) (fun _ i _ => ps.length - (intOf i).toNat)
      case atStart => exact ⟨0, Nat.zero_le _, rfl, by simpa using HO.out, HB.out⟩
      case round =>
        obtain ⟨m, hm, rfl, hown, hb⟩ := hrel
        have HB2 : Hid (Below w.heap.size w wr) := hb
        obtain ⟨ao1, n1, cap1, rfl⟩ := hown.form
        have HO2 : Hid (Own wr w.heap.size (.slice ao1 n1 cap1) (plainL (C ++ ps.take m))) := hown
        clear hb hown
        by_cases hlt2 : m < ps.length
        · obtain ⟨b2, off, rfl, hb2, c0, c1, _⟩ := (HFl.out.next HB2.out).at hlt2
          have HT : Hid (plainL (C ++ ps.take (m + 1)) = behind (plainL (C ++ ps.take m)) (ps[m]'hlt2)) := by
            rw [List.take_succ_eq_append_getElem hlt2, ← List.append_assoc, plainL_snoc]; rfl
          have hv := HN1.out _ (List.mem_append_right _ (List.getElem_mem hlt2))
          have hv0 := hv.2.1
          have hv1 := hv.2.2
          clear hv
          have HA : Hid ((∀ q ∈ plainL (C ++ ps.take m), 0 ≤ q.2 ∧ q.2 ≤ 1000000000000) ∧ (plainL (C ++ ps.take m)).length ≤ 1000000) :=
            plain_ask (fun p hp => HN1.out p (by rcases List.mem_append.1 hp with h | h; exact List.mem_append_left _ h; exact List.mem_append_right _ (List.mem_of_mem_take h))) (by rw [List.length_append, List.length_take]; omega)
          obtain ⟨p, hp⟩ : ∃ p, ps[m]'hlt2 = p := ⟨_, rfl⟩
          rw [hp] at c0 c1 HT hv0 hv1
          clear hp
          obtain ⟨l, n⟩ := p
          simp only at c0 c1 hv0 hv1
          go_wp2_with fail
          refine (behind_any w.heap.size _ _ l n _ (HO2.out.alloc _) hv0 (by omega) HA.out.1 HA.out.2 (by have := HB2.out.size; simp; omega)).mono ?_
          rintro e w2 ⟨v', rfl, ho, hg, _⟩
          have HO3 : Hid (Own w2 w.heap.size v' (plainL (C ++ ps.take (m + 1)))) := by rw [HT.out]; exact ho
          have HB3 : Hid (Below w.heap.size w w2) := below_grown (HB2.out.alloc HB2.out.size _) (HO2.out.alloc _) hg (by have := HB2.out.size; simp; omega)
          clear ho hg
          go_wp2
          go_roundw
          case rel => exact ⟨m + 1, by omega, by go_num, HO3.out, HB3.out⟩
          case measure => simp [intOf]; omega
        · go_wp2
          go_roundw
          case rel => exact ⟨k + 1, by omega, by go_num, by rw [HP.out]; have := HO2.out; rw [List.take_of_length_le (by omega)] at this; exact this, HB2.out⟩
          case measure => simp [intOf]; omega
    · go_wp2
      go_ret
      exact ⟨.slice ao0 n0 cap0, rfl, by have := HO.out; rw [List.take_of_length_le (by omega)] at this; exact this, HB.out⟩

end Go.Proofs.YtjappkfhballhaaGreat.F
