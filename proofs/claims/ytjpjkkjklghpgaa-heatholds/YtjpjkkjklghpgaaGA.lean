/- Blocks of cells; slices of the call's own, whatever their elements are. -/
import Derived.Test.YtjpjkkjklghpgaaSpotA
import Derived.Maps.AppendAt
namespace Go.Proofs.Ytjpjkkjklghpgaa
open Go.RowKit

/-- A block holds these cells, none of them frozen. -/
def Bk (b : Nat) (cs : List Value) (w : World) : Prop := b < w.heap.size ∧ ∀ k v, cs[k]? = some v → w.cell? ⟨b, k, none⟩ = some v ∧ w.frozen? ⟨b, k, none⟩ = false
theorem Bk.c {b : Nat} {cs : List Value} {w : World} (h : Bk b cs w) (k : Nat) {v : Value} (hv : cs[k]? = some v) : w.cell? ⟨b, k, none⟩ = some v := (h.2 k v hv).1
theorem Bk.f {b : Nat} {cs : List Value} {w : World} (h : Bk b cs w) (k : Nat) {v : Value} (hv : cs[k]? = some v) : w.frozen? ⟨b, k, none⟩ = false := (h.2 k v hv).2
theorem Bk.later {b : Nat} {cs : List Value} {w w1 : World} (h : Bk b cs w) (hb : Below w.heap.size w w1) : Bk b cs w1 :=
  ⟨Nat.lt_of_lt_of_le h.1 hb.size, fun k v hv => ⟨cell_later hb (h.2 k v hv).1, (hb.frozen (p := ⟨b, k, none⟩) h.1).trans (h.2 k v hv).2⟩⟩
theorem Bk.new (w : World) (cs : List Value) (t : TypeId) (n : Nat) (hn : n = w.heap.size) : Bk n cs (w.alloc (.cells cs.toArray t)) := by
  subst hn
  refine ⟨by simp, fun k v hv => ?_⟩
  have hlt : k < cs.length := (List.getElem?_eq_some_iff.1 hv).1
  constructor
  · go_simp
    exact (List.getElem?_eq_some_iff.1 hv).2
  · go_simp
theorem Bk.put {b : Nat} {cs : List Value} {w : World} (h : Bk b cs w) (k : Nat) (v : Value) : Bk b (cs.set k v) (w.setCell ⟨b, k, none⟩ v) := by
  refine ⟨by simpa [World.setCell] using h.1, fun j u hu => ?_⟩
  rw [List.getElem?_set] at hu
  by_cases e : k = j
  · subst e
    rw [if_pos rfl] at hu
    split at hu
    · rename_i hlt
      injection hu with hu
      subst hu
      have hc := h.2 k (cs[k]'hlt) (List.getElem?_eq_getElem hlt)
      refine ⟨?_, by rw [World.frozen?_setCell]; exact hc.2⟩
      exact World.cell?_setCell_same' w _ v (by rw [hc.1]; rfl)
    · cases hu
  · rw [if_neg e] at hu
    have hc := h.2 j u hu
    refine ⟨?_, by rw [World.frozen?_setCell]; exact hc.2⟩
    simp [go_sem, hc.1]
theorem Bk.other {b b' : Nat} {cs : List Value} {w : World} (h : Bk b cs w) (hne : b ≠ b') (k : Nat) (v : Value) : Bk b cs (w.setCell ⟨b', k, none⟩ v) := by
  refine ⟨by simpa [World.setCell] using h.1, fun j u hu => ?_⟩
  have hc := h.2 j u hu
  exact ⟨(World.cell?_of_block (Below.heap_setCell w ⟨b', k, none⟩ v b hne)).trans hc.1, by rw [World.frozen?_setCell]; exact hc.2⟩
/-- Cells of a block that nothing has turned. -/
theorem Bk.same {b : Nat} {cs : List Value} {w w1 : World} (h : Bk b cs w) (hs : w.heap.size ≤ w1.heap.size) (hb : w1.heap[b]? = w.heap[b]?) : Bk b cs w1 :=
  ⟨Nat.lt_of_lt_of_le h.1 hs, fun k v hv => ⟨(World.cell?_of_block hb).trans (h.2 k v hv).1, (World.frozen?_of_block hb).trans (h.2 k v hv).2⟩⟩


/-- Elements of type E, sz cells each, told by enc. -/
structure Enc (α : Type) where
  E : TypeId
  sz : Nat
  enc : α → List Value
def Enc.cells {α : Type} (c : Enc α) (ps : List α) : List Value := ps.flatMap c.enc
/-- A slice of the call's own. -/
def OwnR {α : Type} (c : Enc α) (w : World) (base : Nat) (v : Value) (ps : List α) : Prop := w.ownsRow base c.E c.sz v ps.length (c.cells ps)
/-- What holds of an encoding. -/
structure Good {α : Type} (c : Enc α) : Prop where
  len : ∀ x, (c.enc x).length = c.sz
  one : ∀ x, ∀ u ∈ c.enc x, u.oneCell' = true
theorem cells_append {α : Type} (c : Enc α) (a b : List α) : c.cells (a ++ b) = c.cells a ++ c.cells b := by simp [Enc.cells]
theorem cells_one {α : Type} (c : Enc α) (x : α) : c.cells [x] = c.enc x := by simp [Enc.cells]
theorem cells_length {α : Type} {c : Enc α} (hg : Good c) (ps : List α) : (c.cells ps).length = ps.length * c.sz := by
  induction ps with
  | nil => simp [Enc.cells]
  | cons x ps ih =>
    have : c.cells (x :: ps) = c.enc x ++ c.cells ps := rfl
    rw [this, List.length_append, ih, hg.len, List.length_cons, Nat.succ_mul]
    omega
theorem cells_at {α : Type} {c : Enc α} (hg : Good c) {ps : List α} {k : Nat} (h : k < ps.length) {j : Nat} (hj : j < c.sz) : (c.cells ps)[k * c.sz + j]? = (c.enc (ps[k]'h))[j]? := by
  have e : ps = ps.take k ++ ps[k]'h :: ps.drop (k + 1) := by rw [← List.drop_eq_getElem_cons h, List.take_append_drop]
  have e2 : c.cells ps = c.cells (ps.take k) ++ (c.enc (ps[k]'h) ++ c.cells (ps.drop (k + 1))) := by
    conv => lhs; rw [e]
    rw [cells_append]; rfl
  have hl : (c.cells (ps.take k)).length = k * c.sz := by rw [cells_length hg, List.length_take, Nat.min_eq_left (by omega)]
  rw [e2, List.getElem?_append_right (by omega), hl, Nat.add_sub_cancel_left, List.getElem?_append_left (by rw [hg.len]; exact hj)]
theorem OwnR.nil {α : Type} (c : Enc α) (w : World) (base : Nat) : OwnR c w base (.slice none 0 0) [] := World.ownsRow_nil w base c.E c.sz
theorem OwnR.shape {α : Type} {c : Enc α} {w : World} {base : Nat} {v : Value} {ps : List α} (h : OwnR c w base v ps) : ∃ ao cap, v = .slice ao ps.length cap := by
  rcases h.2 with ⟨h1, h2⟩ | ⟨g, cap, cur, h1, _⟩
  · exact ⟨none, 0, by rw [h1, h2]⟩
  · exact ⟨_, _, h1⟩
theorem OwnR.form {α : Type} {c : Enc α} {w : World} {base : Nat} {v : Value} {ps : List α} (h : OwnR c w base v ps) : ∃ ao n cap, v = .slice ao n cap := by
  obtain ⟨ao, cap, e⟩ := h.shape
  exact ⟨ao, _, cap, e⟩
theorem OwnR.alloc {α : Type} {c : Enc α} {w : World} {base : Nat} {v : Value} {ps : List α} (h : OwnR c w base v ps) (o : Obj) : OwnR c (w.alloc o) base v ps := World.ownsRow.alloc h o
theorem OwnR.kept {α : Type} {c : Enc α} {w w' : World} {base : Nat} {v : Value} {ps : List α} {row : Option Nat} (h : OwnR c w base v ps) (hg : w.grownBy w' row) (hne : v.ownBlock = none ∨ v.ownBlock ≠ row) : OwnR c w' base v ps := World.ownsRow.kept h hg hne
theorem OwnR.base {α : Type} {c : Enc α} {w : World} {base base' : Nat} {v : Value} {ps : List α} (h : OwnR c w base v ps) (hb : base' ≤ base) : OwnR c w base' v ps := by
  obtain ⟨h1, h2⟩ := h
  refine ⟨h1, h2.imp id ?_⟩
  rintro ⟨g, cap, cur, e, hg, r⟩
  exact ⟨g, cap, cur, e, by omega, r⟩
theorem OwnR.later {α : Type} {c : Enc α} {w w' : World} {base : Nat} {v : Value} {ps : List α} (h : OwnR c w base v ps) (hb : Below w.heap.size w w') : OwnR c w' base v ps := by
  obtain ⟨h1, h2⟩ := h
  refine ⟨h1, h2.imp id ?_⟩
  rintro ⟨g, cap, cur, e, hg, hh, r⟩
  exact ⟨g, cap, cur, e, hg, (hb.block g (Array.getElem?_eq_some_iff.1 hh).1).trans hh, r⟩
/-- What can be read of it. -/
theorem OwnR.read {α : Type} {c : Enc α} (hg : Good c) {w : World} {base : Nat} {v : Value} {ps : List α} (h : OwnR c w base v ps) : (ps = [] ∧ ∃ ao cap, v = .slice ao 0 cap) ∨ ∃ g cap, v = .slice (some ⟨g, 0, none⟩) ps.length cap ∧ ps.length ≤ cap ∧ base ≤ g ∧ g < w.heap.size ∧
    ∀ k (hk : k < ps.length) j, j < c.sz → w.cell? ⟨g, k * c.sz + j, none⟩ = (c.enc (ps[k]'hk))[j]? := by
  by_cases hn : ps = []
  · obtain ⟨ao, cap, e⟩ := h.shape
    subst hn
    exact .inl ⟨rfl, ao, cap, e⟩
  rcases h.2 with ⟨h1, h2⟩ | ⟨g, cap', cur, h1, h2, h3, h4, h5⟩
  · exact absurd (List.eq_nil_of_length_eq_zero h2) hn
  · subst h1
    refine .inr ⟨g, cap', rfl, h4, h2, (Array.getElem?_eq_some_iff.1 h3).1, fun k hk j hj => ?_⟩
    rw [World.ownsRow.cellAt h (k * c.sz + j) ?_]
    · exact cells_at hg hk hj
    · have : (k + 1) * c.sz ≤ ps.length * c.sz := Nat.mul_le_mul_right _ hk
      rw [Nat.succ_mul] at this
      omega
theorem below_row {α : Type} {c : Enc α} {base : Nat} {a w w' : World} {v : Value} {ps : List α} (h : Below base a w) (ho : OwnR c w base v ps) (hg : w.grownBy w' v.ownBlock) (hB : base ≤ w.heap.size) : Below base a w' :=
  h.grown hg hB (fun k hk => (World.ownsRow.lt ho k hk).1)
/-- One element appended to the call's own. -/
theorem wpList_append_row {α : Type} {c : Enc α} (hgc : Good c) {T by' : Nat} {z : Value} (hT : Try.prog.underlying T = some (.slice c.E)) (hI : (Try.prog.info? c.E).map (fun i => (i.zero, i.size, i.bytes)) = some (some z, c.sz, by')) (hz : z.cells.size = c.sz) (hs0 : 0 < c.sz) (hby : by' ≤ 140)
    (w : World) {ops : Array Oper} {rest : List Oper} {o : Oper} {a : Act} {Q : Exit → Act → World → Prop} (hgd : o.guard = none) (s x : Operand)
    (ho : o.op = .call { callee := .builtin .append, args := #[s, x], argTypes := #[T, T] }) (base : Nat) (v : Value) (ps : List α) (hs : a.eval s = v) (hown : OwnR c w base v ps)
    (b : Nat) (p : α) (hx : a.eval x = .slice (some ⟨b, 0, none⟩) 1 1) (hc : ∀ j u, (c.enc p)[j]? = some u → w.cell? ⟨b, j, none⟩ = some u)
    (hlen : ps.length ≤ 1000000000) (hbase : base ≤ w.heap.size)
    (h : ∀ v' w', OwnR c w' base v' (ps ++ [p]) → w.grownBy w' v.ownBlock → (v'.ownBlock = v.ownBlock ∨ v'.ownBlock = some w.heap.size) → wpList Try.prog ops Q rest (a.put o.dst v') w') :
    wpList Try.prog ops Q (o :: rest) a w := by
  obtain ⟨i0, hi, hz0, hz1, hz2⟩ := info_parts hI
  refine wpList_append_own_at w hgd s x T ho base c.E i0 z c.sz by' hT hi hz0 hz1 hz2 hz hs0 v ps.length (c.cells ps) hs hown ⟨b, 0, none⟩ 1 1 (c.enc p) hx (by rw [hgc.len]; omega) ?_ (hgc.one p) ?_ ?_ hbase ?_
  · intro j u hj
    have hj2 := hc j u hj
    by_cases e : j = 0
    · subst e; simpa [Addr.add] using hj2
    · simpa [Addr.add, e] using hj2
  · unfold maxLen; omega
  · have : (ps.length + 1) * by' ≤ (ps.length + 1) * 140 := Nat.mul_le_mul_left _ hby
    omega
  · intro v' w' h1 h2 _ h4
    refine h v' w' ?_ h2 h4
    unfold OwnR
    rw [cells_append, cells_one, List.length_append]
    exact h1
/-- A slice that can be read. -/
def RdR {α : Type} (c : Enc α) (w : World) (ao : Option Addr) (l : List α) : Prop :=
  l = [] ∨ ∃ b off, ao = some ⟨b, off, none⟩ ∧ b < w.heap.size ∧ ∀ k (hk : k < l.length) j, j < c.sz → w.cell? ⟨b, off + k * c.sz + j, none⟩ = (c.enc (l[k]'hk))[j]?
theorem RdR.next {α : Type} {c : Enc α} (hg : Good c) {w w1 : World} {ao : Option Addr} {l : List α} (h : RdR c w ao l) (hb : Below w.heap.size w w1) : RdR c w1 ao l := by
  rcases h with h | ⟨b, off, e, hlt, hc⟩
  · exact .inl h
  · refine .inr ⟨b, off, e, Nat.lt_of_lt_of_le hlt hb.size, fun k hk j hj => ?_⟩
    have hl := hg.len (l[k]'hk)
    obtain ⟨u, hu⟩ : ∃ u, (c.enc (l[k]'hk))[j]? = some u := ⟨_, List.getElem?_eq_getElem (by omega)⟩
    rw [hu]
    exact cell_later hb ((hc k hk j hj).trans hu)
theorem RdR.cells {α : Type} {c : Enc α} (hg : Good c) (hs0 : 0 < c.sz) {w : World} {ad : Addr} {l : List α} (h : RdR c w (some ad) l) : ∀ j u, (c.cells l)[j]? = some u → w.cell? (ad.add j) = some u := by
  intro j u hj
  have hlt : j < l.length * c.sz := by
    have := (List.getElem?_eq_some_iff.1 hj).1
    rw [cells_length hg] at this
    exact this
  rcases h with rfl | ⟨b, off, e, _, hc⟩
  · simp at hlt
  · injection e with e
    subst e
    have hk : j / c.sz < l.length := by rw [Nat.div_lt_iff_lt_mul hs0]; exact hlt
    have hm : j % c.sz < c.sz := Nat.mod_lt _ hs0
    have hat := cells_at hg hk hm
    have ej : j / c.sz * c.sz + j % c.sz = j := by rw [Nat.mul_comm]; exact Nat.div_add_mod j c.sz
    rw [ej, hj] at hat
    have := hc (j / c.sz) hk (j % c.sz) hm
    rw [Addr.add_lit, ← hat] at *
    rw [show off + j / c.sz * c.sz + j % c.sz = off + j by omega] at this
    exact this
theorem cells_ones {α : Type} {c : Enc α} (hg : Good c) (l : List α) : ∀ u ∈ c.cells l, u.oneCell' = true := by
  intro u hu
  obtain ⟨b, _, hb⟩ := List.mem_flatMap.1 hu
  exact hg.one b u hb
/-- A list appended to the call's own. -/
theorem wpList_append_list {α : Type} {c : Enc α} (hgc : Good c) {T by' : Nat} {z : Value} (hT : Try.prog.underlying T = some (.slice c.E)) (hI : (Try.prog.info? c.E).map (fun i => (i.zero, i.size, i.bytes)) = some (some z, c.sz, by')) (hz : z.cells.size = c.sz) (hs0 : 0 < c.sz)
    (w : World) {ops : Array Oper} {rest : List Oper} {o : Oper} {a : Act} {Q : Exit → Act → World → Prop} (hgd : o.guard = none) (s x : Operand)
    (ho : o.op = .call { callee := .builtin .append, args := #[s, x], argTypes := #[T, T] }) (base : Nat) (v : Value) (ps : List α) (hs : a.eval s = v) (hown : OwnR c w base v ps)
    (ad : Addr) (cp : Nat) (l : List α) (hx : a.eval x = .slice (some ad) l.length cp) (hq : RdR c w (some ad) l) (h63 : ps.length + l.length ≤ maxLen) (hlen : (ps.length + l.length) * by' ≤ 140737488355328) (hbase : base ≤ w.heap.size)
    (h : ∀ v' w', OwnR c w' base v' (ps ++ l) → w.grownBy w' v.ownBlock → (v'.ownBlock = v.ownBlock ∨ v'.ownBlock = some w.heap.size) → wpList Try.prog ops Q rest (a.put o.dst v') w') :
    wpList Try.prog ops Q (o :: rest) a w := by
  obtain ⟨i0, hi, hz0, hz1, hz2⟩ := info_parts hI
  refine wpList_append_own_at w hgd s x T ho base c.E i0 z c.sz by' hT hi hz0 hz1 hz2 hz hs0 v ps.length (c.cells ps) hs hown ad l.length cp (c.cells l) hx (cells_length hgc l) (hq.cells hgc hs0) (cells_ones hgc l) h63 hlen hbase ?_
  intro v' w' h1 h2 _ h4
  refine h v' w' ?_ h2 h4
  unfold OwnR
  rw [cells_append, List.length_append]
  exact h1

end Go.Proofs.Ytjpjkkjklghpgaa
