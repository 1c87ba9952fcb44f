import Derived.Test.YtgelbndbkmedlaaGa
import Derived.Maps.AppendAt
import Derived.Test.YtgelbndbkmedlaaGb

/- Blocks of cells; slices of the call's own, whatever their elements are. -/
namespace Go.Proofs.Ytgelbndbkmedlaa
open Go.RowKit
/-- A block holds these cells, none of them frozen. -/
def Bk (b : Nat) (cs : List Value) (w : World) : Prop := b < w.heap.size ∧ ∀ k v, cs[k]? = some v → w.cell? ⟨b, k, none⟩ = some v ∧ w.frozen? ⟨b, k, none⟩ = false
theorem Bk.c {b : Nat} {cs : List Value} {w : World} (h : Bk b cs w) (k : Nat) {v : Value} (hv : cs[k]? = some v) : w.cell? ⟨b, k, none⟩ = some v := (h.2 k v hv).1
theorem Bk.f {b : Nat} {cs : List Value} {w : World} (h : Bk b cs w) (k : Nat) {v : Value} (hv : cs[k]? = some v) : w.frozen? ⟨b, k, none⟩ = false := (h.2 k v hv).2
theorem Bk.later {b : Nat} {cs : List Value} {w w1 : World} (h : Bk b cs w) (hb : Below w.heap.size w w1) : Bk b cs w1 :=
  ⟨Nat.lt_of_lt_of_le h.1 hb.size, fun k v hv => ⟨cell_later hb (h.2 k v hv).1, (hb.frozen (p := ⟨b, k, none⟩) h.1).trans (h.2 k v hv).2⟩⟩
theorem Bk.new (w : World) (cs : List Value) (t : TypeId) (n : Nat) (hn : n = w.heap.size) : Bk n cs (w.alloc (.cells cs.toArray t)) := by
  subst hn
  refine ⟨by simp, fun k v hv => ?_⟩
  have hlt : k < cs.length := (List.getElem?_eq_some_iff.1 hv).1
  constructor
  · go_simp
    exact (List.getElem?_eq_some_iff.1 hv).2
  · go_simp
theorem Bk.put {b : Nat} {cs : List Value} {w : World} (h : Bk b cs w) (k : Nat) (v : Value) : Bk b (cs.set k v) (w.setCell ⟨b, k, none⟩ v) := by
  refine ⟨by simpa [World.setCell] using h.1, fun j u hu => ?_⟩
  rw [List.getElem?_set] at hu
  by_cases e : k = j
  · subst e
    rw [if_pos rfl] at hu
    split at hu
    · rename_i hlt
      injection hu with hu
      subst hu
      have hc := h.2 k (cs[k]'hlt) (List.getElem?_eq_getElem hlt)
      refine ⟨?_, by rw [World.frozen?_setCell]; exact hc.2⟩
      exact World.cell?_setCell_same' w _ v (by rw [hc.1]; rfl)
    · cases hu
  · rw [if_neg e] at hu
    have hc := h.2 j u hu
    refine ⟨?_, by rw [World.frozen?_setCell]; exact hc.2⟩
    simp [go_sem, hc.1]
theorem Bk.other {b b' : Nat} {cs : List Value} {w : World} (h : Bk b cs w) (hne : b ≠ b') (k : Nat) (v : Value) : Bk b cs (w.setCell ⟨b', k, none⟩ v) := by
  refine ⟨by simpa [World.setCell] using h.1, fun j u hu => ?_⟩
  have hc := h.2 j u hu
  exact ⟨(World.cell?_of_block (Below.heap_setCell w ⟨b', k, none⟩ v b hne)).trans hc.1, by rw [World.frozen?_setCell]; exact hc.2⟩
/-- Cells of a block that nothing has turned. -/
theorem Bk.same {b : Nat} {cs : List Value} {w w1 : World} (h : Bk b cs w) (hs : w.heap.size ≤ w1.heap.size) (hb : w1.heap[b]? = w.heap[b]?) : Bk b cs w1 :=
  ⟨Nat.lt_of_lt_of_le h.1 hs, fun k v hv => ⟨(World.cell?_of_block hb).trans (h.2 k v hv).1, (World.frozen?_of_block hb).trans (h.2 k v hv).2⟩⟩


/-- Elements of type E, sz cells each, told by enc. -/
structure Enc (α : Type) where
  E : TypeId
  sz : Nat
  enc : α → List Value
def Enc.cells {α : Type} (c : Enc α) (ps : List α) : List Value := ps.flatMap c.enc
/-- A slice of the call's own. -/
def OwnR {α : Type} (c : Enc α) (w : World) (base : Nat) (v : Value) (ps : List α) : Prop := w.ownsRow base c.E c.sz v ps.length (c.cells ps)
/-- What holds of an encoding. -/
structure Good {α : Type} (c : Enc α) : Prop where
  len : ∀ x, (c.enc x).length = c.sz
  one : ∀ x, ∀ u ∈ c.enc x, u.oneCell' = true
theorem cells_append {α : Type} (c : Enc α) (a b : List α) : c.cells (a ++ b) = c.cells a ++ c.cells b := by simp [Enc.cells]
theorem cells_one {α : Type} (c : Enc α) (x : α) : c.cells [x] = c.enc x := by simp [Enc.cells]
theorem cells_length {α : Type} {c : Enc α} (hg : Good c) (ps : List α) : (c.cells ps).length = ps.length * c.sz := by
  induction ps with
  | nil => simp [Enc.cells]
  | cons x ps ih =>
    have : c.cells (x :: ps) = c.enc x ++ c.cells ps := rfl
    rw [this, List.length_append, ih, hg.len, List.length_cons, Nat.succ_mul]
    omega
theorem cells_at {α : Type} {c : Enc α} (hg : Good c) {ps : List α} {k : Nat} (h : k < ps.length) {j : Nat} (hj : j < c.sz) : (c.cells ps)[k * c.sz + j]? = (c.enc (ps[k]'h))[j]? := by
  have e : ps = ps.take k ++ ps[k]'h :: ps.drop (k + 1) := by rw [← List.drop_eq_getElem_cons h, List.take_append_drop]
  have e2 : c.cells ps = c.cells (ps.take k) ++ (c.enc (ps[k]'h) ++ c.cells (ps.drop (k + 1))) := by
    conv => lhs; rw [e]
    rw [cells_append]; rfl
  have hl : (c.cells (ps.take k)).length = k * c.sz := by rw [cells_length hg, List.length_take, Nat.min_eq_left (by omega)]
  rw [e2, List.getElem?_append_right (by omega), hl, Nat.add_sub_cancel_left, List.getElem?_append_left (by rw [hg.len]; exact hj)]
theorem OwnR.nil {α : Type} (c : Enc α) (w : World) (base : Nat) : OwnR c w base (.slice none 0 0) [] := World.ownsRow_nil w base c.E c.sz
theorem OwnR.shape {α : Type} {c : Enc α} {w : World} {base : Nat} {v : Value} {ps : List α} (h : OwnR c w base v ps) : ∃ ao cap, v = .slice ao ps.length cap := by
  rcases h.2 with ⟨h1, h2⟩ | ⟨g, cap, cur, h1, _⟩
  · exact ⟨none, 0, by rw [h1, h2]⟩
  · exact ⟨_, _, h1⟩
theorem OwnR.form {α : Type} {c : Enc α} {w : World} {base : Nat} {v : Value} {ps : List α} (h : OwnR c w base v ps) : ∃ ao n cap, v = .slice ao n cap := by
  obtain ⟨ao, cap, e⟩ := h.shape
  exact ⟨ao, _, cap, e⟩
theorem OwnR.alloc {α : Type} {c : Enc α} {w : World} {base : Nat} {v : Value} {ps : List α} (h : OwnR c w base v ps) (o : Obj) : OwnR c (w.alloc o) base v ps := World.ownsRow.alloc h o
theorem OwnR.kept {α : Type} {c : Enc α} {w w' : World} {base : Nat} {v : Value} {ps : List α} {row : Option Nat} (h : OwnR c w base v ps) (hg : w.grownBy w' row) (hne : v.ownBlock = none ∨ v.ownBlock ≠ row) : OwnR c w' base v ps := World.ownsRow.kept h hg hne
theorem OwnR.base {α : Type} {c : Enc α} {w : World} {base base' : Nat} {v : Value} {ps : List α} (h : OwnR c w base v ps) (hb : base' ≤ base) : OwnR c w base' v ps := by
  obtain ⟨h1, h2⟩ := h
  refine ⟨h1, h2.imp id ?_⟩
  rintro ⟨g, cap, cur, e, hg, r⟩
  exact ⟨g, cap, cur, e, by omega, r⟩
theorem OwnR.later {α : Type} {c : Enc α} {w w' : World} {base : Nat} {v : Value} {ps : List α} (h : OwnR c w base v ps) (hb : Below w.heap.size w w') : OwnR c w' base v ps := by
  obtain ⟨h1, h2⟩ := h
  refine ⟨h1, h2.imp id ?_⟩
  rintro ⟨g, cap, cur, e, hg, hh, r⟩
  exact ⟨g, cap, cur, e, hg, (hb.block g (Array.getElem?_eq_some_iff.1 hh).1).trans hh, r⟩
/-- What can be read of it. -/
theorem OwnR.read {α : Type} {c : Enc α} (hg : Good c) {w : World} {base : Nat} {v : Value} {ps : List α} (h : OwnR c w base v ps) : (ps = [] ∧ ∃ ao cap, v = .slice ao 0 cap) ∨ ∃ g cap, v = .slice (some ⟨g, 0, none⟩) ps.length cap ∧ ps.length ≤ cap ∧ base ≤ g ∧ g < w.heap.size ∧
    ∀ k (hk : k < ps.length) j, j < c.sz → w.cell? ⟨g, k * c.sz + j, none⟩ = (c.enc (ps[k]'hk))[j]? := by
  by_cases hn : ps = []
  · obtain ⟨ao, cap, e⟩ := h.shape
    subst hn
    exact .inl ⟨rfl, ao, cap, e⟩
  rcases h.2 with ⟨h1, h2⟩ | ⟨g, cap', cur, h1, h2, h3, h4, h5⟩
  · exact absurd (List.eq_nil_of_length_eq_zero h2) hn
  · subst h1
    refine .inr ⟨g, cap', rfl, h4, h2, (Array.getElem?_eq_some_iff.1 h3).1, fun k hk j hj => ?_⟩
    rw [World.ownsRow.cellAt h (k * c.sz + j) ?_]
    · exact cells_at hg hk hj
    · have : (k + 1) * c.sz ≤ ps.length * c.sz := Nat.mul_le_mul_right _ hk
      rw [Nat.succ_mul] at this
      omega
theorem below_row {α : Type} {c : Enc α} {base : Nat} {a w w' : World} {v : Value} {ps : List α} (h : Below base a w) (ho : OwnR c w base v ps) (hg : w.grownBy w' v.ownBlock) (hB : base ≤ w.heap.size) : Below base a w' :=
  h.grown hg hB (fun k hk => (World.ownsRow.lt ho k hk).1)
/-- One element appended to the call's own. -/
theorem wpList_append_row {α : Type} {c : Enc α} (hgc : Good c) {T by' : Nat} {z : Value} (hT : Try.prog.underlying T = some (.slice c.E)) (hI : (Try.prog.info? c.E).map (fun i => (i.zero, i.size, i.bytes)) = some (some z, c.sz, by')) (hz : z.cells.size = c.sz) (hs0 : 0 < c.sz) (hby : by' ≤ 140)
    (w : World) {ops : Array Oper} {rest : List Oper} {o : Oper} {a : Act} {Q : Exit → Act → World → Prop} (hgd : o.guard = none) (s x : Operand)
    (ho : o.op = .call { callee := .builtin .append, args := #[s, x], argTypes := #[T, T] }) (base : Nat) (v : Value) (ps : List α) (hs : a.eval s = v) (hown : OwnR c w base v ps)
    (b : Nat) (p : α) (hx : a.eval x = .slice (some ⟨b, 0, none⟩) 1 1) (hc : ∀ j u, (c.enc p)[j]? = some u → w.cell? ⟨b, j, none⟩ = some u)
    (hlen : ps.length ≤ 1000000000) (hbase : base ≤ w.heap.size)
    (h : ∀ v' w', OwnR c w' base v' (ps ++ [p]) → w.grownBy w' v.ownBlock → (v'.ownBlock = v.ownBlock ∨ v'.ownBlock = some w.heap.size) → wpList Try.prog ops Q rest (a.put o.dst v') w') :
    wpList Try.prog ops Q (o :: rest) a w := by
  obtain ⟨i0, hi, hz0, hz1, hz2⟩ := info_parts hI
  refine wpList_append_own_at w hgd s x T ho base c.E i0 z c.sz by' hT hi hz0 hz1 hz2 hz hs0 v ps.length (c.cells ps) hs hown ⟨b, 0, none⟩ 1 1 (c.enc p) hx (by rw [hgc.len]; omega) ?_ (hgc.one p) ?_ ?_ hbase ?_
  · intro j u hj
    have hj2 := hc j u hj
    by_cases e : j = 0
    · subst e; simpa [Addr.add] using hj2
    · simpa [Addr.add, e] using hj2
  · unfold maxLen; omega
  · have : (ps.length + 1) * by' ≤ (ps.length + 1) * 140 := Nat.mul_le_mul_left _ hby
    omega
  · intro v' w' h1 h2 _ h4
    refine h v' w' ?_ h2 h4
    unfold OwnR
    rw [cells_append, cells_one, List.length_append]
    exact h1
/-- A slice that can be read. -/
def RdR {α : Type} (c : Enc α) (w : World) (ao : Option Addr) (l : List α) : Prop :=
  l = [] ∨ ∃ b off, ao = some ⟨b, off, none⟩ ∧ b < w.heap.size ∧ ∀ k (hk : k < l.length) j, j < c.sz → w.cell? ⟨b, off + k * c.sz + j, none⟩ = (c.enc (l[k]'hk))[j]?
theorem RdR.next {α : Type} {c : Enc α} (hg : Good c) {w w1 : World} {ao : Option Addr} {l : List α} (h : RdR c w ao l) (hb : Below w.heap.size w w1) : RdR c w1 ao l := by
  rcases h with h | ⟨b, off, e, hlt, hc⟩
  · exact .inl h
  · refine .inr ⟨b, off, e, Nat.lt_of_lt_of_le hlt hb.size, fun k hk j hj => ?_⟩
    have hl := hg.len (l[k]'hk)
    obtain ⟨u, hu⟩ : ∃ u, (c.enc (l[k]'hk))[j]? = some u := ⟨_, List.getElem?_eq_getElem (by omega)⟩
    rw [hu]
    exact cell_later hb ((hc k hk j hj).trans hu)
theorem RdR.cells {α : Type} {c : Enc α} (hg : Good c) (hs0 : 0 < c.sz) {w : World} {ad : Addr} {l : List α} (h : RdR c w (some ad) l) : ∀ j u, (c.cells l)[j]? = some u → w.cell? (ad.add j) = some u := by
  intro j u hj
  have hlt : j < l.length * c.sz := by
    have := (List.getElem?_eq_some_iff.1 hj).1
    rw [cells_length hg] at this
    exact this
  rcases h with rfl | ⟨b, off, e, _, hc⟩
  · simp at hlt
  · injection e with e
    subst e
    have hk : j / c.sz < l.length := by rw [Nat.div_lt_iff_lt_mul hs0]; exact hlt
    have hm : j % c.sz < c.sz := Nat.mod_lt _ hs0
    have hat := cells_at hg hk hm
    have ej : j / c.sz * c.sz + j % c.sz = j := by rw [Nat.mul_comm]; exact Nat.div_add_mod j c.sz
    rw [ej, hj] at hat
    have := hc (j / c.sz) hk (j % c.sz) hm
    rw [Addr.add_lit, ← hat] at *
    rw [show off + j / c.sz * c.sz + j % c.sz = off + j by omega] at this
    exact this
theorem cells_ones {α : Type} {c : Enc α} (hg : Good c) (l : List α) : ∀ u ∈ c.cells l, u.oneCell' = true := by
  intro u hu
  obtain ⟨b, _, hb⟩ := List.mem_flatMap.1 hu
  exact hg.one b u hb
/-- A list appended to the call's own. -/
theorem wpList_append_list {α : Type} {c : Enc α} (hgc : Good c) {T by' : Nat} {z : Value} (hT : Try.prog.underlying T = some (.slice c.E)) (hI : (Try.prog.info? c.E).map (fun i => (i.zero, i.size, i.bytes)) = some (some z, c.sz, by')) (hz : z.cells.size = c.sz) (hs0 : 0 < c.sz)
    (w : World) {ops : Array Oper} {rest : List Oper} {o : Oper} {a : Act} {Q : Exit → Act → World → Prop} (hgd : o.guard = none) (s x : Operand)
    (ho : o.op = .call { callee := .builtin .append, args := #[s, x], argTypes := #[T, T] }) (base : Nat) (v : Value) (ps : List α) (hs : a.eval s = v) (hown : OwnR c w base v ps)
    (ad : Addr) (cp : Nat) (l : List α) (hx : a.eval x = .slice (some ad) l.length cp) (hq : RdR c w (some ad) l) (h63 : ps.length + l.length ≤ maxLen) (hlen : (ps.length + l.length) * by' ≤ 140737488355328) (hbase : base ≤ w.heap.size)
    (h : ∀ v' w', OwnR c w' base v' (ps ++ l) → w.grownBy w' v.ownBlock → (v'.ownBlock = v.ownBlock ∨ v'.ownBlock = some w.heap.size) → wpList Try.prog ops Q rest (a.put o.dst v') w') :
    wpList Try.prog ops Q (o :: rest) a w := by
  obtain ⟨i0, hi, hz0, hz1, hz2⟩ := info_parts hI
  refine wpList_append_own_at w hgd s x T ho base c.E i0 z c.sz by' hT hi hz0 hz1 hz2 hz hs0 v ps.length (c.cells ps) hs hown ad l.length cp (c.cells l) hx (cells_length hgc l) (hq.cells hgc hs0) (cells_ones hgc l) h63 hlen hbase ?_
  intro v' w' h1 h2 _ h4
  refine h v' w' ?_ h2 h4
  unfold OwnR
  rw [cells_append, List.length_append]
  exact h1

end Go.Proofs.Ytgelbndbkmedlaa

/- Regions in any order, one obligation an operation. -/
namespace Go.Proofs.Ytgelbndbkmedlaa
open Go.RowKit
/-- Of each operation: those that it waits for, the slots that its word names, its guard's slot. -/
abbrev GPlan := List (List Nat × List Nat × Option (Nat × Bool))
def updO (f : Nat → Value) (d : Option Nat) (v : Value) : Nat → Value := match d with
  | some d => upd f d v
  | none => f
theorem updO_other {f : Nat → Value} {d : Option Nat} {k : Nat} {v : Value} (h : d ≠ some k) : updO f d v k = f k := by
  cases d with
  | none => rfl
  | some d => exact upd_other fun e => h (by rw [e])
def menOf (plan : GPlan) (i : Nat) : List Nat := ((plan[i]?).map (·.2.1)).getD []
def gOne (ops : Array Oper) (m : List Bool) (n : Nat) (o : Oper) (p : List Nat × List Nat × Option (Nat × Bool)) : Bool :=
  (match o.dst with
    | some d => m.getD d false && decide (d < n)
    | none => true) &&
  p.1.all (fun j => o.after.any fun e => Region.binds .any e && e.on == j) &&
  (match o.guard, p.2.2 with
    | none, none => true
    | some (j, b), some (s, b') => (((ops[j]?).bind (·.dst)) == some s) && (b == b') && (m.getD s false) && decide (s < n)
    | _, _ => false)
def gAll (ops : Array Oper) (m : List Bool) (n : Nat) : List Oper → GPlan → Bool
  | [], [] => true
  | o :: l, p :: q => gOne ops m n o p && gAll ops m n l q
  | _, _ => false
/-- A slot that a word names is written by the operation itself, or by one that it waits for. -/
def menB (ops : Array Oper) (plan : GPlan) : Bool :=
  (List.range ops.size).all fun i => (List.range ops.size).all fun j => i == j || coversB ops ops.size i j || (menOf plan i).all fun s => ((ops[j]?).bind (·.dst)) != some s
def gOk (ops : Array Oper) (plan : GPlan) (m : List Bool) (n : Nat) : Bool := backE 0 ops.toList && gAll ops m n ops.toList plan && menB ops plan

section
variable (P : Program) (Q : Exit → Act → World → Prop) (a : Act) (m : List Bool) (plan : GPlan) (V : Nat → List Value → World → Prop) (J : (Nat → Value) → World → Prop) (w0 : World)
/-- The words of the operations that are waited for. -/
def AllJ (f : Nat → Value) (w : World) : List Nat → Prop
  | [] => True
  | j :: l => V j ((menOf plan j).map f) w ∧ AllJ f w l
/-- All words. -/
def AllG (f : Nat → Value) (w : World) : Nat → GPlan → Prop
  | _, [] => True
  | i, p :: q => V i (p.2.1.map f) w ∧ AllG f w (i + 1) q
/-- What an operation must do, in whatever world it comes up. -/
def DoesG (i : Nat) (o : Oper) (f : Nat → Value) (w : World) : Prop :=
  ∀ K : Act → World → Prop, (∀ a' w', (∃ v, a' = (over a m f).put o.dst v ∧ V i ((menOf plan i).map (updO f o.dst v)) w' ∧ Below w0.heap.size w0 w' ∧ J (updO f o.dst v) w' ∧ (∀ j, V j ((menOf plan j).map f) w → V j ((menOf plan j).map f) w')) → K a' w') → o.wp P (over a m f) w K Q
def OblG (i : Nat) (o : Oper) (p : List Nat × List Nat × Option (Nat × Bool)) : Prop :=
  ∀ f w, Below w0.heap.size w0 w → J f w → AllJ plan V f w p.1 → match p.2.2 with
    | none => DoesG P Q a m plan V J w0 i o f w
    | some (s, b) => (f s = .bool b → DoesG P Q a m plan V J w0 i o f w) ∧ (f s ≠ .bool b → V i ((menOf plan i).map (updO f o.dst undef)) w ∧ J (updO f o.dst undef) w)
def OblsG : Nat → List Oper → GPlan → Prop
  | i, o :: l, p :: q => OblG P Q a m plan V J w0 i o p ∧ OblsG (i + 1) l q
  | _, _, _ => True
end
theorem gAll_at {ops : Array Oper} {m : List Bool} {n : Nat} : ∀ {l : List Oper} {q : GPlan}, gAll ops m n l q = true → ∀ {i : Nat} {o : Oper}, l[i]? = some o → ∃ p, q[i]? = some p ∧ gOne ops m n o p = true
  | [], _, _, _, _, h => by simp at h
  | _ :: _, [], h, _, _, _ => by simp [gAll] at h
  | o :: l, p :: q, h, 0, o', ho => by
    simp only [gAll, Bool.and_eq_true] at h
    simp at ho; subst ho
    exact ⟨p, by simp, h.1⟩
  | o :: l, p :: q, h, i + 1, o', ho => by
    simp only [gAll, Bool.and_eq_true] at h
    obtain ⟨p', hp, h'⟩ := gAll_at h.2 (i := i) (by simpa using ho)
    exact ⟨p', by simpa using hp, h'⟩
theorem gAll_length {ops : Array Oper} {m : List Bool} {n : Nat} : ∀ {l : List Oper} {q : GPlan}, gAll ops m n l q = true → q.length = l.length
  | [], [], _ => rfl
  | [], _ :: _, h => by simp [gAll] at h
  | _ :: _, [], h => by simp [gAll] at h
  | o :: l, p :: q, h => by
    simp only [gAll, Bool.and_eq_true] at h
    simp [gAll_length h.2]

section
variable {P : Program} {Q : Exit → Act → World → Prop} {a : Act} {m : List Bool} {plan : GPlan} {V : Nat → List Value → World → Prop} {J : (Nat → Value) → World → Prop} {w0 : World} {ops : Array Oper}
theorem oblsG_at : ∀ {l : List Oper} {q : GPlan} {s : Nat}, OblsG P Q a m plan V J w0 s l q → ∀ {i : Nat} {o : Oper} {p}, l[i]? = some o → q[i]? = some p → OblG P Q a m plan V J w0 (s + i) o p
  | [], _, _, _, _, _, _, h, _ => by simp at h
  | _ :: _, [], _, _, _, _, _, _, h => by simp at h
  | o :: l, p :: q, s, h, 0, _, _, ho, hp => by simp at ho hp; subst ho; subst hp; exact h.1
  | o :: l, p :: q, s, h, i + 1, _, _, ho, hp => by
    have := oblsG_at h.2 (i := i) (by simpa using ho) (by simpa using hp)
    rw [show s + 1 + i = s + (i + 1) by omega] at this
    exact this
/-- What holds while the region goes on. -/
def InvG (a : Act) (m : List Bool) (plan : GPlan) (V : Nat → List Value → World → Prop) (J : (Nat → Value) → World → Prop) (w0 : World) (ops : Array Oper) (listed : Array Bool) (a' : Act) (w : World) : Prop :=
  Closed ops listed ∧ ∃ f, a' = over a m f ∧ Below w0.heap.size w0 w ∧ J f w ∧ ∀ i, listed[i]? = some true → V i ((menOf plan i).map f) w

theorem invG_step (hok : gOk ops plan m a.tmps.size = true) (hob : OblsG P Q a m plan V J w0 0 ops.toList plan)
    {listed : Array Bool} (hsz : listed.size = ops.size) {i : Nat} (hi : i ∈ Region.ready .any ops listed) {a' : Act} {w : World} (h : InvG a m plan V J w0 ops listed a' w) :
    wpOp P ops Q i (fun a2 w2 => InvG a m plan V J w0 ops (listed.setIfInBounds i true) a2 w2) a' w := by
  simp only [gOk, Bool.and_eq_true] at hok
  obtain ⟨⟨_, hall⟩, hmen⟩ := hok
  obtain ⟨hlt, hun, hpre⟩ := ready_pre hi
  obtain ⟨o, ho⟩ : ∃ o, ops[i]? = some o := ⟨ops[i], by simp [hlt]⟩
  have hpre := hpre o ho
  have hoL : ops.toList[i]? = some o := by simpa using ho
  obtain ⟨p, hp, h1⟩ := gAll_at hall hoL
  have hO := oblsG_at hob hoL hp
  rw [Nat.zero_add] at hO
  simp only [gOne, Bool.and_eq_true] at h1
  obtain ⟨⟨hd, hps⟩, hg⟩ := h1
  obtain ⟨hcl, f, rfl, hb, hJ, hV⟩ := h
  have hav : ∀ l : List Nat, (∀ j ∈ l, j ∈ p.1) → AllJ plan V f w l := by
    intro l
    induction l with
    | nil => intro _; trivial
    | cons j l ih =>
      intro hl
      refine ⟨?_, ih fun x hx => hl x (by simp [hx])⟩
      have h2 := List.all_eq_true.1 hps j (hl j (by simp))
      obtain ⟨e, he, h3⟩ := Array.any_eq_true'.1 h2
      simp only [Bool.and_eq_true, beq_iff_eq] at h3
      have := hpre e he h3.1
      rw [h3.2] at this
      exact hV j this
  have hav := hav p.1 fun _ h => h
  have hnl : listed[i]? ≠ some true := by
    intro e
    rw [Array.getD_eq_getD_getElem?, e] at hun
    simp at hun
  have hput : ∀ v, (over a m f).put o.dst v = over a m (updO f o.dst v) := by
    intro v
    cases e : o.dst with
    | none => rfl
    | some d =>
      rw [e] at hd
      simp only [Bool.and_eq_true] at hd
      exact over_put a m f d v (getD_true hd.1)
  have hsame : ∀ (j : Nat) (v : Value), listed[j]? = some true → (menOf plan j).map (updO f o.dst v) = (menOf plan j).map f := by
    intro j v hj
    apply List.map_congr_left
    intro s hs
    apply updO_other
    intro e
    have hjs : j < ops.size := by
      by_cases h : j < ops.size
      · exact h
      · rw [Array.getElem?_eq_none (by omega)] at hj; cases hj
    unfold menB at hmen
    have h1 := List.all_eq_true.1 (List.all_eq_true.1 hmen j (by simpa using hjs)) i (by simpa using hlt)
    simp only [Bool.or_eq_true, beq_iff_eq] at h1
    rcases h1 with (h1 | h1) | h1
    · subst h1; exact hnl hj
    · exact hnl (covers_listed hcl _ j i (fun o' ho' => hcl j o' ho' hj) h1)
    · have := List.all_eq_true.1 h1 s hs
      rw [ho] at this
      simp [e] at this
  have hcl2 := closed_next hcl hi
  have hfin : ∀ v w2, V i ((menOf plan i).map (updO f o.dst v)) w2 → Below w0.heap.size w0 w2 → J (updO f o.dst v) w2 → (∀ j, V j ((menOf plan j).map f) w → V j ((menOf plan j).map f) w2) → InvG a m plan V J w0 ops (listed.setIfInBounds i true) ((over a m f).put o.dst v) w2 := by
    intro v w2 hv hb2 hj2 hk
    refine ⟨hcl2, updO f o.dst v, hput v, hb2, hj2, fun j hlj => ?_⟩
    by_cases e : j = i
    · subst e; exact hv
    · have hlj2 : listed[j]? = some true := by simpa [Array.getElem?_setIfInBounds, Ne.symm e] using hlj
      rw [hsame j v hlj2]
      exact hk j (hV j hlj2)
  have hDoes : DoesG P Q a m plan V J w0 i o f w → o.wp P (over a m f) w (fun a2 w2 => InvG a m plan V J w0 ops (listed.setIfInBounds i true) a2 w2) Q := fun hD =>
    hD _ fun a2 w2 ⟨v, ha, hv, hb2, hj2, hk⟩ => by subst ha; exact hfin v w2 hv hb2 hj2 hk
  have hO := hO f w hb hJ hav
  unfold wpOp
  rw [ho]
  simp only
  cases hgo : o.guard with
  | none =>
    rw [hgo] at hg
    have hw : Region.wanted o (yielded ops (over a m f).tmps) = true := by simp [Region.wanted, hgo]
    rw [if_pos hw]
    cases hp2 : p.2.2 with
    | none => rw [hp2] at hO; exact .inl (hDoes hO)
    | some x => rw [hp2] at hg; simp at hg
  | some jb =>
    obtain ⟨j, b⟩ := jb
    rw [hgo] at hg
    cases hp2 : p.2.2 with
    | none => rw [hp2] at hg; simp at hg
    | some sb =>
      obtain ⟨s, b'⟩ := sb
      rw [hp2] at hg hO
      simp only [Bool.and_eq_true] at hg
      obtain ⟨⟨⟨hs, hbb⟩, hms⟩, hsn⟩ := hg
      have hbb : b = b' := by simpa using hbb
      subst hbb
      have hs : (ops[j]?).bind (·.dst) = some s := by simpa using hs
      have hgs : (over a m f).tmps[s]? = some (f s) := by
        have := overL_at f m 0 s a.tmps.toList (getD_true hms) (by simpa using hsn)
        simpa [over] using this
      have hy : yielded ops (over a m f).tmps j = match f s with | .bool x => some x | _ => none := by
        unfold yielded
        rw [hs]
        simp only [Option.bind_some, hgs]
        cases f s <;> rfl
      by_cases hw : f s = .bool b
      · have : Region.wanted o (yielded ops (over a m f).tmps) = true := by simp [Region.wanted, hgo, hy, hw]
        rw [if_pos this]
        exact .inl (hDoes (hO.1 hw))
      · have : ¬ Region.wanted o (yielded ops (over a m f).tmps) = true := by
          simp only [Region.wanted, hgo, hy, beq_iff_eq]
          cases e : f s <;> simp
          rename_i x
          intro e2; subst e2; exact hw e
        rw [if_neg this]
        exact hfin _ _ (hO.2 hw).1 hb (hO.2 hw).2 fun _ h => h

theorem allG_of {f : Nat → Value} {w : World} : ∀ {q : GPlan} {s : Nat}, (∀ i p, q[i]? = some p → V (s + i) (p.2.1.map f) w) → AllG V f w s q
  | [], _, _ => trivial
  | p :: q, s, h => ⟨by simpa using h 0 p (by simp), allG_of fun i p' hp => by
      have := h (i + 1) p' (by simpa using hp)
      rw [show s + (i + 1) = s + 1 + i by omega] at this
      exact this⟩

theorem anyG (hok : gOk ops plan m a.tmps.size = true) (hob : OblsG P Q a m plan V J w0 0 ops.toList plan)
    (hdone : ∀ f w, Below w0.heap.size w0 w → J f w → AllG V f w 0 plan → Q .normal (over a m f) w) :
    ∀ (fuel : Nat) (listed : Array Bool) (a' : Act) (w : World), listed.size = ops.size → listed.toList.count false ≤ fuel → InvG a m plan V J w0 ops listed a' w → wpAny P .any ops Q fuel listed a' w := by
  have hok2 := hok
  simp only [gOk, Bool.and_eq_true] at hok2
  obtain ⟨⟨hback, hall⟩, _⟩ := hok2
  have hlen := gAll_length hall
  have hend : ∀ (listed : Array Bool) (a' : Act) (w : World), listed.size = ops.size → InvG a m plan V J w0 ops listed a' w → Region.ready .any ops listed = [] → Q .normal a' w := by
    rintro listed a' w hsz ⟨_, f, rfl, hb, hJ, hV⟩ hr
    refine hdone f w hb hJ (allG_of fun i p hp => ?_)
    have hi : i < plan.length := (List.getElem?_eq_some_iff.1 hp).1
    have := hV i (all_listedE hback hsz hr i (by simp at hlen; omega))
    rw [Nat.zero_add]
    unfold menOf at this
    rw [hp] at this
    exact this
  intro fuel
  induction fuel with
  | zero =>
    intro listed a' w hsz hc hI
    have hr : Region.ready .any ops listed = [] := by
      rw [List.eq_nil_iff_forall_not_mem]
      intro i hi
      obtain ⟨hlt, h1, _⟩ := ready_pre hi
      have h0 : listed.toList.count false = 0 := by omega
      rw [List.count_eq_zero] at h0
      have hlt2 : i < listed.size := by omega
      simp only [Array.getD_eq_getD_getElem?, Array.getElem?_eq_getElem hlt2, Option.getD_some] at h1
      exact h0 (by rw [← h1]; simp)
    exact ⟨hr, hend listed a' w hsz hI hr⟩
  | succ fuel ih =>
    intro listed a' w hsz hc hI
    refine ⟨hend listed a' w hsz hI, fun i hi => wpOp_mono (fun a2 w2 h2 => ih _ _ _ (by simpa using hsz) ?_ h2) (invG_step hok hob hsz hi hI)⟩
    obtain ⟨hlt, h1, _⟩ := ready_pre hi
    have hlt2 : i < listed.size := by omega
    simp only [Array.getD_eq_getD_getElem?, Array.getElem?_eq_getElem hlt2, Option.getD_some] at h1
    have hl : i < listed.toList.length := by simpa using hlt2
    have h2 : listed.toList[i] = false := by simpa using h1
    rw [Array.toList_setIfInBounds, List.count_set hl, h2]
    have hp : 0 < listed.toList.count false := List.count_pos_iff.2 (by rw [← h2]; exact List.getElem_mem _)
    rw [if_pos (by rfl), if_neg (by decide)]
    omega

/-- A region that draws its order, stores wherever they stand: whatever the order is, each operation does what it must. -/
theorem region_all {id : Nat} (m : List Bool) (plan : GPlan) (V : Nat → List Value → World → Prop) (J : (Nat → Value) → World → Prop) (hmix : P.follows .mixedOrders = true) (hok : gOk ops plan m a.tmps.size = true)
    (hJ0 : ∀ w, Below w0.heap.size w0 w → J (fun k => (a.tmps.toList[k]?).getD undef) w) (hob : OblsG P Q a m plan V J w0 0 ops.toList plan)
    (hdone : ∀ f w, Below w0.heap.size w0 w → J f w → AllG V f w 0 plan → Q .normal (over a m f) w) : (Code.region id ops true).wp P Q a w0 := by
  refine wp_region_any hmix (anyG hok hob hdone _ _ _ _ (by simp) (by simp) ⟨?_, fun k => (a.tmps.toList[k]?).getD undef, (over_start a m).symm, ⟨rfl, rfl, rfl, Nat.le_refl _, fun _ _ => rfl⟩, hJ0 _ ⟨rfl, rfl, rfl, Nat.le_refl _, fun _ _ => rfl⟩, ?_⟩)
  · intro i o _ h
    simp [Array.getElem?_replicate] at h
  · intro i h
    simp [Array.getElem?_replicate] at h
/-- The like, where the word on all slots holds behind one draw. -/
theorem region_allD {id : Nat} (m : List Bool) (plan : GPlan) (V : Nat → List Value → World → Prop) (J : (Nat → Value) → World → Prop) (hmix : P.follows .mixedOrders = true) (hok : gOk ops plan m a.tmps.size = true)
    (hJ0 : J (fun k => (a.tmps.toList[k]?).getD undef) w0.drew) (hob : OblsG P Q a m plan V J w0 0 ops.toList plan)
    (hdone : ∀ f w, Below w0.heap.size w0 w → J f w → AllG V f w 0 plan → Q .normal (over a m f) w) : (Code.region id ops true).wp P Q a w0 := by
  refine wp_region_any hmix (anyG hok hob hdone _ _ _ _ (by simp) (by simp) ⟨?_, fun k => (a.tmps.toList[k]?).getD undef, (over_start a m).symm, ⟨rfl, rfl, rfl, Nat.le_refl _, fun _ _ => rfl⟩, hJ0, ?_⟩)
  · intro i o _ h
    simp [Array.getElem?_replicate] at h
  · intro i h
    simp [Array.getElem?_replicate] at h
end
end Go.Proofs.Ytgelbndbkmedlaa
