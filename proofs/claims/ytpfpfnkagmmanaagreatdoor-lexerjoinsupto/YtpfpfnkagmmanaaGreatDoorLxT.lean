/- Tokens in memory; the reader in memory. -/
import Derived.Test.YtpfpfnkagmmanaaGreatDoorLxS
import Derived.Test.YtpfpfnkagmmanaaGreatDoorShelf
import Derived.Maps.AppendAt
import Derived.Deep.QuietTactic
import Derived.Deep.LoopGhost
import Derived.Deep.RegionWith
import Derived.BigQuiet
namespace Go.Proofs.YtpfpfnkagmmanaaGreatDoor
open Go.RowKit Go.Shelf

theorem ret_bool {a b : Bool} (h : a = b) : Ending.returned (.bool a) = .returned (.bool b) := by rw [h]
theorem ret_int {k : IntKind} {a b : Int} (h : a = b) : Ending.returned (.int k a) = .returned (.int k b) := by rw [h]
theorem cell_later {w w' : World} (hb : Below w.heap.size w w') {b o : Nat} {v : Value} (h : w.cell? ⟨b, o, none⟩ = some v) : w'.cell? ⟨b, o, none⟩ = some v := by
  rw [← h]
  refine hb.cell (p := ⟨b, o, none⟩) ?_
  show b < w.heap.size
  by_cases e : b < w.heap.size
  · exact e
  · have : w.heap[b]? = none := by simp; omega
    simp [World.cell?, this] at h
theorem below_drewN {B : Nat} {a w : World} (h : Below B a w) (n : Nat) : Below B a (w.drewN n) := ⟨h.os, h.tape, h.output, h.size, h.block⟩
theorem below_on {w w1 w2 : World} (h : Below w.heap.size w w1) (h2 : Below w1.heap.size w1 w2) : Below w.heap.size w w2 := h.trans (h2.mono h.size)
abbrev ptr (b : Nat) : Value := .pointer (some ⟨b, 0, none⟩)
abbrev fnV (g : Nat) : Value := .func (.func g) #[] #[]

/-- Tokens as cells. -/
def cellsT (ps : List Tk) : List Value := ps.flatMap fun p => [.int .i64 p.k, .string ⟨p.t.toArray⟩, .int .i64 p.n]
theorem cellsT_length (ps : List Tk) : (cellsT ps).length = ps.length * 3 := by
  induction ps with
  | nil => rfl
  | cons p ps ih => simp only [cellsT, List.flatMap_cons, List.length_append, List.length_cons, List.length_nil] at ih ⊢; omega
theorem cellsT_append (a b : List Tk) : cellsT (a ++ b) = cellsT a ++ cellsT b := by simp [cellsT]
theorem cellsT_one (p : Tk) : cellsT [p] = [.int .i64 p.k, .string ⟨p.t.toArray⟩, .int .i64 p.n] := by simp [cellsT]
theorem cellsT_at {ps : List Tk} {k : Nat} (h : k < ps.length) : (cellsT ps)[k * 3]? = some (.int .i64 (ps[k]'h).k) ∧ (cellsT ps)[k * 3 + 1]? = some (.string ⟨(ps[k]'h).t.toArray⟩) ∧ (cellsT ps)[k * 3 + 2]? = some (.int .i64 (ps[k]'h).n) := by
  have e : ps = ps.take k ++ ps[k]'h :: ps.drop (k + 1) := by rw [← List.drop_eq_getElem_cons h, List.take_append_drop]
  have e2 : cellsT ps = cellsT (ps.take k) ++ ([.int .i64 (ps[k]'h).k, .string ⟨(ps[k]'h).t.toArray⟩, .int .i64 (ps[k]'h).n] ++ cellsT (ps.drop (k + 1))) := by
    conv => lhs; rw [e]
    rw [cellsT_append]; rfl
  have hl : (cellsT (ps.take k)).length = k * 3 := by rw [cellsT_length, List.length_take, Nat.min_eq_left (by omega)]
  rw [e2]
  refine ⟨?_, ?_, ?_⟩
  · rw [List.getElem?_append_right (by omega), hl]; simp
  · rw [List.getElem?_append_right (by omega), hl]; simp
  · rw [List.getElem?_append_right (by omega), hl]; simp
theorem Tryz.infoT : (Tryz.prog.info? 36).map (fun i => (i.zero, i.size, i.bytes)) = some (some (.agg #[.int .i64 0, .string ⟨#[]⟩, .int .i64 0]), 3, 32) := by kernel_rfl

/-- Tokens that lie in a slice's memory. -/
def TkAt (w : World) (b o : Nat) (p : Tk) : Prop := b < w.heap.size ∧ w.cell? ⟨b, o, none⟩ = some (.int .i64 p.k) ∧ w.cell? ⟨b, o + 1, none⟩ = some (.string ⟨p.t.toArray⟩) ∧ w.cell? ⟨b, o + 2, none⟩ = some (.int .i64 p.n)
theorem TkAt.next {w w1 : World} {b o : Nat} {p : Tk} (h : TkAt w b o p) (hb : Below w.heap.size w w1) : TkAt w1 b o p :=
  ⟨Nat.lt_of_lt_of_le h.1 hb.size, cell_later hb h.2.1, cell_later hb h.2.2.1, cell_later hb h.2.2.2⟩
def Tks (w : World) (ao : Option Addr) (l : List Tk) : Prop :=
  l = [] ∨ ∃ b off, ao = some ⟨b, off, none⟩ ∧ ∀ k (h : k < l.length), TkAt w b (off + k * 3) (l[k]'h)
theorem Tks.next {w w1 : World} {ao : Option Addr} {l : List Tk} (h : Tks w ao l) (hb : Below w.heap.size w w1) : Tks w1 ao l :=
  h.elim .inl fun ⟨b, off, h1, h2⟩ => .inr ⟨b, off, h1, fun k hk => (h2 k hk).next hb⟩
theorem Tks.at {w : World} {ao : Option Addr} {l : List Tk} (h : Tks w ao l) {k : Nat} (hk : k < l.length) : ∃ b off, ao = some ⟨b, off, none⟩ ∧ TkAt w b (off + k * 3) (l[k]'hk) := by
  rcases h with rfl | ⟨b, off, h1, h2⟩
  · exact absurd hk (Nat.not_lt_zero _)
  · exact ⟨b, off, h1, h2 k hk⟩
theorem Tks.nil (w : World) (ao : Option Addr) : Tks w ao [] := .inl rfl

/-- The call's own tokens. -/
def OwnT (w : World) (base : Nat) (v : Value) (ps : List Tk) : Prop := w.ownsRow base 36 3 v ps.length (cellsT ps)
theorem OwnT.nil (w : World) (base : Nat) : OwnT w base (.slice none 0 0) [] := World.ownsRow_nil w base 36 3
theorem OwnT.shape {w : World} {base : Nat} {v : Value} {ps : List Tk} (h : OwnT w base v ps) : ∃ ao cap, v = .slice ao ps.length cap := by
  rcases h.2 with ⟨h1, h2⟩ | ⟨g, cap, cur, h1, _⟩
  · exact ⟨none, 0, by rw [h1, h2]⟩
  · exact ⟨_, _, h1⟩
theorem owns_later {w w' : World} {base e k n : Nat} {v : Value} {cs : List Value} (h : w.ownsRow base e k v n cs) (hb : Below w.heap.size w w') : w'.ownsRow base e k v n cs := by
  refine ⟨h.1, h.2.elim .inl fun ⟨g, cap, cur, h1, h2, h3, h4⟩ => .inr ⟨g, cap, cur, h1, h2, ?_, h4⟩⟩
  rw [hb.block g (Array.getElem?_eq_some_iff.1 h3).1]; exact h3
theorem owns_base {w : World} {base base' e k n : Nat} {v : Value} {cs : List Value} (h : w.ownsRow base e k v n cs) (hb : base' ≤ base) : w.ownsRow base' e k v n cs :=
  ⟨h.1, h.2.elim .inl fun ⟨g, cap, cur, h1, h2, h3⟩ => .inr ⟨g, cap, cur, h1, Nat.le_trans hb h2, h3⟩⟩
theorem owns_set {w : World} {base e k n b : Nat} {v : Value} {cs : List Value} (h : w.ownsRow base e k v n cs) (hb : b < base) (o : Nat) (u : Value) : (w.setCell ⟨b, o, none⟩ u).ownsRow base e k v n cs := by
  refine ⟨h.1, h.2.elim .inl fun ⟨g, cap, cur, h1, h2, h3, h4⟩ => .inr ⟨g, cap, cur, h1, h2, ?_, h4⟩⟩
  have : ¬ b = g := by omega
  simp [World.setCell, Array.getElem?_modify, this, h3]
theorem OwnT.later {w w' : World} {base : Nat} {v : Value} {ps : List Tk} (h : OwnT w base v ps) (hb : Below w.heap.size w w') : OwnT w' base v ps := owns_later h hb
theorem OwnT.tks {w : World} {base : Nat} {v : Value} {ps : List Tk} (h : OwnT w base v ps) : ∃ ao cap, v = .slice ao ps.length cap ∧ Tks w ao ps := by
  rcases h.2 with ⟨h1, h2⟩ | ⟨g, cap', cur, h1, h2, h3, h4⟩
  · exact ⟨none, 0, by rw [h1, h2], .inl (List.eq_nil_of_length_eq_zero h2)⟩
  · subst h1
    refine ⟨_, _, rfl, .inr ⟨g, 0, rfl, fun k hk => ?_⟩⟩
    have c := cellsT_at hk
    have hl := cellsT_length ps
    have e1 := World.ownsRow.cellAt h (k * 3) (by omega)
    have e2 := World.ownsRow.cellAt h (k * 3 + 1) (by omega)
    have e3 := World.ownsRow.cellAt h (k * 3 + 2) (by omega)
    rw [Nat.zero_add]
    exact ⟨(Array.getElem?_eq_some_iff.1 h3).1, e1.trans c.1, e2.trans c.2.1, e3.trans c.2.2⟩
/-- One token appended to the call's own. -/
theorem wpList_append_tok (w : World) {ops : Array Oper} {rest : List Oper} {o : Oper} {a : Act} {Q : Exit → Act → World → Prop} (hgd : o.guard = none) (s x : Operand)
    (ho : o.op = .call { callee := .builtin .append, args := #[s, x], argTypes := #[22, 22] }) (base : Nat) (v : Value) (ps : List Tk) (hs : a.eval s = v) (hown : OwnT w base v ps)
    (b : Nat) (p : Tk) (hx : a.eval x = .slice (some ⟨b, 0, none⟩) 1 1) (h0 : w.cell? ⟨b, 0, none⟩ = some (.int .i64 p.k)) (h1 : w.cell? ⟨b, 1, none⟩ = some (.string ⟨p.t.toArray⟩)) (h2 : w.cell? ⟨b, 2, none⟩ = some (.int .i64 p.n))
    (hlen : ps.length ≤ 1000000000000) (hbase : base ≤ w.heap.size)
    (h : ∀ v' w', OwnT w' base v' (ps ++ [p]) → w.grownBy w' v.ownBlock → wpList Tryz.prog ops Q rest (a.put o.dst v') w') :
    wpList Tryz.prog ops Q (o :: rest) a w := by
  obtain ⟨i0, hi, hz0, hz1, hz2⟩ := info_parts Tryz.infoT
  refine wpList_append_own_at w hgd s x 22 ho base 36 i0 (.agg #[.int .i64 0, .string ⟨#[]⟩, .int .i64 0]) 3 32 Tryz.underlying22 hi hz0 hz1 hz2 rfl (by decide) v ps.length (cellsT ps) hs hown ⟨b, 0, none⟩ 1 1 [.int .i64 p.k, .string ⟨p.t.toArray⟩, .int .i64 p.n] hx rfl ?_ ?_ ?_ ?_ hbase ?_
  · intro j u hj
    match j, hj with
    | 0, hj => simp at hj; subst hj; simpa [Addr.add] using h0
    | 1, hj => simp at hj; subst hj; simpa [Addr.add] using h1
    | 2, hj => simp at hj; subst hj; simpa [Addr.add] using h2
  · intro u hu
    simp at hu
    rcases hu with rfl | rfl | rfl <;> rfl
  · unfold maxLen; omega
  · omega
  · intro v' w' h1 h2 _ h4
    refine h v' w' ?_ h2
    unfold OwnT
    rw [cellsT_append, cellsT_one, List.length_append]
    exact h1
theorem below_owns {base e k n : Nat} {a w w' : World} {v : Value} {cs : List Value} (h : Below base a w) (ho : w.ownsRow base e k v n cs) (hg : w.grownBy w' v.ownBlock) (hB : base ≤ w.heap.size) : Below base a w' :=
  h.grown hg hB (fun k hk => (World.ownsRow.lt ho k hk).1)

/-- The reader, in the first block that the call made. -/
structure Rd (w0 w : World) (l : List UInt8) (n : Int) (ts : List Tk) (e : Int) : Prop where
  below : Below w0.heap.size w0 w
  lt : w0.heap.size < w.heap.size
  c0 : w.cell? ⟨w0.heap.size, 0, none⟩ = some (.string ⟨l.toArray⟩)
  c1 : w.cell? ⟨w0.heap.size, 1, none⟩ = some (.int .i64 n)
  c2 : ∃ v, w.cell? ⟨w0.heap.size, 2, none⟩ = some v ∧ OwnT w (w0.heap.size + 1) v ts
  c3 : w.cell? ⟨w0.heap.size, 3, none⟩ = some (.int .i64 e)
  f0 : w.frozen? ⟨w0.heap.size, 0, none⟩ = false
  f1 : w.frozen? ⟨w0.heap.size, 1, none⟩ = false
  f2 : w.frozen? ⟨w0.heap.size, 2, none⟩ = false
  f3 : w.frozen? ⟨w0.heap.size, 3, none⟩ = false
section
variable {w0 w : World} {l : List UInt8} {n : Int} {ts : List Tk} {e : Int}
theorem Rd.later (h : Rd w0 w l n ts e) {w' : World} (hb : Below w.heap.size w w') : Rd w0 w' l n ts e :=
  ⟨h.below.trans (hb.mono (Nat.le_of_lt h.lt)), Nat.lt_of_lt_of_le h.lt hb.size, cell_later hb h.c0, cell_later hb h.c1, let ⟨v, h1, h2⟩ := h.c2; ⟨v, cell_later hb h1, h2.later hb⟩, cell_later hb h.c3,
    (hb.frozen (p := ⟨w0.heap.size, 0, none⟩) h.lt).trans h.f0, (hb.frozen (p := ⟨w0.heap.size, 1, none⟩) h.lt).trans h.f1, (hb.frozen (p := ⟨w0.heap.size, 2, none⟩) h.lt).trans h.f2, (hb.frozen (p := ⟨w0.heap.size, 3, none⟩) h.lt).trans h.f3⟩
theorem Rd.drewN (h : Rd w0 w l n ts e) (q : Nat) : Rd w0 (w.drewN q) l n ts e := h.later (below_drewN (Below.refl _ _) q)
theorem Rd.new (w0 : World) (l : List UInt8) (n : Int) : Rd w0 (w0.alloc (.cells #[.string ⟨l.toArray⟩, .int .i64 n, .slice none 0 0, .int .i64 0] 57)) l n [] 0 :=
  ⟨(Below.refl _ _).alloc (Nat.le_refl _) _, by simp, by go_simp, by go_simp, ⟨_, by go_simp, OwnT.nil _ _⟩, by go_simp, by go_simp, by go_simp, by go_simp, by go_simp⟩
theorem Rd.set0 (h : Rd w0 w l n ts e) (l' : List UInt8) : Rd w0 (w.setCell ⟨w0.heap.size, 0, none⟩ (.string ⟨l'.toArray⟩)) l' n ts e := by
  have hlt := h.lt
  have c0 := h.c0; have c1 := h.c1; have c3 := h.c3; have f0 := h.f0; have f1 := h.f1; have f2 := h.f2; have f3 := h.f3
  obtain ⟨v, c2, h2⟩ := h.c2
  exact ⟨h.below.setCell (Nat.le_refl _) _, by simpa using hlt, by go_simp, by go_simp, ⟨v, by go_simp, owns_set h2 (Nat.lt_succ_self _) 0 _⟩, by go_simp, by go_simp, by go_simp, by go_simp, by go_simp⟩
theorem Rd.set1 (h : Rd w0 w l n ts e) (n' : Int) : Rd w0 (w.setCell ⟨w0.heap.size, 1, none⟩ (.int .i64 n')) l n' ts e := by
  have hlt := h.lt
  have c0 := h.c0; have c1 := h.c1; have c3 := h.c3; have f0 := h.f0; have f1 := h.f1; have f2 := h.f2; have f3 := h.f3
  obtain ⟨v, c2, h2⟩ := h.c2
  exact ⟨h.below.setCell (Nat.le_refl _) _, by simpa using hlt, by go_simp, by go_simp, ⟨v, by go_simp, owns_set h2 (Nat.lt_succ_self _) 1 _⟩, by go_simp, by go_simp, by go_simp, by go_simp, by go_simp⟩
theorem Rd.set3 (h : Rd w0 w l n ts e) (e' : Int) : Rd w0 (w.setCell ⟨w0.heap.size, 3, none⟩ (.int .i64 e')) l n ts e' := by
  have hlt := h.lt
  have c0 := h.c0; have c1 := h.c1; have c3 := h.c3; have f0 := h.f0; have f1 := h.f1; have f2 := h.f2; have f3 := h.f3
  obtain ⟨v, c2, h2⟩ := h.c2
  exact ⟨h.below.setCell (Nat.le_refl _) _, by simpa using hlt, by go_simp, by go_simp, ⟨v, by go_simp, owns_set h2 (Nat.lt_succ_self _) 3 _⟩, by go_simp, by go_simp, by go_simp, by go_simp, by go_simp⟩
/-- A token more: in a world that has grown from one where the token's own block was made. -/
theorem Rd.told (h : Rd w0 w l n ts e) {v : Value} (hv : OwnT w (w0.heap.size + 1) v ts) {w2 : World} {v' : Value} {ts' : List Tk} (hg : w.grownBy w2 v.ownBlock) (h2 : OwnT w2 (w0.heap.size + 1) v' ts') :
    Rd w0 (w2.setCell ⟨w0.heap.size, 2, none⟩ v') l n ts' e := by
  have hB : Below (w0.heap.size + 1) w w2 := below_owns (Below.refl _ _) hv hg h.lt
  have hlt : w0.heap.size < w2.heap.size := Nat.lt_of_lt_of_le h.lt hB.size
  have lt1 : w0.heap.size < w0.heap.size + 1 := Nat.lt_succ_self _
  have c0 : w2.cell? ⟨w0.heap.size, 0, none⟩ = _ := (hB.cell (p := ⟨w0.heap.size, 0, none⟩) lt1).trans h.c0
  have c1 : w2.cell? ⟨w0.heap.size, 1, none⟩ = _ := (hB.cell (p := ⟨w0.heap.size, 1, none⟩) lt1).trans h.c1
  have c3 : w2.cell? ⟨w0.heap.size, 3, none⟩ = _ := (hB.cell (p := ⟨w0.heap.size, 3, none⟩) lt1).trans h.c3
  obtain ⟨u, c2, _⟩ := h.c2
  have c2 : w2.cell? ⟨w0.heap.size, 2, none⟩ = _ := (hB.cell (p := ⟨w0.heap.size, 2, none⟩) lt1).trans c2
  have f0 : w2.frozen? ⟨w0.heap.size, 0, none⟩ = _ := (hB.frozen (p := ⟨w0.heap.size, 0, none⟩) lt1).trans h.f0
  have f1 : w2.frozen? ⟨w0.heap.size, 1, none⟩ = _ := (hB.frozen (p := ⟨w0.heap.size, 1, none⟩) lt1).trans h.f1
  have f2 : w2.frozen? ⟨w0.heap.size, 2, none⟩ = _ := (hB.frozen (p := ⟨w0.heap.size, 2, none⟩) lt1).trans h.f2
  have f3 : w2.frozen? ⟨w0.heap.size, 3, none⟩ = _ := (hB.frozen (p := ⟨w0.heap.size, 3, none⟩) lt1).trans h.f3
  exact ⟨(h.below.trans (hB.mono (Nat.le_succ _))).setCell (Nat.le_refl _) _, by simpa using hlt, by go_simp, by go_simp, ⟨v', by go_simp, owns_set h2 lt1 2 _⟩, by go_simp, by go_simp, by go_simp, by go_simp, by go_simp⟩
end
end Go.Proofs.YtpfpfnkagmmanaaGreatDoor
