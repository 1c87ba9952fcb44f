/- More of slices of the call's own; where a place, a pair is laid. -/
import Derived.Test.YtgbnjgenopdmfaaVC
import Derived.Laws.AppendOwnNone
namespace Go.Proofs.Ytgbnjgenopdmfaa
open Go.RowKit

theorem rd_noneV {α : Type} {c : Enc α} {w : World} {l : List α} (h : RdR c w none l) : l = [] := by
  rcases h with h | ⟨b, off, e, _⟩
  · exact h
  · cases e
/-- A list, nil or not, appended to the call's own. -/
theorem wpList_append_opt {α : Type} {c : Enc α} (hgc : Good c) {T by' : Nat} {z : Value} (hT : Try.prog.underlying T = some (.slice c.E)) (hI : (Try.prog.info? c.E).map (fun i => (i.zero, i.size, i.bytes)) = some (some z, c.sz, by')) (hz : z.cells.size = c.sz) (hs0 : 0 < c.sz)
    (w : World) {ops : Array Oper} {rest : List Oper} {o : Oper} {a : Act} {Q : Exit → Act → World → Prop} (hgd : o.guard = none) (s x : Operand)
    (ho : o.op = .call { callee := .builtin .append, args := #[s, x], argTypes := #[T, T] }) (base : Nat) (v : Value) (ps : List α) (hs : a.eval s = v) (hown : OwnR c w base v ps)
    (ao : Option Addr) (n cp : Nat) (l : List α) (hn : n = l.length) (hx : a.eval x = .slice ao n cp) (hq : RdR c w ao l) (hc : ao = none → cp = 0) (h63 : ps.length + l.length ≤ maxLen) (hlen : (ps.length + l.length) * by' ≤ 140737488355328) (hbase : base ≤ w.heap.size)
    (h : ∀ v' w', OwnR c w' base v' (ps ++ l) → w.grownBy w' v.ownBlock → (v'.ownBlock = v.ownBlock ∨ v'.ownBlock = some w.heap.size) → wpList Try.prog ops Q rest (a.put o.dst v') w') :
    wpList Try.prog ops Q (o :: rest) a w := by
  subst hn
  cases ao with
  | none =>
    obtain rfl := rd_noneV hq
    obtain rfl := hc rfl
    obtain ⟨i0, hi, hz0, hz1, hz2⟩ := info_parts hI
    exact wpList_append_own_none hgd s x T ho base c.E i0 c.sz hT hi v ps.length (c.cells ps) hs hown hx (h v w (by rw [List.append_nil]; exact hown) ⟨rfl, rfl, rfl, Nat.le_refl _, fun _ _ _ => rfl⟩ (.inl rfl))
  | some ad => exact wpList_append_list hgc hT hI hz hs0 w hgd s x ho base v ps hs hown ad cp l hx hq h63 hlen hbase h
/-- The parts of a slice of the call's own. -/
theorem OwnR.pre {α : Type} {c : Enc α} (hgc : Good c) {w : World} {base g n cap : Nat} {ps : List α} (h : OwnR c w base (.slice (some ⟨g, 0, none⟩) n cap) ps) (k : Nat) : RdR c w (some ⟨g, 0, none⟩) (ps.take k) := by
  by_cases hn : ps.take k = []
  · exact .inl hn
  rcases h.read hgc with ⟨h1, _⟩ | ⟨g', cap', e, _, _, hlt, hc⟩
  · exact absurd (by rw [h1]; simp) hn
  · injection e with e1
    injection e1 with e1
    injection e1 with e1
    subst e1
    refine .inr ⟨g, 0, rfl, hlt, fun j hj i hi => ?_⟩
    have hj2 : j < ps.length := by rw [List.length_take] at hj; omega
    rw [Nat.zero_add, List.getElem_take]
    exact hc j hj2 i hi
theorem OwnR.suf {α : Type} {c : Enc α} (hgc : Good c) {w : World} {base g n cap : Nat} {ps : List α} (h : OwnR c w base (.slice (some ⟨g, 0, none⟩) n cap) ps) (k : Nat) : RdR c w (some ⟨g, k * c.sz, none⟩) (ps.drop k) := by
  by_cases hn : ps.drop k = []
  · exact .inl hn
  rcases h.read hgc with ⟨h1, _⟩ | ⟨g', cap', e, _, _, hlt, hc⟩
  · exact absurd (by rw [h1]; simp) hn
  · injection e with e1
    injection e1 with e1
    injection e1 with e1
    subst e1
    refine .inr ⟨g, k * c.sz, rfl, hlt, fun j hj i hi => ?_⟩
    have hj2 : k + j < ps.length := by rw [List.length_drop] at hj; omega
    rw [List.getElem_drop]
    have := hc (k + j) hj2 i hi
    rw [Nat.add_mul] at this
    exact this
theorem OwnR.inv {α : Type} {c : Enc α} {w : World} {base : Nat} {v : Value} {ps : List α} (h : OwnR c w base v ps) : (v = .slice none 0 0 ∧ ps = []) ∨ ∃ g cap, v = .slice (some ⟨g, 0, none⟩) ps.length cap ∧ base ≤ g ∧ g < w.heap.size ∧ ps.length ≤ cap ∧ cap ≤ maxLen := by
  rcases h.2 with ⟨h1, h2⟩ | ⟨g, cap, cur, h1, h2, h3, h4, h5, _⟩
  · exact .inl ⟨h1, List.eq_nil_of_length_eq_zero h2⟩
  · exact .inr ⟨g, cap, h1, h2, (Array.getElem?_eq_some_iff.1 h3).1, h4, h5⟩
theorem cells_set {α : Type} {c : Enc α} (hgc : Good c) (y : α) (o : Nat) (ho : o < c.sz) (u : Value) : ∀ (ps : List α) (k : Nat) (hk : k < ps.length), c.enc y = (c.enc (ps[k]'hk)).set o u → c.cells (ps.set k y) = (c.cells ps).set (k * c.sz + o) u
  | x :: ps, 0, _, hy => by
    show c.enc y ++ c.cells ps = (c.enc x ++ c.cells ps).set (0 * c.sz + o) u
    rw [Nat.zero_mul, Nat.zero_add, List.set_append_left _ _ (by rw [hgc.len]; exact ho)]
    rw [hy]
    rfl
  | x :: ps, k + 1, hk, hy => by
    show c.enc x ++ c.cells (ps.set k y) = (c.enc x ++ c.cells ps).set ((k + 1) * c.sz + o) u
    rw [cells_set hgc y o ho u ps k (by simpa using hk) hy]
    have e : (k + 1) * c.sz + o = (c.enc x).length + (k * c.sz + o) := by rw [hgc.len, Nat.succ_mul]; omega
    rw [e, List.set_append_right _ _ (by omega), Nat.add_sub_cancel_left]
/-- One cell of an element is another one. -/
theorem OwnR.set {α : Type} {c : Enc α} (hgc : Good c) {w : World} {base g n cap : Nat} {ps : List α} (h : OwnR c w base (.slice (some ⟨g, 0, none⟩) n cap) ps) {k : Nat} (hk : k < ps.length) {o : Nat} (ho : o < c.sz) (u : Value) (y : α) (hy : c.enc y = (c.enc (ps[k]'hk)).set o u) :
    OwnR c (w.setCell ⟨g, k * c.sz + o, none⟩ u) base (.slice (some ⟨g, 0, none⟩) n cap) (ps.set k y) := by
  obtain ⟨h1, h2 | ⟨g', cap', cur, e, h3, h4, h5, h6, h7, h8⟩⟩ := h
  · cases h2.1
  · injection e with e1 e2 e3
    injection e1 with e1
    injection e1 with e1
    subst e1 e3 e2
    have hkn : k * c.sz + o < ps.length * c.sz := by
      have : (k + 1) * c.sz ≤ ps.length * c.sz := Nat.mul_le_mul_right _ hk
      rw [Nat.succ_mul] at this
      omega
    refine ⟨by rw [cells_length hgc], .inr ⟨g, cap, cur.setIfInBounds (k * c.sz + o) u, by rw [List.length_set], h3, ?_, by rw [List.length_set]; exact h5, h6, by rw [Array.size_setIfInBounds]; exact h7, ?_⟩⟩
    · unfold World.setCell
      simp only [Array.getElem?_modify, if_true, h4]
      simp
    · rw [List.length_set, cells_set hgc y o ho u ps k hk hy, ← h8, Array.toList_setIfInBounds, List.take_set]
theorem insP_at {x : Plc} : ∀ {l : List Plc} {k : Nat}, k ≤ l.length → (∀ y ∈ l.take k, pltB y x = true) → (∀ (h : k < l.length), pltB (l[k]'h) x = false) → insP x l = l.take k ++ x :: l.drop k
  | [], 0, _, _, _ => rfl
  | y :: l, 0, _, _, h => by
    have := h (by simp)
    simp only [List.getElem_cons_zero] at this
    simp [insP, this]
  | y :: l, k + 1, hk, h1, h2 => by
    have hy := h1 y (by simp)
    have ih := insP_at (x := x) (l := l) (k := k) (by simpa using hk) (fun z hz => h1 z (by simp [hz])) (fun h => by have := h2 (by simpa using h); simpa using this)
    simp [insP, hy, ih]
theorem addP_new {r : Rt} {v : Int} : ∀ {l : Prs} {k : Nat}, k ≤ l.length → (∀ y ∈ l.take k, rltB y.1 r = true) → (∀ (h : k < l.length), rltB (l[k]'h).1 r = false ∧ (l[k]'h).1 ≠ r) → addP r v l = l.take k ++ (r, v) :: l.drop k
  | [], 0, _, _, _ => rfl
  | y :: l, 0, _, _, h => by
    have := h (by simp)
    simp only [List.getElem_cons_zero] at this
    simp [addP, this.1, this.2]
  | y :: l, k + 1, hk, h1, h2 => by
    have hy := h1 y (by simp)
    have ih := addP_new (r := r) (v := v) (l := l) (k := k) (by simpa using hk) (fun z hz => h1 z (by simp [hz])) (fun h => by have := h2 (by simpa using h); simpa using this)
    simp [addP, hy, ih]
theorem addP_old {r : Rt} {v : Int} : ∀ {l : Prs} {k : Nat} (h : k < l.length), (∀ y ∈ l.take k, rltB y.1 r = true) → (l[k]'h).1 = r → addP r v l = l.set k (r, (l[k]'h).2 + v)
  | (q, n) :: l, 0, _, _, h => by
    simp only [List.getElem_cons_zero] at h
    subst h
    have : rltB q q = false := by
      cases h2 : rltB q q with
      | false => rfl
      | true => exact absurd rfl (rlt_ne h2)
    simp [addP, this]
  | y :: l, k + 1, hk, h1, h2 => by
    have hy := h1 y (by simp)
    have ih := addP_old (r := r) (v := v) (l := l) (k := k) (by simpa using hk) (fun z hz => h1 z (by simp [hz])) (by simpa using h2)
    simp [addP, hy, ih]
end Go.Proofs.Ytgbnjgenopdmfaa
