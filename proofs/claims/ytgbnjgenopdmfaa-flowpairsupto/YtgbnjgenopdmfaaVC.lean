/- Slices of any elements that are cut at their front and appended to. -/
import Derived.Test.YtgbnjgenopdmfaaLC
import Derived.Test.YtgbnjgenopdmfaaVB
namespace Go.Proofs.Ytgbnjgenopdmfaa
open Go.RowKit

/-- A slice of the call's own, from block base on, cut anywhere at its front. -/
def HdE {α : Type} (c : Enc α) (w : World) (base : Nat) (v : Value) (hs : List α) : Prop :=
  ∃ ao cap, v = .slice ao hs.length cap ∧ hs.length ≤ cap ∧ cap ≤ maxLen ∧ (∀ ad, ao = some ad → base ≤ ad.block ∧ ad.block < w.heap.size) ∧ ((hs = [] ∧ cap = 0) ∨ ∃ g off, ao = some ⟨g, off, none⟩ ∧
    (∀ j, j < cap * c.sz → (w.cell? ⟨g, off + j, none⟩).isSome = true ∧ w.frozen? ⟨g, off + j, none⟩ = false) ∧ ∀ k (h : k < hs.length) j, j < c.sz → w.cell? ⟨g, off + k * c.sz + j, none⟩ = (c.enc (hs[k]'h))[j]?)
theorem HdE.nil {α : Type} (c : Enc α) (w : World) (base : Nat) : HdE c w base (.slice none 0 0) [] := ⟨none, 0, rfl, Nat.le_refl _, Nat.zero_le _, (fun ad h => by cases h), .inl ⟨rfl, rfl⟩⟩
theorem HdE.form {α : Type} {c : Enc α} {w : World} {base : Nat} {v : Value} {hs : List α} (h : HdE c w base v hs) : ∃ ao cap, v = .slice ao hs.length cap := by
  obtain ⟨ao, cap, e, _⟩ := h
  exact ⟨ao, cap, e⟩
theorem HdE.kept {α : Type} {c : Enc α} {w w1 : World} {base : Nat} {v : Value} {hs : List α} (h : HdE c w base v hs) (hs1 : w.heap.size ≤ w1.heap.size) (hk : ∀ k, v.ownBlock = some k → w1.heap[k]? = w.heap[k]?) : HdE c w1 base v hs := by
  obtain ⟨ao, cap, e, h1, h2, hb, h3⟩ := h
  subst e
  refine ⟨ao, cap, rfl, h1, h2, fun ad ha => ⟨(hb ad ha).1, Nat.lt_of_lt_of_le (hb ad ha).2 hs1⟩, h3.imp id ?_⟩
  rintro ⟨g, off, rfl, e5, e6⟩
  have hb := hk g rfl
  have hc : ∀ o, w1.cell? ⟨g, o, none⟩ = w.cell? ⟨g, o, none⟩ := fun o => World.cell?_of_block (a := ⟨g, o, none⟩) hb
  have hf : ∀ o, w1.frozen? ⟨g, o, none⟩ = w.frozen? ⟨g, o, none⟩ := fun o => World.frozen?_of_block (a := ⟨g, o, none⟩) hb
  exact ⟨g, off, rfl, fun j hj => by rw [hc, hf]; exact e5 j hj, fun k h j hj => by rw [hc]; exact e6 k h j hj⟩
theorem HdE.lt {α : Type} {c : Enc α} {w : World} {base : Nat} {v : Value} {hs : List α} (h : HdE c w base v hs) {k : Nat} (hk : v.ownBlock = some k) : base ≤ k ∧ k < w.heap.size := by
  obtain ⟨ao, cap, e, h1, h2, hb, h3⟩ := h
  subst e
  cases ao with
  | none => cases hk
  | some ad =>
    have := hb ad rfl
    simp [Value.ownBlock] at hk
    rw [hk] at this
    exact this
theorem HdE.later {α : Type} {c : Enc α} {w w1 : World} {base : Nat} {v : Value} {hs : List α} (h : HdE c w base v hs) (hb : Below w.heap.size w w1) : HdE c w1 base v hs := h.kept hb.size fun k hk => hb.block k (h.lt hk).2
theorem HdE.grown {α : Type} {c : Enc α} {w w1 : World} {base : Nat} {v : Value} {hs : List α} {row : Option Nat} (h : HdE c w base v hs) (hg : w.grownBy w1 row) (hne : v.ownBlock = none ∨ v.ownBlock ≠ row) : HdE c w1 base v hs := by
  refine h.kept hg.size fun k hk => hg.block k (h.lt hk).2 fun e => ?_
  rcases hne with h0 | h0
  · rw [h0] at hk; cases hk
  · exact h0 (hk.trans e)
theorem grown_set (w : World) (g o : Nat) (v : Value) : w.grownBy (w.setCell ⟨g, o, none⟩ v) (some g) :=
  ⟨rfl, rfl, rfl, by simp [World.setCell], fun k _ hk => Below.heap_setCell _ _ _ _ (fun e => hk (by rw [e]))⟩
theorem setCells_keep (g : Nat) : ∀ (xs : List Value) (o : Nat) (w : World), w.grownBy (w.setCells g o xs) (some g)
  | [], _, _ => ⟨rfl, rfl, rfl, Nat.le_refl _, fun _ _ _ => rfl⟩
  | x :: xs, o, w => by
    have h1 := grown_set w g o x
    have h2 := setCells_keep g xs (o + 1) (w.setCell ⟨g, o, none⟩ x)
    exact ⟨h2.os.trans h1.os, h2.tape.trans h1.tape, h2.output.trans h1.output, Nat.le_trans h1.size h2.size, fun k hk hn => (h2.block k (Nat.lt_of_lt_of_le hk h1.size) hn).trans (h1.block k hk hn)⟩
/-- One more behind what is held. -/
theorem run_append_hdE {α : Type} {c : Enc α} (hgc : Good c) {T by' : Nat} {z : Value} (hT : Try.prog.underlying T = some (.slice c.E)) (hI : (Try.prog.info? c.E).map (fun i => (i.zero, i.size, i.bytes)) = some (some z, c.sz, by')) (hz : z.cells.size = c.sz) (hs0 : 0 < c.sz) (hby : by' ≤ 140)
    (w : World) (base : Nat) (v : Value) (hs : List α) (h : HdE c w base v hs) (x : α) (b : Nat) (hx : ∀ j u, (c.enc x)[j]? = some u → w.cell? ⟨b, j, none⟩ = some u)
    (hlen : hs.length ≤ 1000000) (hB : base ≤ w.heap.size) (ty : TypeId) :
    ∃ ao cap w', (Builtin.append_ #[T, T] ty #[v, .slice (some ⟨b, 0, none⟩) 1 1]).run Try.prog w = .ok (.slice ao (hs.length + 1) cap) w' ∧ HdE c w' base (.slice ao (hs.length + 1) cap) (hs ++ [x]) ∧ w.grownBy w' v.ownBlock ∧ ((Value.slice ao (hs.length + 1) cap).ownBlock = v.ownBlock ∨ (Value.slice ao (hs.length + 1) cap).ownBlock = some w.heap.size) := by
  obtain ⟨i0, hi, hz0, hz1, hz2⟩ := info_parts hI
  obtain ⟨ao, cap, rfl, h1, h2, hbl, h3⟩ := h
  have hxl : (c.enc x).length = c.sz := hgc.len x
  have hsrc : Src Try.prog i0.size T (.slice (some ⟨b, 0, none⟩) 1 1) 1 (c.enc x) w := by
    refine Src.ofSlice w hT _ _ _ _ (by rw [hz1, hxl, Nat.one_mul]) ?_ (hgc.one x)
    intro j u hj
    rw [Addr.add_lit, Nat.zero_add]
    exact hx j u hj
  by_cases hroom : hs.length < cap
  · rcases h3 with ⟨_, h3⟩ | ⟨g, off, rfl, h7, h8⟩
    · omega
    · have hin : ∀ j, j < c.sz → hs.length * c.sz + j < cap * c.sz := fun j hj => by
        have : (hs.length + 1) * c.sz ≤ cap * c.sz := Nat.mul_le_mul_right _ hroom
        rw [Nat.succ_mul] at this
        omega
      have hrun := run_append_room_src w T T ty c.E i0 hT hi g off hs.length cap _ 1 (c.enc x) hsrc (by omega)
        (fun j hj => by rw [hz1, Nat.add_assoc]; exact (h7 _ (hin j (by rwa [hxl] at hj))).1) (fun j hj => by rw [hz1, Nat.add_assoc]; exact (h7 _ (hin j (by rwa [hxl] at hj))).2)
      rw [hz1] at hrun
      have hkp : w.grownBy (w.setCells g (off + hs.length * c.sz) (c.enc x)) (some g) := setCells_keep g _ _ _
      refine ⟨_, cap, _, hrun, ⟨_, cap, by rw [List.length_append]; rfl, by rw [List.length_append]; exact hroom, h2, fun ad ha => ⟨(hbl ad ha).1, Nat.lt_of_lt_of_le (hbl ad ha).2 hkp.size⟩, .inr ⟨g, off, rfl, fun j hj => ?_, fun k hk j hj => ?_⟩⟩, hkp, .inl rfl⟩
      · rw [World.frozen?_setCells]
        refine ⟨?_, (h7 j hj).2⟩
        by_cases hjj : hs.length * c.sz ≤ j ∧ j < hs.length * c.sz + c.sz
        · have := World.cell?_setCells_in g (c.enc x) (off + hs.length * c.sz) w (fun i hi => by rw [Nat.add_assoc]; exact (h7 _ (hin i (by rwa [hxl] at hi))).1) (j - hs.length * c.sz) (by rw [hxl]; omega)
          rw [show off + hs.length * c.sz + (j - hs.length * c.sz) = off + j by omega] at this
          rw [this]; rfl
        · rw [World.cell?_setCells_out g (c.enc x) _ w _ (fun _ _ => by rw [hxl]; simp only; omega)]
          exact (h7 j hj).1
      · by_cases hkl : k < hs.length
        · have hk2 : (k + 1) * c.sz ≤ hs.length * c.sz := Nat.mul_le_mul_right _ hkl
          rw [Nat.succ_mul] at hk2
          rw [World.cell?_setCells_out g (c.enc x) _ w _ (fun _ _ => by rw [hxl]; simp only; omega)]
          rw [List.getElem_append_left hkl]
          exact h8 k hkl j hj
        · have e : k = hs.length := by simp at hk; omega
          subst e
          have := World.cell?_setCells_in g (c.enc x) (off + hs.length * c.sz) w (fun i hi => by rw [Nat.add_assoc]; exact (h7 _ (hin i (by rwa [hxl] at hi))).1) j (by rw [hxl]; exact hj)
          rw [this]
          simp only [List.getElem_concat_length]
          exact (List.getElem?_eq_getElem (by rw [hxl]; exact hj)).symm
  · have e : cap = hs.length := by omega
    subst e
    have hold : ∃ olds : List Value, olds = c.cells hs ∧ (Builtin.firstCells i0.size hs.length (.slice ao hs.length hs.length)).run Try.prog w.drew = .ok olds.toArray w.drew := by
      refine ⟨_, rfl, ?_⟩
      rw [hz1]
      rcases h3 with ⟨h3, _⟩ | ⟨g, off, rfl, h7, h8⟩
      · subst h3
        cases ao with
        | none => exact run_firstCells_none _ _ _ _ _
        | some ad => exact run_firstCells_some _ _ _ _ _ _ [] (by simp) (fun j u hj => by simp at hj)
      · refine run_firstCells_some _ c.sz hs.length _ _ _ _ (cells_length hgc hs) ?_
        intro j u hj
        have hrd : RdR c w (some ⟨g, off, none⟩) hs := .inr ⟨g, off, rfl, (hbl _ rfl).2, h8⟩
        have := hrd.cells hgc hs0 j u hj
        simpa using this
    obtain ⟨olds, holds, hold⟩ := hold
    have hfit : Builtin.nextslicecap (hs.length + 1) hs.length * i0.bytes ≤ 281474976710656 := by
      rw [hz2]
      have h5 := nextslicecap_le (need := hs.length + 1) (old := hs.length) (by omega)
      have h6 := Nat.mul_le_mul h5 hby
      omega
    have hrun := run_append_grow_src w T T ty c.E i0 _ hT hi hz0 ao hs.length hs.length olds hold _ 1 (c.enc x) hsrc (by omega) (by omega) hfit
    have hge : hs.length + 1 ≤ grownCap w (hs.length + 1) hs.length c.E := grownCap_ge w _ _ _
    have hle : grownCap w (hs.length + 1) hs.length c.E ≤ maxLen := grownCap_le_maxLen w _ _ _ (by unfold maxLen; omega)
    generalize hgc' : grownCap w (hs.length + 1) hs.length c.E = gc at *
    obtain ⟨row, hrow⟩ : ∃ row : Array Value, row = (olds ++ c.enc x).toArray ++ Builtin.zeroCells z.cells (gc - (hs.length + 1)) := ⟨_, rfl⟩
    rw [← hrow] at hrun
    have hol : olds.length = hs.length * c.sz := by rw [holds]; exact cells_length hgc hs
    have hsz : row.size = gc * c.sz := by
      rw [hrow, Array.size_append, size_zeroCells, hz, List.size_toArray, List.length_append, hol, hxl]
      have h9 : gc = (hs.length + 1) + (gc - (hs.length + 1)) := by omega
      conv => rhs; rw [h9, Nat.add_mul, Nat.succ_mul]
    have hall : (olds ++ c.enc x) = c.cells (hs ++ [x]) := by rw [holds, cells_append, cells_one]
    have h9 : (w.drew.alloc (.cells row c.E)).heap[w.heap.size]? = some (.cells row c.E) := World.alloc_heap_new w.drew (.cells row c.E)
    refine ⟨_, gc, _, hrun, ⟨_, gc, by rw [List.length_append]; rfl, by rw [List.length_append]; exact hge, hle, fun ad ha => ?_, .inr ⟨w.heap.size, 0, rfl, fun j hj => ?_, fun k hk j hj => ?_⟩⟩, ?_, .inr rfl⟩
    · injection ha with ha
      subst ha
      exact ⟨hB, by simp⟩
    · constructor
      · have : (w.drew.alloc (.cells row c.E)).cell? ⟨w.heap.size, 0 + j, none⟩ = row[0 + j]? := by
          unfold World.cell?
          simp only [h9]
          rfl
        rw [this, Nat.zero_add, Array.getElem?_eq_getElem (by omega)]
        rfl
      · unfold World.frozen?
        simp only [h9]
        simp
    · have : (w.drew.alloc (.cells row c.E)).cell? ⟨w.heap.size, 0 + k * c.sz + j, none⟩ = row[0 + k * c.sz + j]? := by
        unfold World.cell?
        simp only [h9]
        rfl
      have h10 := cells_at hgc hk hj
      rw [this, Nat.zero_add, hrow, Array.getElem?_append_left ?_]
      · rw [← hall] at h10
        simpa using h10
      · have : (k + 1) * c.sz ≤ (hs.length + 1) * c.sz := Nat.mul_le_mul_right _ (by simp at hk; omega)
        rw [Nat.succ_mul, Nat.succ_mul] at this
        rw [List.size_toArray, List.length_append, hol, hxl]
        omega
    · exact ⟨rfl, rfl, rfl, by simp, fun k hk _ => Below.heap_alloc w.drew _ k hk⟩
theorem wpList_append_hdE {α : Type} {c : Enc α} (hgc : Good c) {T by' : Nat} {z : Value} (hT : Try.prog.underlying T = some (.slice c.E)) (hI : (Try.prog.info? c.E).map (fun i => (i.zero, i.size, i.bytes)) = some (some z, c.sz, by')) (hz : z.cells.size = c.sz) (hs0 : 0 < c.sz) (hby : by' ≤ 140)
    (w : World) {ops : Array Oper} {rest : List Oper} {o : Oper} {ac : Act} {Q : Exit → Act → World → Prop} (hgd : o.guard = none) (s x : Operand)
    (ho : o.op = .call { callee := .builtin .append, args := #[s, x], argTypes := #[T, T] }) (base : Nat) (v : Value) (hs : List α) (hs1 : ac.eval s = v) (h : HdE c w base v hs)
    (b : Nat) (p : α) (hx : ac.eval x = .slice (some ⟨b, 0, none⟩) 1 1) (hc : ∀ j u, (c.enc p)[j]? = some u → w.cell? ⟨b, j, none⟩ = some u) (hlen : hs.length ≤ 1000000) (hB : base ≤ w.heap.size)
    (hK : ∀ ao cap w', HdE c w' base (.slice ao (hs.length + 1) cap) (hs ++ [p]) → w.grownBy w' v.ownBlock → ((Value.slice ao (hs.length + 1) cap).ownBlock = v.ownBlock ∨ (Value.slice ao (hs.length + 1) cap).ownBlock = some w.heap.size) → wpList Try.prog ops Q rest (ac.put o.dst (.slice ao (hs.length + 1) cap)) w') : wpList Try.prog ops Q (o :: rest) ac w := by
  obtain ⟨ao, cap, w', hr, h2, h3, h4⟩ := run_append_hdE hgc hT hI hz hs0 hby w base v hs h p b hc hlen hB o.type
  refine wpList_plain hgd fun K hK' => ?_
  unfold Oper.wp execOp
  simp only [ho, resolve, invoke, builtin, Sem.run_bind, Sem.run_pure, Result.andThen_ok, List.map_toArray, List.map_cons, List.map_nil, hs1, hx, hr]
  exact hK' _ _ (hK ao cap w' h2 h3 h4)
/-- The first of them: its cells. -/
theorem HdE.first {α : Type} {c : Enc α} {w : World} {base : Nat} {v : Value} {x : α} {r : List α} (h : HdE c w base v (x :: r)) :
    ∃ g off cap, v = .slice (some ⟨g, off, none⟩) (r.length + 1) (cap + 1) ∧ r.length ≤ cap ∧ base ≤ g ∧ g < w.heap.size ∧ ∀ j, j < c.sz → w.cell? ⟨g, off + j, none⟩ = (c.enc x)[j]? ∧ w.frozen? ⟨g, off + j, none⟩ = false := by
  obtain ⟨ao, cap, e, h1, h2, hb, ⟨h3, _⟩ | ⟨g, off, e1, e3, e4⟩⟩ := h
  · cases h3
  · subst e1
    have hl : cap = (cap - 1) + 1 := by simp at h1; omega
    refine ⟨g, off, cap - 1, by rw [e, ← hl]; rfl, by simp at h1; omega, (hb _ rfl).1, (hb _ rfl).2, fun j hj => ⟨?_, ?_⟩⟩
    · have := e4 0 (by simp) j hj
      simpa using this
    · refine (e3 j ?_).2
      have : 1 * c.sz ≤ cap * c.sz := Nat.mul_le_mul_right _ (by omega)
      omega
/-- One cell of the first one is another one. -/
theorem HdE.less {α : Type} {c : Enc α} (hgc : Good c) {w : World} {base g off cap : Nat} {x y : α} {r : List α} (h : HdE c w base (.slice (some ⟨g, off, none⟩) (r.length + 1) (cap + 1)) (x :: r)) (o : Nat) (ho : o < c.sz) (u : Value) (hy : c.enc y = (c.enc x).set o u) :
    HdE c (w.setCell ⟨g, off + o, none⟩ u) base (.slice (some ⟨g, off, none⟩) (r.length + 1) (cap + 1)) (y :: r) := by
  obtain ⟨ao, cap2, e, h1, h2, hb, ⟨h3, _⟩ | ⟨g2, off2, e1, e3, e4⟩⟩ := h
  · cases h3
  · injection e with e5 e6 e7
    rw [e1] at e5
    injection e5 with e5
    injection e5 with e8 e5
    subst e5 e7 e8 e1
    have hcap : c.sz ≤ (cap + 1) * c.sz := by rw [Nat.succ_mul]; omega
    refine ⟨_, _, rfl, h1, h2, fun ad ha => ⟨(hb ad ha).1, by have := (hb ad ha).2; simpa [World.setCell] using this⟩, .inr ⟨g, off, rfl, fun j hj => ?_, fun k hk j hj => ?_⟩⟩
    · rw [World.frozen?_setCell]
      refine ⟨?_, (e3 j hj).2⟩
      by_cases hj2 : j = o
      · subst hj2
        rw [World.cell?_setCell_same' _ _ _ (e3 j hj).1]; rfl
      · rw [World.cell?_setCell_other _ _ _ _ (fun e => by injection e with _ e; omega)]
        exact (e3 j hj).1
    · match k, hk with
      | 0, _ =>
        have h0 := e4 0 (by simp) j hj
        simp only [List.getElem_cons_zero, Nat.zero_mul, Nat.add_zero] at h0 ⊢
        rw [hy, List.getElem?_set]
        by_cases hj2 : o = j
        · subst hj2
          rw [World.cell?_setCell_same' _ _ _ (e3 o (by omega)).1, if_pos rfl, if_pos (by rw [hgc.len]; exact ho)]
        · rw [World.cell?_setCell_other _ _ _ _ (fun e => by injection e with _ e; omega), if_neg hj2]
          exact h0
      | k + 1, hk =>
        have hk2 : c.sz ≤ (k + 1) * c.sz := by rw [Nat.succ_mul]; omega
        rw [World.cell?_setCell_other _ _ _ _ (fun e => by injection e; omega)]
        have := e4 (k + 1) (by simpa using hk) j hj
        simpa using this
/-- Without the first. -/
theorem HdE.tail {α : Type} {c : Enc α} {w : World} {base g off cap : Nat} {x : α} {r : List α} (h : HdE c w base (.slice (some ⟨g, off, none⟩) (r.length + 1) (cap + 1)) (x :: r)) :
    HdE c w base (.slice (some ⟨g, if cap = 0 then off else off + c.sz, none⟩) r.length cap) r := by
  obtain ⟨ao, cap2, e, h1, h2, hb, ⟨h3, _⟩ | ⟨g2, off2, e1, e3, e4⟩⟩ := h
  · cases h3
  · injection e with e5 e6 e7
    rw [e1] at e5
    injection e5 with e5
    injection e5 with e8 e5
    subst e5 e7 e8 e1
    refine ⟨_, _, rfl, by simp at h1; omega, Nat.le_trans (Nat.le_succ _) h2, fun ad ha => ?_, ?_⟩
    · injection ha with ha
      subst ha
      exact hb ⟨g, off, none⟩ rfl
    · by_cases hc : cap = 0
      · left
        subst hc
        exact ⟨List.eq_nil_of_length_eq_zero (by simp only [List.length_cons] at h1; omega), rfl⟩
      · right
        rw [if_neg hc]
        refine ⟨g, off + c.sz, rfl, fun j hj => ?_, fun k hk j hj => ?_⟩
        · have := e3 (c.sz + j) (by rw [Nat.succ_mul]; omega)
          rwa [← Nat.add_assoc] at this
        · have := e4 (k + 1) (by simpa using hk) j hj
          rw [show off + (k + 1) * c.sz + j = off + c.sz + k * c.sz + j by rw [Nat.succ_mul]; omega] at this
          simpa using this
/-- What a reference's Put put, and what it holds. -/
abbrev mvc (o : Mvd) : List Value := [.int .i64 o.num, .int .i64 o.fr.1, .int .i64 o.fr.2.1, .int .i64 o.fr.2.2, .int .i64 o.vol, .bool o.mkd]
abbrev encM : Enc Mvd := ⟨71, 6, mvc⟩
theorem goodM : Good encM := ⟨fun _ => rfl, fun x u hu => by simp [mvc] at hu; rcases hu with rfl | rfl | rfl | rfl | rfl | rfl <;> rfl⟩
theorem infoM : (Try.prog.info? 71).map (fun i => (i.zero, i.size, i.bytes)) = some (some (.agg #[.int .i64 0, .int .i64 0, .int .i64 0, .int .i64 0, .int .i64 0, .bool false]), 6, 48) := by kernel_rfl
abbrev drc (d : Drn) : List Value := [.int .i64 d.fr.1, .int .i64 d.fr.2.1, .int .i64 d.fr.2.2, .int .i64 d.vol, .bool d.mkd]
abbrev encD : Enc Drn := ⟨89, 5, drc⟩
theorem goodD : Good encD := ⟨fun _ => rfl, fun x u hu => by simp [drc] at hu; rcases hu with rfl | rfl | rfl | rfl | rfl <;> rfl⟩
theorem infoD : (Try.prog.info? 89).map (fun i => (i.zero, i.size, i.bytes)) = some (some (.agg #[.int .i64 0, .int .i64 0, .int .i64 0, .int .i64 0, .bool false]), 5, 40) := by kernel_rfl
end Go.Proofs.Ytgbnjgenopdmfaa
