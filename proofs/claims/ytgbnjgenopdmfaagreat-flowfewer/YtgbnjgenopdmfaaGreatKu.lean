import Derived.Test.YtgbnjgenopdmfaaGreatKs
import Derived.Test.YtgbnjgenopdmfaaGreatKt
import Derived.Deep.AppendSrc

/- What a tip holds, in memory: a slice that is cut at its front and appended to. -/
namespace Go.Proofs.YtgbnjgenopdmfaaGreat.L
open Go.RowKit
abbrev hcl (x : Nat × Int) : List Value := [.int .i64 x.1, .int .i64 0, .int .i64 x.2]
abbrev encH : Enc (Nat × Int) := ⟨89, 3, hcl⟩
theorem goodH : Good encH := ⟨fun _ => rfl, fun x u hu => by simp at hu; rcases hu with rfl | rfl | rfl <;> rfl⟩
abbrev shc (s : Shr) : List Value := [.int .i64 s.draw, .int .i64 s.put, .int .i64 s.vol]
abbrev encSh : Enc Shr := ⟨89, 3, shc⟩
theorem goodSh : Good encSh := ⟨fun _ => rfl, fun x u hu => by simp at hu; rcases hu with rfl | rfl | rfl <;> rfl⟩
theorem infoSh : (Tryz.prog.info? 89).map (fun i => (i.zero, i.size, i.bytes)) = some (some (.agg #[.int .i64 0, .int .i64 0, .int .i64 0]), 3, 24) := by kernel_rfl
/-- What is held: from block B on, not in block T. -/
def Hd (w : World) (B T : Nat) (v : Value) (hs : List (Nat × Int)) : Prop :=
  ∃ ao cap, v = .slice ao hs.length cap ∧ hs.length ≤ cap ∧ cap ≤ maxLen ∧ ((hs = [] ∧ cap = 0) ∨ ∃ g off, ao = some ⟨g, off, none⟩ ∧ B ≤ g ∧ g ≠ T ∧ g < w.heap.size ∧
    (∀ j, j < cap * 3 → (w.cell? ⟨g, off + j, none⟩).isSome = true ∧ w.frozen? ⟨g, off + j, none⟩ = false) ∧ ∀ k (h : k < hs.length) j, j < 3 → w.cell? ⟨g, off + k * 3 + j, none⟩ = (hcl (hs[k]'h))[j]?)
theorem Hd.nil (w : World) (B T : Nat) : Hd w B T (.slice none 0 0) [] := ⟨none, 0, rfl, Nat.le_refl _, Nat.zero_le _, .inl ⟨rfl, rfl⟩⟩
theorem Hd.form {w : World} {B T : Nat} {v : Value} {hs : List (Nat × Int)} (h : Hd w B T v hs) : ∃ ao cap, v = .slice ao hs.length cap := by
  obtain ⟨ao, cap, e, _⟩ := h
  exact ⟨ao, cap, e⟩
/-- Where nothing from block B on, but block T, has turned. -/
theorem Hd.kept {w w1 : World} {B T : Nat} {v : Value} {hs : List (Nat × Int)} (h : Hd w B T v hs) (hs1 : w.heap.size ≤ w1.heap.size) (hk : ∀ k, B ≤ k → k < w.heap.size → k ≠ T → w1.heap[k]? = w.heap[k]?) : Hd w1 B T v hs := by
  obtain ⟨ao, cap, e, h1, h2, h3⟩ := h
  refine ⟨ao, cap, e, h1, h2, h3.imp id ?_⟩
  rintro ⟨g, off, e1, e2, e3, e4, e5, e6⟩
  have hb := hk g e2 e4 e3
  have hc : ∀ o, w1.cell? ⟨g, o, none⟩ = w.cell? ⟨g, o, none⟩ := fun o => World.cell?_of_block (a := ⟨g, o, none⟩) hb
  have hf : ∀ o, w1.frozen? ⟨g, o, none⟩ = w.frozen? ⟨g, o, none⟩ := fun o => World.frozen?_of_block (a := ⟨g, o, none⟩) hb
  exact ⟨g, off, e1, e2, e3, Nat.lt_of_lt_of_le e4 hs1, fun j hj => by rw [hc, hf]; exact e5 j hj, fun k h j hj => by rw [hc]; exact e6 k h j hj⟩
theorem Hd.later {w w1 : World} {B T : Nat} {v : Value} {hs : List (Nat × Int)} (h : Hd w B T v hs) (hb : Below w.heap.size w w1) : Hd w1 B T v hs := h.kept hb.size fun k _ hk _ => hb.block k hk
theorem Kpt.setCell {M : Nat → Prop} (w : World) (g o : Nat) (v : Value) (hM : M g) : Kpt M w (w.setCell ⟨g, o, none⟩ v) :=
  ⟨rfl, rfl, rfl, by simp [World.setCell], fun k _ hk => Below.heap_setCell _ _ _ _ (fun e => hk (by rw [e]; exact hM))⟩
/-- One more behind what is held. -/
theorem run_append_hd (w : World) (B T : Nat) (v : Value) (hs : List (Nat × Int)) (h : Hd w B T v hs) (x : Nat × Int) (b : Nat) (hx : ∀ j u, (hcl x)[j]? = some u → w.cell? ⟨b, j, none⟩ = some u)
    (hlen : hs.length ≤ 1000000) (hB : B ≤ w.heap.size) (hT : T < w.heap.size) (ty : TypeId) :
    ∃ ao cap w', (Builtin.append_ #[140, 140] ty #[v, .slice (some ⟨b, 0, none⟩) 1 1]).run Tryz.prog w = .ok (.slice ao (hs.length + 1) cap) w' ∧ Hd w' B T (.slice ao (hs.length + 1) cap) (hs ++ [x]) ∧ Kpt (fun k => B ≤ k ∧ k ≠ T) w w' := by
  obtain ⟨i0, hi, hz0, hz1, hz2⟩ := info_parts infoSh
  obtain ⟨ao, cap, rfl, h1, h2, h3⟩ := h
  have hsrc : Src Tryz.prog i0.size 140 (.slice (some ⟨b, 0, none⟩) 1 1) 1 (hcl x) w := by
    refine Src.ofSlice w Tryz.underlying140 _ _ _ _ (by rw [hz1]; rfl) ?_ (goodH.one x)
    intro j u hj
    rw [Addr.add_lit, Nat.zero_add]
    exact hx j u hj
  by_cases hroom : hs.length < cap
  · rcases h3 with ⟨_, h3⟩ | ⟨g, off, rfl, h4, h5, h6, h7, h8⟩
    · omega
    · have hin : ∀ j, j < 3 → hs.length * 3 + j < cap * 3 := fun j hj => by omega
      have hrun := run_append_room_src w 140 140 ty 89 i0 Tryz.underlying140 hi g off hs.length cap _ 1 (hcl x) hsrc (by omega)
        (fun j hj => by rw [hz1, Nat.add_assoc]; exact (h7 _ (hin j (by simpa using hj))).1) (fun j hj => by rw [hz1, Nat.add_assoc]; exact (h7 _ (hin j (by simpa using hj))).2)
      rw [hz1] at hrun
      have hkp : Kpt (fun k => B ≤ k ∧ k ≠ T) w (w.setCells g (off + hs.length * 3) (hcl x)) := by
        simp only [World.setCells]
        exact ((Kpt.setCell w g _ _ ⟨h4, h5⟩).trans (Kpt.setCell _ g _ _ ⟨h4, h5⟩)).trans (Kpt.setCell _ g _ _ ⟨h4, h5⟩)
      refine ⟨_, cap, _, hrun, ⟨_, cap, by rw [List.length_append]; rfl, by rw [List.length_append]; exact hroom, h2, .inr ⟨g, off, rfl, h4, h5, Nat.lt_of_lt_of_le h6 hkp.size, fun j hj => ?_, fun k hk j hj => ?_⟩⟩, hkp⟩
      · rw [World.frozen?_setCells]
        refine ⟨?_, (h7 j hj).2⟩
        by_cases hjj : hs.length * 3 ≤ j ∧ j < hs.length * 3 + 3
        · have := World.cell?_setCells_in g (hcl x) (off + hs.length * 3) w (fun i hi => by rw [Nat.add_assoc]; exact (h7 _ (hin i (by simpa using hi))).1) (j - hs.length * 3) (by simp; omega)
          rw [show off + hs.length * 3 + (j - hs.length * 3) = off + j by omega] at this
          rw [this]; rfl
        · rw [World.cell?_setCells_out g (hcl x) _ w _ (fun _ _ => by simp; omega)]
          exact (h7 j hj).1
      · by_cases hkl : k < hs.length
        · rw [World.cell?_setCells_out g (hcl x) _ w _ (fun _ _ => by simp; omega)]
          rw [List.getElem_append_left hkl]
          exact h8 k hkl j hj
        · have e : k = hs.length := by simp at hk; omega
          subst e
          have := World.cell?_setCells_in g (hcl x) (off + hs.length * 3) w (fun i hi => by rw [Nat.add_assoc]; exact (h7 _ (hin i (by simpa using hi))).1) j (by simpa using hj)
          rw [this]
          simp only [List.getElem_concat_length]
          exact (List.getElem?_eq_getElem (by simpa using hj)).symm
  · have e : cap = hs.length := by omega
    subst e
    have hold : ∃ olds : List Value, olds = hs.flatMap hcl ∧ (Builtin.firstCells i0.size hs.length (.slice ao hs.length hs.length)).run Tryz.prog w.drew = .ok olds.toArray w.drew := by
      refine ⟨_, rfl, ?_⟩
      rw [hz1]
      rcases h3 with ⟨h3, _⟩ | ⟨g, off, rfl, h4, h5, h6, h7, h8⟩
      · subst h3
        cases ao with
        | none => exact run_firstCells_none _ _ _ _ _
        | some ad => exact run_firstCells_some _ _ _ _ _ _ [] rfl (fun j u hj => by simp at hj)
      · refine run_firstCells_some _ 3 hs.length _ _ _ _ (cells_length goodH hs) ?_
        intro j u hj
        have hrd : RdR encH w (some ⟨g, off, none⟩) hs := .inr ⟨g, off, rfl, h6, h8⟩
        have := hrd.cells goodH (by decide) j u hj
        simpa using this
    obtain ⟨olds, holds, hold⟩ := hold
    have hfit : Builtin.nextslicecap (hs.length + 1) hs.length * i0.bytes ≤ 281474976710656 := by
      rw [hz2]
      have := nextslicecap_le (need := hs.length + 1) (old := hs.length) (by omega)
      omega
    have hrun := run_append_grow_src w 140 140 ty 89 i0 _ Tryz.underlying140 hi hz0 ao hs.length hs.length olds hold _ 1 (hcl x) hsrc (by omega) (by omega) hfit
    have hge : hs.length + 1 ≤ grownCap w (hs.length + 1) hs.length 89 := grownCap_ge w _ _ _
    have hle : grownCap w (hs.length + 1) hs.length 89 ≤ maxLen := grownCap_le_maxLen w _ _ _ (by unfold maxLen; omega)
    generalize hgc : grownCap w (hs.length + 1) hs.length 89 = gc at *
    obtain ⟨row, hrow⟩ : ∃ row : Array Value, row = (olds ++ hcl x).toArray ++ Builtin.zeroCells (Value.agg #[.int .i64 0, .int .i64 0, .int .i64 0]).cells (gc - (hs.length + 1)) := ⟨_, rfl⟩
    rw [← hrow] at hrun
    have hol : olds.length = hs.length * 3 := by rw [holds]; exact cells_length goodH hs
    have hsz : row.size = gc * 3 := by
      rw [hrow, Array.size_append, size_zeroCells]
      simp [hol, Value.cells]
      omega
    have hall : (olds ++ hcl x) = (hs ++ [x]).flatMap hcl := by rw [holds, List.flatMap_append]; simp
    refine ⟨_, gc, _, hrun, ⟨_, gc, by rw [List.length_append]; rfl, by rw [List.length_append]; exact hge, hle, .inr ⟨w.heap.size, 0, rfl, hB, by omega, by simp, fun j hj => ?_, fun k hk j hj => ?_⟩⟩, ?_⟩
    · have hnew := World.alloc_heap_new w.drew (.cells row 89)
      constructor
      · have : (w.drew.alloc (.cells row 89)).cell? ⟨w.heap.size, 0 + j, none⟩ = row[0 + j]? := by
          have h9 : (w.drew.alloc (.cells row 89)).heap[w.heap.size]? = some (.cells row 89) := hnew
          unfold World.cell?
          simp only [h9]
          rfl
        rw [this, Nat.zero_add, Array.getElem?_eq_getElem (by omega)]
        rfl
      · have h9 : (w.drew.alloc (.cells row 89)).heap[w.heap.size]? = some (.cells row 89) := hnew
        unfold World.frozen?
        simp only [h9]
        simp
    · have h9 : (w.drew.alloc (.cells row 89)).heap[w.heap.size]? = some (.cells row 89) := World.alloc_heap_new w.drew (.cells row 89)
      have : (w.drew.alloc (.cells row 89)).cell? ⟨w.heap.size, 0 + k * 3 + j, none⟩ = row[0 + k * 3 + j]? := by
        unfold World.cell?
        simp only [h9]
        rfl
      rw [this, Nat.zero_add, hrow, Array.getElem?_append_left (by simp [hol]; simp at hk; omega)]
      have h10 := cells_at goodH hk hj
      have e2 : encH.cells (hs ++ [x]) = olds ++ hcl x := hall.symm
      rw [e2] at h10
      simpa using h10
    · exact Kpt.of_below ⟨rfl, rfl, rfl, by simp, fun k hk => Below.heap_alloc w.drew _ k hk⟩
end Go.Proofs.YtgbnjgenopdmfaaGreat.L

/- tip.put walked. -/
namespace Go.Proofs.YtgbnjgenopdmfaaGreat.L
open Go.RowKit
/-- What is held, in block g. -/
def HdG (w : World) (g : Nat) (v : Value) (hs : List (Nat × Int)) : Prop :=
  ∃ ao cap, v = .slice ao hs.length cap ∧ hs.length ≤ cap ∧ cap ≤ maxLen ∧ ((hs = [] ∧ cap = 0) ∨ ∃ off, ao = some ⟨g, off, none⟩ ∧ g < w.heap.size ∧
    (∀ j, j < cap * 3 → (w.cell? ⟨g, off + j, none⟩).isSome = true ∧ w.frozen? ⟨g, off + j, none⟩ = false) ∧ ∀ k (h : k < hs.length) j, j < 3 → w.cell? ⟨g, off + k * 3 + j, none⟩ = (hcl (hs[k]'h))[j]?)
theorem HdG.hd {w : World} {B T g : Nat} {v : Value} {hs : List (Nat × Int)} (h : HdG w g v hs) (hB : B ≤ g) (hT : g ≠ T) : Hd w B T v hs := by
  obtain ⟨ao, cap, e, h1, h2, h3⟩ := h
  refine ⟨ao, cap, e, h1, h2, h3.imp id ?_⟩
  rintro ⟨off, e1, e2, e3⟩
  exact ⟨g, off, e1, hB, hT, e2, e3⟩
theorem HdG.kept {w w1 : World} {g : Nat} {v : Value} {hs : List (Nat × Int)} (h : HdG w g v hs) (hs1 : w.heap.size ≤ w1.heap.size) (hk : w1.heap[g]? = w.heap[g]?) : HdG w1 g v hs := by
  obtain ⟨ao, cap, e, h1, h2, h3⟩ := h
  refine ⟨ao, cap, e, h1, h2, h3.imp id ?_⟩
  rintro ⟨off, e1, e4, e5, e6⟩
  have hc : ∀ o, w1.cell? ⟨g, o, none⟩ = w.cell? ⟨g, o, none⟩ := fun o => World.cell?_of_block (a := ⟨g, o, none⟩) hk
  have hf : ∀ o, w1.frozen? ⟨g, o, none⟩ = w.frozen? ⟨g, o, none⟩ := fun o => World.frozen?_of_block (a := ⟨g, o, none⟩) hk
  exact ⟨off, e1, Nat.lt_of_lt_of_le e4 hs1, fun j hj => by rw [hc, hf]; exact e5 j hj, fun k h j hj => by rw [hc]; exact e6 k h j hj⟩
/-- The first of what is held: its cells. -/
theorem HdG.first {w : World} {g : Nat} {v : Value} {d : Nat} {x : Int} {r : List (Nat × Int)} (h : HdG w g v ((d, x) :: r)) :
    ∃ off cap, v = .slice (some ⟨g, off, none⟩) (r.length + 1) (cap + 1) ∧ r.length ≤ cap ∧ w.cell? ⟨g, off, none⟩ = some (.int .i64 d) ∧ w.cell? ⟨g, off + 1, none⟩ = some (.int .i64 0) ∧ w.cell? ⟨g, off + 2, none⟩ = some (.int .i64 x) ∧ w.frozen? ⟨g, off + 2, none⟩ = false ∧ g < w.heap.size := by
  obtain ⟨ao, cap, e, h1, h2, ⟨h3, _⟩ | ⟨off, e1, e2, e3, e4⟩⟩ := h
  · cases h3
  · subst e1
    have hl : cap = (cap - 1) + 1 := by simp at h1; omega
    refine ⟨off, cap - 1, by rw [e, ← hl]; rfl, by simp at h1; omega, ?_, ?_, ?_, ?_, e2⟩
    · have := e4 0 (by simp) 0 (by decide); simpa using this
    · have := e4 0 (by simp) 1 (by decide); simpa using this
    · have := e4 0 (by simp) 2 (by decide); simpa using this
    · exact (e3 2 (by simp at h1; omega)).2
/-- The first one's volume is another one. -/
theorem HdG.less {w : World} {g : Nat} {off cap : Nat} {d : Nat} {x y : Int} {r : List (Nat × Int)} (h : HdG w g (.slice (some ⟨g, off, none⟩) (r.length + 1) (cap + 1)) ((d, x) :: r)) :
    HdG (w.setCell ⟨g, off + 2, none⟩ (.int .i64 y)) g (.slice (some ⟨g, off, none⟩) (r.length + 1) (cap + 1)) ((d, y) :: r) := by
  obtain ⟨ao, cap2, e, h1, h2, ⟨h3, _⟩ | ⟨off2, e1, e2, e3, e4⟩⟩ := h
  · cases h3
  · injection e with e5 e6 e7
    rw [e1] at e5
    injection e5 with e5
    injection e5 with _ e5
    subst e5 e7
    refine ⟨_, _, rfl, h1, h2, .inr ⟨off, rfl, by simpa [World.setCell] using e2, fun j hj => ?_, fun k hk j hj => ?_⟩⟩
    · rw [World.frozen?_setCell]
      refine ⟨?_, (e3 j hj).2⟩
      by_cases hj2 : j = 2
      · subst hj2
        rw [World.cell?_setCell_same' _ _ _ (e3 2 hj).1]; rfl
      · rw [World.cell?_setCell_other _ _ _ _ (fun e => by injection e with _ e; omega)]
        exact (e3 j hj).1
    · match k, hk with
      | 0, _ =>
        have h0 := e4 0 (by simp) j hj
        match j, hj with
        | 0, _ => rw [World.cell?_setCell_other _ _ _ _ (by simp)]; simpa using h0
        | 1, _ => rw [World.cell?_setCell_other _ _ _ _ (by simp)]; simpa using h0
        | 2, _ => simp only [Nat.zero_mul, Nat.add_zero]; rw [World.cell?_setCell_same' _ _ _ (e3 2 (by simp at h1; omega)).1]; rfl
      | k + 1, hk =>
        rw [World.cell?_setCell_other _ _ _ _ (fun e => by injection e; omega)]
        have := e4 (k + 1) (by simpa using hk) j hj
        simpa using this
/-- Without the first. -/
theorem HdG.tail {w : World} {g off cap : Nat} {d : Nat} {x : Int} {r : List (Nat × Int)} (h : HdG w g (.slice (some ⟨g, off, none⟩) (r.length + 1) (cap + 1)) ((d, x) :: r)) :
    HdG w g (.slice (some ⟨g, if cap = 0 then off else off + 3, none⟩) r.length cap) r := by
  obtain ⟨ao, cap2, e, h1, h2, ⟨h3, _⟩ | ⟨off2, e1, e2, e3, e4⟩⟩ := h
  · cases h3
  · injection e with e5 e6 e7
    rw [e1] at e5
    injection e5 with e5
    injection e5 with _ e5
    subst e5 e7
    refine ⟨_, _, rfl, by simp at h1; omega, Nat.le_trans (Nat.le_succ _) h2, ?_⟩
    by_cases hc : cap = 0
    · left
      subst hc
      exact ⟨List.eq_nil_of_length_eq_zero (by simp only [List.length_cons] at h1; omega), rfl⟩
    · right
      rw [if_neg hc]
      refine ⟨off + 3, rfl, e2, fun j hj => ?_, fun k hk j hj => ?_⟩
      · have := e3 (3 + j) (by omega)
        rwa [← Nat.add_assoc] at this
      · have := e4 (k + 1) (by simpa using hk) j hj
        rw [show off + (k + 1) * 3 + j = off + 3 + k * 3 + j by omega] at this
        simpa using this
theorem ptR_cons (i : Nat) (v : Int) (d : Nat) (x : Int) (r : List (Nat × Int)) : ptR i v ((d, x) :: r) = if 0 < v then (if v < x then ([⟨d, i, v⟩], (d, x - v) :: r) else (⟨d, i, x⟩ :: (ptR i (v - x) r).1, (ptR i (v - x) r).2)) else ([], (d, x) :: r) := by
  conv => lhs; unfold ptR
theorem ptR_zero (i : Nat) {v : Int} (h : ¬ 0 < v) (hs : List (Nat × Int)) : ptR i v hs = ([], hs) := by
  cases hs with
  | nil => rfl
  | cons p r => obtain ⟨d, x⟩ := p; rw [ptR_cons, if_neg h]
theorem Hd.block {w : World} {B T : Nat} {v : Value} {hs : List (Nat × Int)} (h : Hd w B T v hs) (hBT : B ≤ T) : ∃ g, B ≤ g ∧ g ≠ T ∧ HdG w g v hs ∧ (g < w.heap.size ∨ hs = []) := by
  obtain ⟨ao, cap, e, h1, h2, ⟨h3, h4⟩ | ⟨g, off, e1, e2, e3, e4, e5, e6⟩⟩ := h
  · exact ⟨T + 1, by omega, by omega, ⟨ao, cap, e, h1, h2, .inl ⟨h3, h4⟩⟩, .inr h3⟩
  · exact ⟨g, e2, e3, ⟨ao, cap, e, h1, h2, .inr ⟨off, e1, e4, e5, e6⟩⟩, .inl e4⟩
theorem HdG.form {w : World} {g : Nat} {v : Value} {hs : List (Nat × Int)} (h : HdG w g v hs) : ∃ ao cap, v = .slice ao hs.length cap := by
  obtain ⟨ao, cap, e, _⟩ := h
  exact ⟨ao, cap, e⟩
theorem Kpt.bk {M : Nat → Prop} {w w1 : World} (h : Kpt M w w1) {b : Nat} {cs : List Value} (hb : Bk b cs w) (hM : ¬ M b) : Bk b cs w1 := hb.same h.size (h.block b hb.1 hM)
/-- What lies below the call's own slice stays. -/
theorem far_row {α : Type} {c : Enc α} {base : Nat} {wr w5 : World} {o : Obj} {v : Value} {out : List α} (h : OwnR c wr base v out) (hg : (wr.alloc o).grownBy w5 v.ownBlock) : Kpt (fun k => base ≤ k) wr w5 := by
  refine ⟨hg.os, hg.tape, hg.output, Nat.le_trans (by simp) hg.size, fun k hk hm => ?_⟩
  refine (hg.block k (by simp; omega) fun e => ?_).trans (Below.heap_alloc _ _ _ hk)
  have := (World.ownsRow.lt h k e.symm).1
  omega
theorem Kpt.cell {M : Nat → Prop} {w w1 : World} (h : Kpt M w w1) {b o : Nat} {v : Value} (hc : w.cell? ⟨b, o, none⟩ = some v) (hb : b < w.heap.size) (hM : ¬ M b) : w1.cell? ⟨b, o, none⟩ = some v := (World.cell?_of_block (a := ⟨b, o, none⟩) (h.block b hb hM)).trans hc
theorem Kpt.froz {M : Nat → Prop} {w w1 : World} (h : Kpt M w w1) {b o : Nat} (hc : w.frozen? ⟨b, o, none⟩ = false) (hb : b < w.heap.size) (hM : ¬ M b) : w1.frozen? ⟨b, o, none⟩ = false := (World.frozen?_of_block (a := ⟨b, o, none⟩) (h.block b hb hM)).trans hc
theorem w64 {n : Int} (h1 : -9223372036854775808 ≤ n) (h2 : n ≤ 9223372036854775807) : wrap64 n = n := by unfold wrap64; omega
structure PutI (w : World) (B T g i n : Nat) (v : Int) (hs : List (Nat × Int)) (vv : Int) (gv : Value) (wr : World) (out : List Shr) (hs' : List (Nat × Int)) (hv' : Value) : Prop where
  tk : Bk T [.bool true, hv'] wr
  hd : HdG wr g hv' hs'
  lt : g < w.heap.size ∨ hs' = []
  own : OwnR encSh wr w.heap.size gv out
  eq : ptR i v hs = (out ++ (ptR i vv hs').1, (ptR i vv hs').2)
  ok : HOk n hs'
  vle : vv ≤ 1000000000
  few : out.length + hs'.length ≤ hs.length + 1 ∧ (out.length + hs'.length ≤ hs.length ∨ vv ≤ 0)
  kp : Kpt (fun k => k = T ∨ k = g) w wr
set_option maxHeartbeats 3200000 in
set_option maxRecDepth 100000 in
theorem put_any (B T i n : Nat) (v : Int) (hv : Value) (hs : List (Nat × Int)) (w : World) (hT : Bk T [.bool true, hv] w) (hBT : B ≤ T) (hH : Hd w B T hv hs) (hok : HOk n hs) (hv1 : v ≤ 1000000000) (hlen : hs.length ≤ 100000) :
    Calls Tryz.prog 122 #[ptr T, .int .i64 i, .int .i64 v] w fun e w' => ∃ gv hv', e = .returned gv ∧ OwnR encSh w' w.heap.size gv (ptR i v hs).1 ∧ Bk T [.bool true, hv'] w' ∧ Hd w' B T hv' (ptR i v hs).2 ∧ Kpt (fun k => B ≤ k) w w' := by
  obtain ⟨g, hBg, hgT, hG, hgl⟩ := hH.block hBT
  have hTw := hT.1
  have H0 : Hid (PutI w B T g i n v hs v (.slice none 0 0) w [] hs hv) := ⟨hT, hG, hgl, OwnR.nil _ _ _, rfl, hok, hv1, ⟨by simp, .inl (by simp)⟩, Kpt.refl _ _⟩
  clear hT hH hG hgl hok
  go_enter Tryz.func122, Tryz.ntmps122
  go_wp2
  go_loopw [2, 7] (fun a q wr => ∃ vv out hs' hv', a = .int .i64 vv ∧ PutI w B T g i n v hs vv q wr out hs' hv') (fun a _ _ => (intOf a).toNat)
  case atStart => exact ⟨v, [], hs, hv, rfl, H0.out⟩
  case round =>
    obtain ⟨vv, out, hs', hv', rfl, HI⟩ := hrel
    have HP : Hid (PutI w B T g i n v hs vv _ wr out hs' hv') := HI
    have c1 := HI.tk.c 1 rfl
    have f1 := HI.tk.f 1 rfl
    clear HI
    by_cases hp : 0 < vv
    · cases hs' with
      | nil =>
        obtain ⟨ao, cap, rfl⟩ := HP.out.hd.form
        simp only [List.length_nil] at c1
        go_wp2
        go_ret
        have P := HP.out
        have e1 : ptR i vv ([] : List (Nat × Int)) = ([], []) := rfl
        have e2 := P.eq
        rw [e1] at e2
        simp only [List.append_nil] at e2
        refine ⟨_, _, rfl, by rw [e2]; exact P.own, P.tk, by rw [e2]; exact P.hd.hd hBg hgT, P.kp.mono ?_⟩
        rintro k (rfl | rfl)
        · exact hBT
        · exact hBg
      | cons p r =>
        obtain ⟨d, xv⟩ := p
        obtain ⟨off, cap, rfl, hrc, q0, q1, q2, qf, hgs⟩ := HP.out.hd.first
        have hx := HP.out.ok (d, xv) (by simp)
        simp only at hx
        have hgw : g < w.heap.size := HP.out.lt.resolve_right (by simp)
        have hfew := HP.out.few
        simp only [List.length_cons] at hfew
        have hx1 : 1 ≤ xv := hx.2.1
        have hvle : vv ≤ 1000000000 := HP.out.vle
        obtain ⟨ao7, cap7, e7⟩ := HP.out.own.shape
        subst e7
        have HO := (show Hid (OwnR encSh wr w.heap.size (.slice ao7 out.length cap7) out) from HP.out.own)
        have HS := (show Hid (w.heap.size ≤ wr.heap.size) from HP.out.kp.size)
        by_cases hlt : vv < xv
        · have hne0 : (xv - vv == 0) = false := by simp; omega
          have hmn : min vv xv = vv := by omega
          have hnT : ¬ w.heap.size ≤ T := by omega
          have hnG : ¬ w.heap.size ≤ g := by omega
          have hTr : T < wr.heap.size := HP.out.tk.1
          go_wp2_with (at_builtin; refine wpList_append_row goodSh Tryz.underlying140 infoSh rfl (by decide) (by decide) _ rfl (.tmp 31) (.tmp 39) rfl w.heap.size (.slice ao7 out.length cap7) out rfl (HO.out.alloc _) wr.heap.size ⟨d, i, vv⟩ rfl (fun j u hu => three_new wr (.int .i64 d) (.int .i64 i) (.int .i64 vv) _ j u hu) (by omega) (by have := HS.out; simp; omega) ?_; intro v5 w5 o5 g5 l5; have k5 := far_row HO.out g5; have p2 := k5.cell q2 hgs hnG; have pf := k5.froz qf hgs hnG; have p1 := k5.cell c1 hTr hnT; have pf1 := k5.froz f1 hTr hnT; obtain ⟨ao5, n5, cap5, rfl⟩ := o5.form)
          go_roundw
          case rel =>
            have P := HP.out
            have k5' : Kpt (fun k => k = T ∨ k = g) w (w5.setCell ⟨g, off + 2, none⟩ (.int .i64 (xv - vv))) := by
              refine ⟨k5.os.trans P.kp.os, k5.tape.trans P.kp.tape, k5.output.trans P.kp.output, ?_, fun k hk hm => ?_⟩
              · have := Nat.le_trans P.kp.size k5.size; simpa [World.setCell] using this
              · exact (Below.heap_setCell _ _ _ _ (fun e => hm (.inr e))).trans ((k5.block k (Nat.lt_of_lt_of_le hk P.kp.size) (by omega)).trans (P.kp.block k hk hm))
            refine ⟨_, out ++ [⟨d, i, vv⟩], (d, xv - vv) :: r, _, rfl, ⟨(k5.bk P.tk (by omega)).other (Ne.symm hgT) _ _, (P.hd.kept k5.size (k5.block g hgs hnG)).less, .inl hgw, ?_, ?_, ?_, ?_, ?_, k5'⟩⟩
            · exact ownsRow_setCell_below o5 (show g < w.heap.size from hgw) _
            · rw [P.eq, ptR_cons, if_pos hp, if_pos hlt, ptR_zero i (by omega)]
              simp
            · intro z hz
              rcases List.mem_cons.1 hz with rfl | hz
              · exact ⟨hx.1, by show 1 ≤ xv - vv; omega, by show xv - vv ≤ 1000000000; omega⟩
              · exact P.ok z (by simp [hz])
            · omega
            · simp; omega
          case measure => simp [intOf]; omega
        · have hmin : (if xv < vv then xv else vv) = xv := by split <;> omega
          have hmn : min vv xv = xv := by omega
          have hnT : ¬ w.heap.size ≤ T := by omega
          have hnG : ¬ w.heap.size ≤ g := by omega
          have hTr : T < wr.heap.size := HP.out.tk.1
          have hw64 : wrap64 (vv - xv) = vv - xv := w64 (by omega) (by omega)
          have T3 : Hid (∀ j u, (encSh.enc (⟨d, i, xv⟩ : Shr))[j]? = some u → (wr.alloc (.cells #[.int .i64 d, .int .i64 i, .int .i64 xv] 89)).cell? ⟨wr.heap.size, j, none⟩ = some u) := fun j u hu => three_new wr _ _ _ _ j u hu
          by_cases hcap : cap = 0
          · subst hcap
            have hr0 : r = [] := List.eq_nil_of_length_eq_zero (by omega)
            subst hr0
            simp only [List.length_nil] at hrc hfew c1 HP
            go_wp2_with (at_builtin; refine wpList_append_row goodSh Tryz.underlying140 infoSh rfl (by decide) (by decide) _ rfl (.tmp 31) (.tmp 39) rfl w.heap.size (.slice ao7 out.length cap7) out rfl (HO.out.alloc _) wr.heap.size ⟨d, i, xv⟩ rfl T3.out (by omega) (by have := HS.out; simp; omega) ?_; intro v5 w5 o5 g5 l5; have k5 := far_row HO.out g5; have p2 := k5.cell q2 hgs hnG; have pf := k5.froz qf hgs hnG; have p1 := k5.cell c1 hTr hnT; have pf1 := k5.froz f1 hTr hnT; obtain ⟨ao5, n5, cap5, rfl⟩ := o5.form)
            go_roundw
            case rel =>
              have P := HP.out
              have k5' : Kpt (fun k => k = T ∨ k = g) w ((w5.setCell ⟨g, off + 2, none⟩ (.int .i64 0)).setCell ⟨T, 1, none⟩ (.slice (some ⟨g, off, none⟩) 0 0)) := by
                refine ⟨k5.os.trans P.kp.os, k5.tape.trans P.kp.tape, k5.output.trans P.kp.output, ?_, fun k hk hm => ?_⟩
                · have := Nat.le_trans P.kp.size k5.size; simpa [World.setCell] using this
                · exact (Below.heap_setCell _ _ _ _ (fun e => hm (.inl e))).trans ((Below.heap_setCell _ _ _ _ (fun e => hm (.inr e))).trans ((k5.block k (Nat.lt_of_lt_of_le hk P.kp.size) (by omega)).trans (P.kp.block k hk hm)))
              have ht := (HdG.less (r := []) (cap := 0) (y := 0) (P.hd.kept k5.size (k5.block g hgs hnG))).tail
              rw [if_pos rfl] at ht
              refine ⟨vv - xv, out ++ [⟨d, i, xv⟩], [], _, rfl, ⟨((k5.bk P.tk (by omega)).other (Ne.symm hgT) _ _).put 1 _, ht.kept (by simp [World.setCell]) (Below.heap_setCell _ _ _ _ hgT), .inl hgw, ?_, ?_, fun z hz => P.ok z (by simp [hz]), ?_, ?_, k5'⟩⟩
              · exact ownsRow_setCell_below (ownsRow_setCell_below o5 (show g < w.heap.size from hgw) _) (show T < w.heap.size from hTw) _
              · rw [P.eq, ptR_cons, if_pos hp, if_neg (show ¬ vv < xv by omega)]
                simp
              · omega
              · simp; omega
            case measure => simp [intOf]; omega
          · skip
            go_wp2_with (at_builtin; refine wpList_append_row goodSh Tryz.underlying140 infoSh rfl (by decide) (by decide) _ rfl (.tmp 31) (.tmp 39) rfl w.heap.size (.slice ao7 out.length cap7) out rfl (HO.out.alloc _) wr.heap.size ⟨d, i, xv⟩ rfl T3.out (by omega) (by have := HS.out; simp; omega) ?_; intro v5 w5 o5 g5 l5; have k5 := far_row HO.out g5; have p2 := k5.cell q2 hgs hnG; have pf := k5.froz qf hgs hnG; have p1 := k5.cell c1 hTr hnT; have pf1 := k5.froz f1 hTr hnT; obtain ⟨ao5, n5, cap5, rfl⟩ := o5.form)
            go_roundw
            case rel =>
              have P := HP.out
              have k5' : Kpt (fun k => k = T ∨ k = g) w ((w5.setCell ⟨g, off + 2, none⟩ (.int .i64 0)).setCell ⟨T, 1, none⟩ (.slice (some ⟨g, off + 3, none⟩) r.length cap)) := by
                refine ⟨k5.os.trans P.kp.os, k5.tape.trans P.kp.tape, k5.output.trans P.kp.output, ?_, fun k hk hm => ?_⟩
                · have := Nat.le_trans P.kp.size k5.size; simpa [World.setCell] using this
                · exact (Below.heap_setCell _ _ _ _ (fun e => hm (.inl e))).trans ((Below.heap_setCell _ _ _ _ (fun e => hm (.inr e))).trans ((k5.block k (Nat.lt_of_lt_of_le hk P.kp.size) (by omega)).trans (P.kp.block k hk hm)))
              have ht := ((P.hd.kept k5.size (k5.block g hgs hnG)).less (y := 0)).tail
              rw [if_neg hcap] at ht
              refine ⟨vv - xv, out ++ [⟨d, i, xv⟩], r, _, rfl, ⟨((k5.bk P.tk (by omega)).other (Ne.symm hgT) _ _).put 1 _, ht.kept (by simp [World.setCell]) (Below.heap_setCell _ _ _ _ hgT), .inl hgw, ?_, ?_, fun z hz => P.ok z (by simp [hz]), ?_, ?_, k5'⟩⟩
              · exact ownsRow_setCell_below (ownsRow_setCell_below o5 (show g < w.heap.size from hgw) _) (show T < w.heap.size from hTw) _
              · rw [P.eq, ptR_cons, if_pos hp, if_neg (show ¬ vv < xv by omega)]
                simp
              · omega
              · simp; omega
            case measure => simp [intOf]; omega
    · go_wp2
      go_ret
      have P := HP.out
      have e2 := P.eq
      rw [ptR_zero i (v := vv) (by omega)] at e2
      simp only [List.append_nil] at e2
      refine ⟨_, rfl, (by rw [e2]; exact P.own), _, P.tk, (by rw [e2]; exact P.hd.hd hBg hgT), P.kp.mono ?_⟩
      rintro k (rfl | rfl)
      · exact hBT
      · exact hBg
end Go.Proofs.YtgbnjgenopdmfaaGreat.L

/- tip.follow walked. -/
namespace Go.Proofs.YtgbnjgenopdmfaaGreat.L
open Go.RowKit
set_option linter.unusedVariables false in
def foV (T A M i n cap : Nat) (ao : Option Addr) (a : Acn) (d : Nat) (v : Value) (w : World) : Prop :=
  match d with
  | 38 => v = .pointer (some ⟨T, 0, none⟩)
  | 39 => v = .pointer (some ⟨T, 0, none⟩)
  | 40 => v = .pointer (some ⟨T, 0, none⟩)
  | 41 => v = .pointer (some ⟨T, 1, none⟩)
  | 42 => v = .slice ao n cap
  | 43 => v = .int .i64 i
  | 44 => v = .pointer (some ⟨A, 5, none⟩)
  | 45 => v = .int .i64 a.vol
  | 46 => v = .agg #[.int .i64 i, .int .i64 0, .int .i64 a.vol]
  | 47 => ∃ b, v = .slice (some ⟨b, 0, none⟩) 1 1 ∧ M ≤ b ∧ Bk b [.int .i64 i, .int .i64 0, .int .i64 a.vol] w
  | _ => True
set_option linter.unusedVariables false in
theorem foV_mono (T A M i n cap : Nat) (ao : Option Addr) (a : Acn) (d : Nat) (v : Value) (w w' : World) (h : foV T A M i n cap ao a d v w) (hb : Below w.heap.size w w') : foV T A M i n cap ao a d v w' := by
  unfold foV at h ⊢
  split <;> simp only [] at h <;> first | exact h | (obtain ⟨b, h1, h2, h3⟩ := h; exact ⟨b, h1, h2, h3.later hb⟩)

/-- Append to what is held, at the operation. -/
theorem wpList_append_hd (w : World) {ops : Array Oper} {rest : List Oper} {o : Oper} {ac : Act} {Q : Exit → Act → World → Prop} (hgd : o.guard = none) (s x : Operand)
    (ho : o.op = .call { callee := .builtin .append, args := #[s, x], argTypes := #[140, 140] }) (B T : Nat) (v : Value) (hs : List (Nat × Int)) (hs1 : ac.eval s = v) (h : Hd w B T v hs)
    (b : Nat) (p : Nat × Int) (hx : ac.eval x = .slice (some ⟨b, 0, none⟩) 1 1) (hc : ∀ j u, (hcl p)[j]? = some u → w.cell? ⟨b, j, none⟩ = some u) (hlen : hs.length ≤ 1000000) (hB : B ≤ w.heap.size) (hT : T < w.heap.size)
    (hK : ∀ ao cap w', Hd w' B T (.slice ao (hs.length + 1) cap) (hs ++ [p]) → Kpt (fun k => B ≤ k ∧ k ≠ T) w w' → wpList Tryz.prog ops Q rest (ac.put o.dst (.slice ao (hs.length + 1) cap)) w') : wpList Tryz.prog ops Q (o :: rest) ac w := by
  obtain ⟨ao, cap, w', hr, h2, h3⟩ := run_append_hd w B T v hs h p b hc hlen hB hT o.type
  refine wpList_plain hgd fun K hK' => ?_
  unfold Oper.wp execOp
  simp only [ho, resolve, invoke, builtin, Sem.run_bind, Sem.run_pure, Result.andThen_ok, List.map_toArray, List.map_cons, List.map_nil, hs1, hx, hr]
  exact hK' _ _ (hK ao cap w' h2 h3)
theorem fol_tip {i : Nat} {a : Acn} {t : Tp} (h : a.kind = 6) : folR i a t = ([], ⟨true, []⟩) := if_pos h
theorem fol_drop {i : Nat} {a : Acn} {t : Tp} (h : a.kind = 7) : folR i a t = ([], tp0) := by unfold folR; rw [if_neg (by omega), if_pos h]
theorem fol_out {i : Nat} {a : Acn} {t : Tp} (h6 : a.kind ≠ 6) (h7 : a.kind ≠ 7) (h : ¬ (t.on = true ∧ 1 ≤ a.vol ∧ a.vol ≤ 1000000000)) : folR i a t = ([], t) := by unfold folR; rw [if_neg h6, if_neg h7, if_neg h]
theorem fol_draw {i : Nat} {a : Acn} {t : Tp} (h8 : a.kind = 8) (h : t.on = true ∧ 1 ≤ a.vol ∧ a.vol ≤ 1000000000) : folR i a t = ([], ⟨true, t.held ++ [(i, a.vol)]⟩) := by unfold folR; rw [if_neg (by omega), if_neg (by omega), if_pos h, if_pos h8]
theorem fol_put {i : Nat} {a : Acn} {t : Tp} (h9 : a.kind = 9) (h : t.on = true ∧ 1 ≤ a.vol ∧ a.vol ≤ 1000000000) : folR i a t = ((ptR i a.vol t.held).1, ⟨true, (ptR i a.vol t.held).2⟩) := by unfold folR; rw [if_neg (by omega), if_neg (by omega), if_pos h, if_neg (by omega), if_pos h9]
theorem fol_else {i : Nat} {a : Acn} {t : Tp} (h6 : a.kind ≠ 6) (h7 : a.kind ≠ 7) (h8 : a.kind ≠ 8) (h9 : a.kind ≠ 9) : folR i a t = ([], t) := by
  unfold folR
  rw [if_neg h6, if_neg h7]
  split <;> rfl
/-- What an action puts, and what the tip is then. -/
structure FolP (w w' : World) (B T : Nat) (r : List Shr × Tp) (gv : Value) : Prop where
  own : OwnR encSh w' w.heap.size gv r.1
  tip : ∃ hv, Bk T [.bool r.2.on, hv] w' ∧ Hd w' B T hv r.2.held
  kp : Kpt (fun k => B ≤ k) w w'
set_option linter.unusedVariables false in
set_option maxHeartbeats 3200000 in
set_option maxRecDepth 100000 in
theorem fo_tip (B T i : Nat) (t : Tp) (hv : Value) (a : Acn) (w : World) (hT : Bk T [.bool t.on, hv] w) (hBT : B ≤ T) (hBw : B ≤ w.heap.size) (hH : Hd w B T hv t.held) (hok : HOk i t.held) (hlen : t.held.length ≤ 100000) (h : a.kind = 6) :
    Calls Tryz.prog 81 #[ptr T, .int .i64 i, av a] w fun e w' => ∃ gv, e = .returned gv ∧ FolP w w' B T (folR i a t) gv := by
  rw [fol_tip h]
  have HT : Hid (Bk T [.bool t.on, hv] w) := hT
  have HH : Hid (Hd w B T hv t.held) := hH
  have c0 := hT.c 0 rfl
  have f0 := hT.f 0 rfl
  have c1 := hT.c 1 rfl
  have f1 := hT.f 1 rfl
  have hlt := hT.1
  have hneA : T ≠ w.heap.size := by omega
  obtain ⟨aoV, capV, rfl⟩ := hH.form
  clear hT hH
  have h6 : (a.kind == 6) = true := by simp [h]
  clear h
  go_enter Tryz.func81, Tryz.ntmps81
  go_wp2
  go_ret
  have kp : Kpt (fun k => k = T) w (((w.setCell ⟨T, 0, none⟩ (.bool true)).setCell ⟨T, 1, none⟩ (.slice none 0 0)).alloc (.cells (avs a) 55)) :=
    ((Kpt.setCell (M := fun k => k = T) w T 0 _ rfl).trans (Kpt.setCell (M := fun k => k = T) _ T 1 _ rfl)).trans (Kpt.of_below ((Below.refl _ _).alloc (Nat.le_refl _) _))
  exact ⟨_, rfl, ⟨OwnR.nil _ _ _, ⟨_, ((HT.out.put 0 (.bool true)).put 1 (.slice none 0 0)).later ((Below.refl _ _).alloc (Nat.le_refl _) _), Hd.nil _ _ _⟩, kp.mono fun k e => by rw [e]; exact hBT⟩⟩
set_option linter.unusedVariables false in
set_option maxHeartbeats 3200000 in
set_option maxRecDepth 100000 in
theorem fo_drop (B T i : Nat) (t : Tp) (hv : Value) (a : Acn) (w : World) (hT : Bk T [.bool t.on, hv] w) (hBT : B ≤ T) (hBw : B ≤ w.heap.size) (hH : Hd w B T hv t.held) (hok : HOk i t.held) (hlen : t.held.length ≤ 100000) (h : a.kind = 7) :
    Calls Tryz.prog 81 #[ptr T, .int .i64 i, av a] w fun e w' => ∃ gv, e = .returned gv ∧ FolP w w' B T (folR i a t) gv := by
  rw [fol_drop h]
  have HT : Hid (Bk T [.bool t.on, hv] w) := hT
  have HH : Hid (Hd w B T hv t.held) := hH
  have c0 := hT.c 0 rfl
  have f0 := hT.f 0 rfl
  have c1 := hT.c 1 rfl
  have f1 := hT.f 1 rfl
  have hlt := hT.1
  have hneA : T ≠ w.heap.size := by omega
  obtain ⟨aoV, capV, rfl⟩ := hH.form
  clear hT hH
  have h6 : (a.kind == 6) = false := by simp [h]
  have h7 : (a.kind == 7) = true := by simp [h]
  clear h
  go_enter Tryz.func81, Tryz.ntmps81
  go_wp2
  go_ret
  have kp : Kpt (fun k => k = T) w (((w.setCell ⟨T, 0, none⟩ (.bool false)).setCell ⟨T, 1, none⟩ (.slice none 0 0)).alloc (.cells (avs a) 55)) :=
    ((Kpt.setCell (M := fun k => k = T) w T 0 _ rfl).trans (Kpt.setCell (M := fun k => k = T) _ T 1 _ rfl)).trans (Kpt.of_below ((Below.refl _ _).alloc (Nat.le_refl _) _))
  exact ⟨_, rfl, ⟨OwnR.nil _ _ _, ⟨_, ((HT.out.put 0 (.bool false)).put 1 (.slice none 0 0)).later ((Below.refl _ _).alloc (Nat.le_refl _) _), Hd.nil _ _ _⟩, kp.mono fun k e => by rw [e]; exact hBT⟩⟩
set_option linter.unusedVariables false in
set_option maxHeartbeats 3200000 in
set_option maxRecDepth 100000 in
theorem fo_out (B T i : Nat) (t : Tp) (hv : Value) (a : Acn) (w : World) (hT : Bk T [.bool t.on, hv] w) (hBT : B ≤ T) (hBw : B ≤ w.heap.size) (hH : Hd w B T hv t.held) (hok : HOk i t.held) (hlen : t.held.length ≤ 100000) (k6 : a.kind ≠ 6) (k7 : a.kind ≠ 7) (h : ¬ (t.on = true ∧ 1 ≤ a.vol ∧ a.vol ≤ 1000000000)) :
    Calls Tryz.prog 81 #[ptr T, .int .i64 i, av a] w fun e w' => ∃ gv, e = .returned gv ∧ FolP w w' B T (folR i a t) gv := by
  rw [fol_out k6 k7 h]
  have HT : Hid (Bk T [.bool t.on, hv] w) := hT
  have HH : Hid (Hd w B T hv t.held) := hH
  have c0 := hT.c 0 rfl
  have f0 := hT.f 0 rfl
  have c1 := hT.c 1 rfl
  have f1 := hT.f 1 rfl
  have hlt := hT.1
  have hneA : T ≠ w.heap.size := by omega
  obtain ⟨aoV, capV, rfl⟩ := hH.form
  clear hT hH
  have h6 : (a.kind == 6) = false := by simp [k6]
  have h7 : (a.kind == 7) = false := by simp [k7]
  have RES : FolP w (w.alloc (.cells (avs a) 55)) B T ([], t) (.slice none 0 0) := ⟨OwnR.nil _ _ _, ⟨_, HT.out.later ((Below.refl _ _).alloc (Nat.le_refl _) _), HH.out.later ((Below.refl _ _).alloc (Nat.le_refl _) _)⟩, Kpt.of_below ((Below.refl _ _).alloc (Nat.le_refl _) _)⟩
  have HRS := (show Hid (FolP w (w.alloc (.cells (avs a) 55)) B T ([], t) (.slice none 0 0)) from RES)
  clear RES
  by_cases hon : t.on = true
  · rw [hon] at c0
    by_cases hv1 : a.vol < 1
    · go_enter Tryz.func81, Tryz.ntmps81
      go_wp2
      go_ret
      exact ⟨_, rfl, HRS.out⟩
    · have hv2 : 1000000000 < a.vol := by
        refine Classical.byContradiction fun hc => h ⟨hon, by omega, by omega⟩
      go_enter Tryz.func81, Tryz.ntmps81
      go_wp2
      go_ret
      exact ⟨_, rfl, HRS.out⟩
  · have hon2 : t.on = false := by simpa using hon
    rw [hon2] at c0
    go_enter Tryz.func81, Tryz.ntmps81
    go_wp2
    go_ret
    exact ⟨_, rfl, HRS.out⟩
set_option linter.unusedVariables false in
set_option maxHeartbeats 3200000 in
set_option maxRecDepth 100000 in
theorem fo_else (B T i : Nat) (t : Tp) (hv : Value) (a : Acn) (w : World) (hT : Bk T [.bool t.on, hv] w) (hBT : B ≤ T) (hBw : B ≤ w.heap.size) (hH : Hd w B T hv t.held) (hok : HOk i t.held) (hlen : t.held.length ≤ 100000) (k6 : a.kind ≠ 6) (k7 : a.kind ≠ 7) (k8 : a.kind ≠ 8) (k9 : a.kind ≠ 9) (h : t.on = true ∧ 1 ≤ a.vol ∧ a.vol ≤ 1000000000) :
    Calls Tryz.prog 81 #[ptr T, .int .i64 i, av a] w fun e w' => ∃ gv, e = .returned gv ∧ FolP w w' B T (folR i a t) gv := by
  rw [fol_else k6 k7 k8 k9]
  have HT : Hid (Bk T [.bool t.on, hv] w) := hT
  have HH : Hid (Hd w B T hv t.held) := hH
  have c0 := hT.c 0 rfl
  have f0 := hT.f 0 rfl
  have c1 := hT.c 1 rfl
  have f1 := hT.f 1 rfl
  have hlt := hT.1
  have hneA : T ≠ w.heap.size := by omega
  obtain ⟨aoV, capV, rfl⟩ := hH.form
  clear hT hH
  have h6 : (a.kind == 6) = false := by simp; assumption
  have h7 : (a.kind == 7) = false := by simp; assumption
  obtain ⟨hon, hv1, hv2⟩ := h
  have hon' := hon
  rw [hon] at c0
  have h8 : (a.kind == 8) = false := by simp; assumption
  have h9 : (a.kind == 9) = false := by simp; assumption
  have RES : FolP w (w.alloc (.cells (avs a) 55)) B T ([], t) (.slice none 0 0) := ⟨OwnR.nil _ _ _, ⟨_, HT.out.later ((Below.refl _ _).alloc (Nat.le_refl _) _), HH.out.later ((Below.refl _ _).alloc (Nat.le_refl _) _)⟩, Kpt.of_below ((Below.refl _ _).alloc (Nat.le_refl _) _)⟩
  have HRS := (show Hid (FolP w (w.alloc (.cells (avs a) 55)) B T ([], t) (.slice none 0 0)) from RES)
  clear RES
  go_enter Tryz.func81, Tryz.ntmps81
  go_wp2
  go_ret
  exact ⟨_, rfl, HRS.out⟩
set_option linter.unusedVariables false in
set_option maxHeartbeats 3200000 in
set_option maxRecDepth 100000 in
theorem fo_put (B T i : Nat) (t : Tp) (hv : Value) (a : Acn) (w : World) (hT : Bk T [.bool t.on, hv] w) (hBT : B ≤ T) (hBw : B ≤ w.heap.size) (hH : Hd w B T hv t.held) (hok : HOk i t.held) (hlen : t.held.length ≤ 100000) (k9 : a.kind = 9) (h : t.on = true ∧ 1 ≤ a.vol ∧ a.vol ≤ 1000000000) :
    Calls Tryz.prog 81 #[ptr T, .int .i64 i, av a] w fun e w' => ∃ gv, e = .returned gv ∧ FolP w w' B T (folR i a t) gv := by
  rw [fol_put k9 h]
  have HT : Hid (Bk T [.bool t.on, hv] w) := hT
  have HH : Hid (Hd w B T hv t.held) := hH
  have c0 := hT.c 0 rfl
  have f0 := hT.f 0 rfl
  have c1 := hT.c 1 rfl
  have f1 := hT.f 1 rfl
  have hlt := hT.1
  have hneA : T ≠ w.heap.size := by omega
  obtain ⟨aoV, capV, rfl⟩ := hH.form
  clear hT hH
  have h6 : (a.kind == 6) = false := by simp; omega
  have h7 : (a.kind == 7) = false := by simp; omega
  obtain ⟨hon, hv1, hv2⟩ := h
  have hon' := hon
  rw [hon] at c0
  have h8 : (a.kind == 8) = false := by simp; omega
  have h9 : (a.kind == 9) = true := by simp [k9]
  clear k9
  obtain ⟨w0, hw0⟩ : ∃ w0, w0 = w.alloc (.cells (avs a) 55) := ⟨_, rfl⟩
  have b0 : Below w.heap.size w w0 := by rw [hw0]; exact (Below.refl _ _).alloc (Nat.le_refl _) _
  have HC := (show Hid _ from put_any B T i i a.vol (.slice aoV t.held.length capV) t.held w0 (by have := HT.out.later b0; rwa [hon] at this) hBT (HH.out.later b0) hok hv2 hlen)
  rw [hw0] at HC
  go_enter Tryz.func81, Tryz.ntmps81
  go_wp2_with (go_at_call 122; refine Calls.mono HC.out ?_; rintro e w2 ⟨gv, hv2', rfl, o2, t2, d2, k2⟩)
  go_ret
  exact ⟨_, rfl, ⟨o2.base (by simp), ⟨_, t2, d2⟩, (Kpt.of_below ((Below.refl _ _).alloc (Nat.le_refl _) _)).trans k2⟩⟩
set_option linter.unusedVariables false in
set_option maxHeartbeats 3200000 in
set_option maxRecDepth 100000 in
theorem fo_draw (B T i : Nat) (t : Tp) (hv : Value) (a : Acn) (w : World) (hT : Bk T [.bool t.on, hv] w) (hBT : B ≤ T) (hBw : B ≤ w.heap.size) (hH : Hd w B T hv t.held) (hok : HOk i t.held) (hlen : t.held.length ≤ 100000) (k8 : a.kind = 8) (h : t.on = true ∧ 1 ≤ a.vol ∧ a.vol ≤ 1000000000) :
    Calls Tryz.prog 81 #[ptr T, .int .i64 i, av a] w fun e w' => ∃ gv, e = .returned gv ∧ FolP w w' B T (folR i a t) gv := by
  rw [fol_draw k8 h]
  have HT : Hid (Bk T [.bool t.on, hv] w) := hT
  have HH : Hid (Hd w B T hv t.held) := hH
  have c0 := hT.c 0 rfl
  have f0 := hT.f 0 rfl
  have c1 := hT.c 1 rfl
  have f1 := hT.f 1 rfl
  have hlt := hT.1
  have hneA : T ≠ w.heap.size := by omega
  obtain ⟨ao, cap, rfl⟩ := hH.form
  clear hT hH
  have h6 : (a.kind == 6) = false := by simp; omega
  have h7 : (a.kind == 7) = false := by simp; omega
  obtain ⟨hon, hv1, hv2⟩ := h
  have hon' := hon
  rw [hon] at c0
  have h8 : (a.kind == 8) = true := by simp [k8]
  clear k8
  obtain ⟨w0, hw0⟩ : ∃ w0, w0 = w.alloc (.cells (avs a) 55) := ⟨_, rfl⟩
  have b0 : Below w.heap.size w w0 := by rw [hw0]; exact (Below.refl _ _).alloc (Nat.le_refl _) _
  have KT : Hid (Bk T [.bool true, .slice ao t.held.length cap] w0) := by show Bk _ _ _; have := HT.out.later b0; rwa [hon] at this
  have KA : Hid (Bk w.heap.size (acl a) w0) := by show Bk _ _ _; rw [hw0]; exact Bk.new w (acl a) 55 w.heap.size rfl
  have HD0 : Hid (Hd w0 B T (.slice ao t.held.length cap) t.held) := HH.out.later b0
  have HB0 : Hid (Below w.heap.size w w0) := b0
  have hTw0 : T < w0.heap.size := KT.out.1
  clear b0
  go_enter Tryz.func81, Tryz.ntmps81
  go_wp2_with fail
  rw [← hw0]
  clear hw0
  refine region_seqL 10 0 [false, false, false, false, false, false, false, false, false, false, false, false, false, false, false, false, false, false, false, false, false, false, false, false, false, false, false, false, false, false, false, false, false, false, false, false, false, false, true, true, true, true, true, true, true, true, true, true, false, false, false, false, false, false, false, false, false, false]
    [(38, [], none), (39, [], none), (40, [39], none), (41, [40], none), (42, [41], none), (43, [], none), (44, [], none), (45, [44], none), (46, [43, 45], none), (47, [46], none)]
    (foV T w.heap.size w0.heap.size i t.held.length cap ao a) (by kernel_rfl) (by kernel_rfl) (by kernel_rfl) (by kernel_rfl) (by kernel_rfl) (by decide) (by decide) (foV_mono T w.heap.size w0.heap.size i t.held.length cap ao a) ?_ ?_ ?_
  · refine ⟨?_, ?_, ?_, ?_, ?_, ?_, ?_, ?_, ?_, ?_, trivial⟩
    · intro f w1 hb _ K hK
      simp only [over, overL, Nat.reduceAdd]
      go_simp
      exact hK _ _ ⟨_, rfl, by simp only [over, overL, Nat.reduceAdd]; rfl, Below.refl _ _⟩
    · intro f w1 hb _ K hK
      simp only [over, overL, Nat.reduceAdd]
      go_simp
      exact hK _ _ ⟨_, rfl, by simp only [over, overL, Nat.reduceAdd]; rfl, Below.refl _ _⟩
    · intro f w1 hb ⟨h39, _⟩ K hK
      replace h39 : f 39 = _ := h39
      simp only [over, overL, Nat.reduceAdd, h39]
      go_simp
      exact hK _ _ ⟨_, rfl, by simp only [over, overL, Nat.reduceAdd, h39]; rfl, Below.refl _ _⟩
    · intro f w1 hb ⟨h40, _⟩ K hK
      replace h40 : f 40 = _ := h40
      simp only [over, overL, Nat.reduceAdd, h40]
      go_simp
      exact hK _ _ ⟨_, rfl, by simp only [over, overL, Nat.reduceAdd, h40]; rfl, Below.refl _ _⟩
    · intro f w1 hb ⟨h41, _⟩ K hK
      replace h41 : f 41 = _ := h41
      have q1 := (KT.out.later hb).c 1 rfl
      simp only [over, overL, Nat.reduceAdd, h41]
      go_simp
      exact hK _ _ ⟨_, rfl, by simp only [over, overL, Nat.reduceAdd, h41]; rfl, Below.refl _ _⟩
    · intro f w1 hb _ K hK
      simp only [over, overL, Nat.reduceAdd]
      go_simp
      exact hK _ _ ⟨_, rfl, by simp only [over, overL, Nat.reduceAdd]; rfl, Below.refl _ _⟩
    · intro f w1 hb _ K hK
      simp only [over, overL, Nat.reduceAdd]
      go_simp
      exact hK _ _ ⟨_, rfl, by simp only [over, overL, Nat.reduceAdd]; rfl, Below.refl _ _⟩
    · intro f w1 hb ⟨h44, _⟩ K hK
      replace h44 : f 44 = _ := h44
      have q5 := (KA.out.later hb).c 5 rfl
      simp only [over, overL, Nat.reduceAdd, h44]
      go_simp
      exact hK _ _ ⟨_, rfl, by simp only [over, overL, Nat.reduceAdd, h44]; rfl, Below.refl _ _⟩
    · intro f w1 hb ⟨h43, h45, _⟩ K hK
      replace h43 : f 43 = _ := h43
      replace h45 : f 45 = _ := h45
      simp only [over, overL, Nat.reduceAdd, h43, h45]
      go_simp
      exact hK _ _ ⟨_, rfl, by simp only [over, overL, Nat.reduceAdd, h43, h45]; rfl, Below.refl _ _⟩
    · intro f w1 hb ⟨h46, _⟩ K hK
      replace h46 : f 46 = _ := h46
      simp only [over, overL, Nat.reduceAdd, h46]
      go_simp
      exact hK _ _ ⟨_, ⟨w1.heap.size, rfl, hb.size, Bk.new w1 [.int .i64 i, .int .i64 0, .int .i64 a.vol] 89 w1.heap.size rfl⟩, by simp only [over, overL, Nat.reduceAdd, h46]; rfl, (Below.refl _ _).alloc (Nat.le_refl _) _⟩
  · intro f w3 hb3 hv
    have h38 : f 38 = .pointer (some ⟨T, 0, none⟩) := hv.1
    have h42 : f 42 = .slice ao t.held.length cap := hv.2.2.2.2.1
    obtain ⟨b, h47, hbb, K47⟩ := (show ∃ b, f 47 = .slice (some ⟨b, 0, none⟩) 1 1 ∧ w0.heap.size ≤ b ∧ Bk b [.int .i64 i, .int .i64 0, .int .i64 a.vol] w3 from hv.2.2.2.2.2.2.2.2.2.1)
    have hs3 := hb3.size
    have hws := HB0.out.size
    simp only [over, overL, Nat.reduceAdd, h38, h42, h47]
    refine wpList_append_hd w3 rfl (.tmp 42) (.tmp 47) rfl B T (.slice ao t.held.length cap) t.held rfl (HD0.out.later hb3) b (i, a.vol) rfl (fun j u hj => K47.c j hj) (by omega) (by omega) (by omega) ?_
    intro ao4 cap4 w4 hd4 k4
    have KT3 := KT.out.later hb3
    have KT4 := k4.bk KT3 (by omega)
    have q1 := KT4.c 1 rfl
    have qf1 := KT4.f 1 rfl
    go_wp2
    go_ret
    have kp : Kpt (fun k => B ≤ k) w (w4.setCell ⟨T, 1, none⟩ (.slice ao4 (t.held.length + 1) cap4)) :=
      ((Kpt.of_below HB0.out).trans (Kpt.of_below hb3)).trans ((k4.mono fun k e => e.1).trans (Kpt.setCell w4 T 1 _ hBT))
    exact ⟨_, rfl, ⟨OwnR.nil _ _ _, ⟨_, KT4.put 1 _, hd4.kept (by simp [World.setCell]) fun k _ _ hk => Below.heap_setCell _ _ _ _ hk⟩, kp⟩⟩
  · intro f w3 ok ol hok' hol hb3 hv
    cases hok'
    cases hol
    have h42 : f 42 = .slice ao t.held.length cap := hv.2.2.2.2.1 (by decide)
    obtain ⟨b, h47, hbb, K47⟩ := (show ∃ b, f 47 = .slice (some ⟨b, 0, none⟩) 1 1 ∧ w0.heap.size ≤ b ∧ Bk b [.int .i64 i, .int .i64 0, .int .i64 a.vol] w3 from hv.2.2.2.2.2.2.2.2.2.1 (by decide))
    have hs3 := hb3.size
    have hws := HB0.out.size
    simp only [over, overL, Nat.reduceAdd, h42, h47]
    refine wpList_append_hd w3 rfl (.tmp 42) (.tmp 47) rfl B T (.slice ao t.held.length cap) t.held rfl (HD0.out.later hb3) b (i, a.vol) rfl (fun j u hj => K47.c j hj) (by omega) (by omega) (by omega) ?_
    intro ao4 cap4 w4 hd4 k4
    have KT3 := KT.out.later hb3
    have KT4 := k4.bk KT3 (by omega)
    have q1 := KT4.c 1 rfl
    have qf1 := KT4.f 1 rfl
    go_wp2
    go_ret
    have kp : Kpt (fun k => B ≤ k) w (w4.setCell ⟨T, 1, none⟩ (.slice ao4 (t.held.length + 1) cap4)) :=
      ((Kpt.of_below HB0.out).trans (Kpt.of_below hb3)).trans ((k4.mono fun k e => e.1).trans (Kpt.setCell w4 T 1 _ hBT))
    exact ⟨_, rfl, ⟨OwnR.nil _ _ _, ⟨_, KT4.put 1 _, hd4.kept (by simp [World.setCell]) fun k _ _ hk => Below.heap_setCell _ _ _ _ hk⟩, kp⟩⟩
end Go.Proofs.YtgbnjgenopdmfaaGreat.L
