/- What a tip holds, in memory: a slice that is cut at its front and appended to. -/
import Derived.Test.YtgbnjgenopdmfaaLM
import Derived.Test.YtgbnjgenopdmfaaLB
import Derived.Deep.AppendSrc
namespace Go.Proofs.Ytgbnjgenopdmfaa
open Go.RowKit

abbrev hcl (x : Nat × Int) : List Value := [.int .i64 x.1, .int .i64 0, .int .i64 x.2]
abbrev encH : Enc (Nat × Int) := ⟨54, 3, hcl⟩
theorem goodH : Good encH := ⟨fun _ => rfl, fun x u hu => by simp at hu; rcases hu with rfl | rfl | rfl <;> rfl⟩
abbrev shc (s : Shr) : List Value := [.int .i64 s.draw, .int .i64 s.put, .int .i64 s.vol]
abbrev encSh : Enc Shr := ⟨54, 3, shc⟩
theorem goodSh : Good encSh := ⟨fun _ => rfl, fun x u hu => by simp at hu; rcases hu with rfl | rfl | rfl <;> rfl⟩
theorem infoSh : (Try.prog.info? 54).map (fun i => (i.zero, i.size, i.bytes)) = some (some (.agg #[.int .i64 0, .int .i64 0, .int .i64 0]), 3, 24) := by kernel_rfl
/-- What is held: from block B on, not in block T. -/
def Hd (w : World) (B T : Nat) (v : Value) (hs : List (Nat × Int)) : Prop :=
  ∃ ao cap, v = .slice ao hs.length cap ∧ hs.length ≤ cap ∧ cap ≤ maxLen ∧ ((hs = [] ∧ cap = 0) ∨ ∃ g off, ao = some ⟨g, off, none⟩ ∧ B ≤ g ∧ g ≠ T ∧ g < w.heap.size ∧
    (∀ j, j < cap * 3 → (w.cell? ⟨g, off + j, none⟩).isSome = true ∧ w.frozen? ⟨g, off + j, none⟩ = false) ∧ ∀ k (h : k < hs.length) j, j < 3 → w.cell? ⟨g, off + k * 3 + j, none⟩ = (hcl (hs[k]'h))[j]?)
theorem Hd.nil (w : World) (B T : Nat) : Hd w B T (.slice none 0 0) [] := ⟨none, 0, rfl, Nat.le_refl _, Nat.zero_le _, .inl ⟨rfl, rfl⟩⟩
theorem Hd.form {w : World} {B T : Nat} {v : Value} {hs : List (Nat × Int)} (h : Hd w B T v hs) : ∃ ao cap, v = .slice ao hs.length cap := by
  obtain ⟨ao, cap, e, _⟩ := h
  exact ⟨ao, cap, e⟩
/-- Where nothing from block B on, but block T, has turned. -/
theorem Hd.kept {w w1 : World} {B T : Nat} {v : Value} {hs : List (Nat × Int)} (h : Hd w B T v hs) (hs1 : w.heap.size ≤ w1.heap.size) (hk : ∀ k, B ≤ k → k < w.heap.size → k ≠ T → w1.heap[k]? = w.heap[k]?) : Hd w1 B T v hs := by
  obtain ⟨ao, cap, e, h1, h2, h3⟩ := h
  refine ⟨ao, cap, e, h1, h2, h3.imp id ?_⟩
  rintro ⟨g, off, e1, e2, e3, e4, e5, e6⟩
  have hb := hk g e2 e4 e3
  have hc : ∀ o, w1.cell? ⟨g, o, none⟩ = w.cell? ⟨g, o, none⟩ := fun o => World.cell?_of_block (a := ⟨g, o, none⟩) hb
  have hf : ∀ o, w1.frozen? ⟨g, o, none⟩ = w.frozen? ⟨g, o, none⟩ := fun o => World.frozen?_of_block (a := ⟨g, o, none⟩) hb
  exact ⟨g, off, e1, e2, e3, Nat.lt_of_lt_of_le e4 hs1, fun j hj => by rw [hc, hf]; exact e5 j hj, fun k h j hj => by rw [hc]; exact e6 k h j hj⟩
theorem Hd.later {w w1 : World} {B T : Nat} {v : Value} {hs : List (Nat × Int)} (h : Hd w B T v hs) (hb : Below w.heap.size w w1) : Hd w1 B T v hs := h.kept hb.size fun k _ hk _ => hb.block k hk
theorem Kpt.setCell {M : Nat → Prop} (w : World) (g o : Nat) (v : Value) (hM : M g) : Kpt M w (w.setCell ⟨g, o, none⟩ v) :=
  ⟨rfl, rfl, rfl, by simp [World.setCell], fun k _ hk => Below.heap_setCell _ _ _ _ (fun e => hk (by rw [e]; exact hM))⟩
theorem hcl_at (x : Nat × Int) {j : Nat} (h : j < 3) : ∃ u, (hcl x)[j]? = some u := ⟨_, List.getElem?_eq_getElem (by simpa using h)⟩
/-- One more behind what is held. -/
theorem run_append_hd (w : World) (B T : Nat) (v : Value) (hs : List (Nat × Int)) (h : Hd w B T v hs) (x : Nat × Int) (b : Nat) (hx : ∀ j u, (hcl x)[j]? = some u → w.cell? ⟨b, j, none⟩ = some u)
    (hlen : hs.length ≤ 1000000) (hB : B ≤ w.heap.size) (hT : T < w.heap.size) (ty : TypeId) :
    ∃ ao cap w', (Builtin.append_ #[74, 74] ty #[v, .slice (some ⟨b, 0, none⟩) 1 1]).run Try.prog w = .ok (.slice ao (hs.length + 1) cap) w' ∧ Hd w' B T (.slice ao (hs.length + 1) cap) (hs ++ [x]) ∧ Kpt (fun k => B ≤ k ∧ k ≠ T) w w' := by
  obtain ⟨i0, hi, hz0, hz1, hz2⟩ := info_parts infoSh
  obtain ⟨ao, cap, rfl, h1, h2, h3⟩ := h
  have hsrc : Src Try.prog i0.size 74 (.slice (some ⟨b, 0, none⟩) 1 1) 1 (hcl x) w := by
    refine Src.ofSlice w Try.underlying74 _ _ _ _ (by rw [hz1]; rfl) ?_ (goodH.one x)
    intro j u hj
    rw [Addr.add_lit, Nat.zero_add]
    exact hx j u hj
  by_cases hroom : hs.length < cap
  · rcases h3 with ⟨_, h3⟩ | ⟨g, off, rfl, h4, h5, h6, h7, h8⟩
    · omega
    · have hin : ∀ j, j < 3 → hs.length * 3 + j < cap * 3 := fun j hj => by omega
      have hrun := run_append_room_src w 74 74 ty 54 i0 Try.underlying74 hi g off hs.length cap _ 1 (hcl x) hsrc (by omega)
        (fun j hj => by rw [hz1, Nat.add_assoc]; exact (h7 _ (hin j (by simpa using hj))).1) (fun j hj => by rw [hz1, Nat.add_assoc]; exact (h7 _ (hin j (by simpa using hj))).2)
      rw [hz1] at hrun
      have hkp : Kpt (fun k => B ≤ k ∧ k ≠ T) w (w.setCells g (off + hs.length * 3) (hcl x)) := by
        simp only [World.setCells]
        exact ((Kpt.setCell w g _ _ ⟨h4, h5⟩).trans (Kpt.setCell _ g _ _ ⟨h4, h5⟩)).trans (Kpt.setCell _ g _ _ ⟨h4, h5⟩)
      refine ⟨_, cap, _, hrun, ⟨_, cap, by rw [List.length_append]; rfl, by rw [List.length_append]; exact hroom, h2, .inr ⟨g, off, rfl, h4, h5, Nat.lt_of_lt_of_le h6 hkp.size, fun j hj => ?_, fun k hk j hj => ?_⟩⟩, hkp⟩
      · rw [World.frozen?_setCells]
        refine ⟨?_, (h7 j hj).2⟩
        by_cases hjj : hs.length * 3 ≤ j ∧ j < hs.length * 3 + 3
        · have := World.cell?_setCells_in g (hcl x) (off + hs.length * 3) w (fun i hi => by rw [Nat.add_assoc]; exact (h7 _ (hin i (by simpa using hi))).1) (j - hs.length * 3) (by simp; omega)
          rw [show off + hs.length * 3 + (j - hs.length * 3) = off + j by omega] at this
          rw [this]; rfl
        · rw [World.cell?_setCells_out g (hcl x) _ w _ (fun _ _ => by simp; omega)]
          exact (h7 j hj).1
      · by_cases hkl : k < hs.length
        · rw [World.cell?_setCells_out g (hcl x) _ w _ (fun _ _ => by simp; omega)]
          rw [List.getElem_append_left hkl]
          exact h8 k hkl j hj
        · have e : k = hs.length := by simp at hk; omega
          subst e
          have := World.cell?_setCells_in g (hcl x) (off + hs.length * 3) w (fun i hi => by rw [Nat.add_assoc]; exact (h7 _ (hin i (by simpa using hi))).1) j (by simpa using hj)
          rw [this]
          simp only [List.getElem_concat_length]
          exact (List.getElem?_eq_getElem (by simpa using hj)).symm
  · have e : cap = hs.length := by omega
    subst e
    have hold : ∃ olds : List Value, olds = hs.flatMap hcl ∧ (Builtin.firstCells i0.size hs.length (.slice ao hs.length hs.length)).run Try.prog w.drew = .ok olds.toArray w.drew := by
      refine ⟨_, rfl, ?_⟩
      rw [hz1]
      rcases h3 with ⟨h3, _⟩ | ⟨g, off, rfl, h4, h5, h6, h7, h8⟩
      · subst h3
        cases ao with
        | none => exact run_firstCells_none _ _ _ _ _
        | some ad => exact run_firstCells_some _ _ _ _ _ _ [] rfl (fun j u hj => by simp at hj)
      · refine run_firstCells_some _ 3 hs.length _ _ _ _ (cells_length goodH hs) ?_
        intro j u hj
        have hrd : RdR encH w (some ⟨g, off, none⟩) hs := .inr ⟨g, off, rfl, h6, h8⟩
        have := hrd.cells goodH (by decide) j u hj
        simpa using this
    obtain ⟨olds, holds, hold⟩ := hold
    have hfit : Builtin.nextslicecap (hs.length + 1) hs.length * i0.bytes ≤ 281474976710656 := by
      rw [hz2]
      have := nextslicecap_le (need := hs.length + 1) (old := hs.length) (by omega)
      omega
    have hrun := run_append_grow_src w 74 74 ty 54 i0 _ Try.underlying74 hi hz0 ao hs.length hs.length olds hold _ 1 (hcl x) hsrc (by omega) (by omega) hfit
    have hge : hs.length + 1 ≤ grownCap w (hs.length + 1) hs.length 54 := grownCap_ge w _ _ _
    have hle : grownCap w (hs.length + 1) hs.length 54 ≤ maxLen := grownCap_le_maxLen w _ _ _ (by unfold maxLen; omega)
    generalize hgc : grownCap w (hs.length + 1) hs.length 54 = gc at *
    obtain ⟨row, hrow⟩ : ∃ row : Array Value, row = (olds ++ hcl x).toArray ++ Builtin.zeroCells (Value.agg #[.int .i64 0, .int .i64 0, .int .i64 0]).cells (gc - (hs.length + 1)) := ⟨_, rfl⟩
    rw [← hrow] at hrun
    have hol : olds.length = hs.length * 3 := by rw [holds]; exact cells_length goodH hs
    have hsz : row.size = gc * 3 := by
      rw [hrow, Array.size_append, size_zeroCells]
      simp [hol, Value.cells]
      omega
    have hall : (olds ++ hcl x) = (hs ++ [x]).flatMap hcl := by rw [holds, List.flatMap_append]; simp
    refine ⟨_, gc, _, hrun, ⟨_, gc, by rw [List.length_append]; rfl, by rw [List.length_append]; exact hge, hle, .inr ⟨w.heap.size, 0, rfl, hB, by omega, by simp, fun j hj => ?_, fun k hk j hj => ?_⟩⟩, ?_⟩
    · have hnew := World.alloc_heap_new w.drew (.cells row 54)
      constructor
      · have : (w.drew.alloc (.cells row 54)).cell? ⟨w.heap.size, 0 + j, none⟩ = row[0 + j]? := by
          have h9 : (w.drew.alloc (.cells row 54)).heap[w.heap.size]? = some (.cells row 54) := hnew
          unfold World.cell?
          simp only [h9]
          rfl
        rw [this, Nat.zero_add, Array.getElem?_eq_getElem (by omega)]
        rfl
      · have h9 : (w.drew.alloc (.cells row 54)).heap[w.heap.size]? = some (.cells row 54) := hnew
        unfold World.frozen?
        simp only [h9]
        simp
    · have h9 : (w.drew.alloc (.cells row 54)).heap[w.heap.size]? = some (.cells row 54) := World.alloc_heap_new w.drew (.cells row 54)
      have : (w.drew.alloc (.cells row 54)).cell? ⟨w.heap.size, 0 + k * 3 + j, none⟩ = row[0 + k * 3 + j]? := by
        unfold World.cell?
        simp only [h9]
        rfl
      rw [this, Nat.zero_add, hrow, Array.getElem?_append_left (by simp [hol]; simp at hk; omega)]
      have h10 := cells_at goodH hk hj
      have e2 : encH.cells (hs ++ [x]) = olds ++ hcl x := hall.symm
      rw [e2] at h10
      simpa using h10
    · exact Kpt.of_below ⟨rfl, rfl, rfl, by simp, fun k hk => Below.heap_alloc w.drew _ k hk⟩
end Go.Proofs.Ytgbnjgenopdmfaa
