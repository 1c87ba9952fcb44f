/- What is handed back. -/
import Derived.Test.YtjappkfhballhaaGreatFI
namespace Go.Proofs.YtjappkfhballhaaGreat.F
open Go.RowKit Go.Maps Go.WideMaps

open Go.RowKit Go.Maps Go.WideMaps

theorem own_below {w w' : World} {base : Nat} {v : Value} {ps : List Pc} (h : Own w base v ps) (hb : Below w.heap.size w w') : Own w' base v ps := by
  obtain ⟨h1, h2⟩ := h
  refine ⟨h1, h2.imp id ?_⟩
  rintro ⟨g, cap, cur, e, hg, hh, r⟩
  exact ⟨g, cap, cur, e, hg, (hb.block g (Array.getElem?_eq_some_iff.1 hh).1).trans hh, r⟩
theorem Own.give {w : World} {base : Nat} {v : Value} {ps : List Pc} (h : Own w base v ps) (hs : ∀ p ∈ ps, p.1.size ≤ maxLen) : ∃ ao cap, v = .slice ao ps.length cap ∧ Fl w ao ps := by
  obtain ⟨ao, cap, rfl⟩ := h.shape
  exact ⟨ao, cap, rfl, h.fl hs⟩
theorem fine_size {ps : List Pc} (h : fref ps = 0) : ∀ p ∈ ps, p.1.size ≤ maxLen := fun p hp => by
  have := lab_in ((fref_in h).2.1 p hp).1
  unfold maxLen; omega
theorem srt_size {ps S : List Pc} (h : fref ps = 0) (hS : Srt ps S) : ∀ p ∈ S, p.1.size ≤ maxLen := fun p hp => by
  obtain ⟨q, hq, e⟩ := srt_labels (fref_in h).2.1.nn hS p hp
  rw [← e]; exact fine_size h q hq


end Go.Proofs.YtjappkfhballhaaGreat.F
