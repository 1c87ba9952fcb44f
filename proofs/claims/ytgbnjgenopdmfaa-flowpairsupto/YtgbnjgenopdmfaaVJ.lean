/- What the bulk of an input says of a slice's length. -/
import Derived.Test.YtgbnjgenopdmfaaRows
import Derived.Test.YtgbnjgenopdmfaaLU
namespace Go.Proofs.Ytgbnjgenopdmfaa
open Go.ChangeShapes Go.WideShapes Go.ChangeAt Go.RowKit Go.Deep

theorem bulk_pos {H : Type} (d : DataW H) : 1 ≤ Rows.uptoBulk d := by
  cases d with
  | lit x => cases x <;> simp only [Rows.uptoBulk] <;> omega
  | _ => simp only [Rows.uptoBulk]; omega
theorem bulkAll_len {H : Type} : ∀ l : List (DataW H), l.length ≤ Rows.uptoBulkAll l
  | [] => by simp [Rows.uptoBulkAll]
  | d :: l => by
    have h1 := bulk_pos d
    have h2 := bulkAll_len l
    simp only [Rows.uptoBulkAll, List.length_cons]
    omega
set_option maxRecDepth 100000 in
theorem slice_bulk {H : Type} {enc : TypeId × Value → H} {W : World} {t e : TypeId} (hu : Try.prog.underlying t = some (.slice e)) {ao : Option Addr} {n cap : Nat} {d : DataW H} {p : List MemPlace}
    (h : DataW.Trod enc Try.prog W 0 (fun _ => true) true t (.slice ao n cap) d p) : n ≤ Rows.uptoBulk d := by
  obtain ⟨fuel, hf⟩ := h
  have hf : DataW.trod enc Try.prog W 0 (fun _ => true) true fuel t [.slice ao n cap] = some (d, p) := hf
  rcases open_slice hu hf with ⟨hcs, _⟩ | ⟨a, len, cap2, m, n', D, Pl, hcs, _, hl, hm, hmm, hx, _⟩
  · simp only [List.cons.injEq, and_true] at hcs
    injection hcs with _ h2
    omega
  · simp only [if_true] at hmm
    subst hmm
    simp only [List.cons.injEq, and_true] at hcs
    injection hcs with _ h2
    have h3 := bulkAll_len ((List.range len).map D)
    rw [List.length_map, List.length_range] at h3
    have h4 : Rows.uptoBulkAll ((List.range len).map D) ≤ Rows.uptoBulk d := by
      have e1 : d = (d, p).1 := rfl
      rw [e1, hx]
      simp only [Rows.uptoBulk]
      omega
    omega
end Go.Proofs.Ytgbnjgenopdmfaa
