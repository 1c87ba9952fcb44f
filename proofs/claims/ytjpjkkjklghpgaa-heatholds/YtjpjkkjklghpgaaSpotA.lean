/- Small lemmas. -/
import Derived.Test.YtjpjkkjklghpgaaAny
namespace Go.Proofs.Ytjpjkkjklghpgaa
open Go.RowKit

theorem cell_later {w w' : World} (hb : Below w.heap.size w w') {b o : Nat} {v : Value} (h : w.cell? ⟨b, o, none⟩ = some v) : w'.cell? ⟨b, o, none⟩ = some v := by
  rw [← h]
  refine hb.cell (p := ⟨b, o, none⟩) ?_
  show b < w.heap.size
  by_cases e : b < w.heap.size
  · exact e
  · have : w.heap[b]? = none := by simp; omega
    simp [World.cell?, this] at h

theorem wrap_in {x : Int} (h : -9223372036854775808 ≤ x) (h2 : x ≤ 9223372036854775807) : IntKind.i64.wrap x = x := by
  rw [IntWalk.i64_left]; exact IntWalk.wrap64_in _ ⟨h, h2⟩

end Go.Proofs.Ytjpjkkjklghpgaa
