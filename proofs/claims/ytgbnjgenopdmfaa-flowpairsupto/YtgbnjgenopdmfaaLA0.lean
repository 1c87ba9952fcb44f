/- Places and actions, plainly. -/
import Derived.Test.YtgbnjgenopdmfaaProg
namespace Go.Proofs.Ytgbnjgenopdmfaa

/-- A place: slot, row, column. -/
abbrev Plc := Int × Int × Int
/-- By slots, columns, rows. -/
def pltB (p q : Plc) : Bool := decide (p.1 < q.1) || (decide (p.1 = q.1) && (decide (p.2.2 < q.2.2) || (decide (p.2.2 = q.2.2) && decide (p.2.1 < q.2.1))))
theorem plt_iff {p q : Plc} : pltB p q = true ↔ p.1 < q.1 ∨ (p.1 = q.1 ∧ (p.2.2 < q.2.2 ∨ (p.2.2 = q.2.2 ∧ p.2.1 < q.2.1))) := by simp [pltB]
theorem plt_trans {p q r : Plc} (h : pltB p q = true) (h2 : pltB q r = true) : pltB p r = true := by
  rw [plt_iff] at *
  omega
theorem plt_ne {p q : Plc} (h : pltB p q = true) : p ≠ q := by
  rintro rfl
  rw [plt_iff] at h
  omega
theorem plt_not {p q : Plc} (h : pltB p q = true) : pltB q p = false := by
  cases h2 : pltB q p with
  | false => rfl
  | true => exact absurd rfl (plt_ne (plt_trans h h2))
theorem plt_total {p q : Plc} (h : p ≠ q) : pltB p q = true ∨ pltB q p = true := by
  rw [plt_iff, plt_iff]
  obtain ⟨a, b, c⟩ := p
  obtain ⟨d, e, f⟩ := q
  simp only [ne_eq, Prod.mk.injEq] at h ⊢
  omega
structure Acn where
  kind : Int
  pl : Plc
  label : ByteArray
  vol : Int
  value : Int
  time : Int
end Go.Proofs.Ytgbnjgenopdmfaa
