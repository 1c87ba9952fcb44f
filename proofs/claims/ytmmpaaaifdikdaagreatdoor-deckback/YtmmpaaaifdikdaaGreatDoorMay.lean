/- What the ranges of a ware come to. -/
import Derived.Test.YtmmpaaaifdikdaaGreatDoorChk
namespace Go.Proofs.YtmmpaaaifdikdaaGreatDoor
open Go.RowKit

/-- The seven numbers, as the document lists them. -/
def sevens (a : Wr) : List Int := [a.x, a.y, a.pitch, a.deep, a.wid, a.len, a.hei]
/-- Is the number at a place good? -/
def good7 (k : Nat) (v : Int) : Prop := (0 ≤ v ∧ v ≤ 200000) ∧ (4 ≤ k → v ≠ 0)
/-- May the capacity be? -/
def capOk (a : Wr) : Prop := (a.kind = 3 → a.cap = 0) ∧ (a.kind ≠ 3 → 1 ≤ a.cap ∧ a.cap ≤ 1000000000)
theorem many_iff {r c : Int} (hr : 1 ≤ r) (hc : 1 ≤ c) : 1 < r * c ↔ (1 < r ∨ 1 < c) := by
  constructor
  · intro h
    by_cases h1 : 1 < r
    · exact .inl h1
    · by_cases h2 : 1 < c
      · exact .inr h2
      · have e1 : r = 1 := by omega
        have e2 : c = 1 := by omega
        subst e1; subst e2; omega
  · rintro (h | h)
    · have k1 : r * 1 ≤ r * c := Int.mul_le_mul_of_nonneg_left hc (by omega)
      omega
    · have k1 : 1 * c ≤ r * c := Int.mul_le_mul_of_nonneg_right hr (by omega)
      omega
theorem range_iff {a : Wr} (hr : 1 ≤ a.rows) (hc : 1 ≤ a.cols) : rangeOk a = true ↔
    (∀ k, k < 7 → good7 k ((sevens a).getD k 0)) ∧ (a.pitch = 0 → ¬ (1 < a.rows ∨ 1 < a.cols)) ∧ capOk a := by
  have hlo : loP a = if 1 < a.rows ∨ 1 < a.cols then 1 else 0 := by
    unfold loP
    by_cases h : 1 < a.rows ∨ 1 < a.cols
    · rw [if_pos h, if_pos ((many_iff hr hc).2 h)]
    · rw [if_neg h, if_neg fun h2 => h ((many_iff hr hc).1 h2)]
  have h7 : (∀ k, k < 7 → good7 k ((sevens a).getD k 0)) ↔ ((0 ≤ a.x ∧ a.x ≤ 200000) ∧ (0 ≤ a.y ∧ a.y ≤ 200000) ∧ (0 ≤ a.pitch ∧ a.pitch ≤ 200000) ∧ (0 ≤ a.deep ∧ a.deep ≤ 200000) ∧ (1 ≤ a.wid ∧ a.wid ≤ 200000) ∧ (1 ≤ a.len ∧ a.len ≤ 200000) ∧ 1 ≤ a.hei ∧ a.hei ≤ 200000) := by
    constructor
    · intro h
      have h0 := h 0 (by decide); have h1 := h 1 (by decide); have h2 := h 2 (by decide); have h3 := h 3 (by decide); have h4 := h 4 (by decide); have h5 := h 5 (by decide); have h6 := h 6 (by decide)
      simp only [good7, sevens, List.getD_cons_zero, List.getD_cons_succ] at h0 h1 h2 h3 h4 h5 h6
      have n4 := h4.2 (by decide); have n5 := h5.2 (by decide); have n6 := h6.2 (by decide)
      omega
    · intro h k hk
      rcases (show k = 0 ∨ k = 1 ∨ k = 2 ∨ k = 3 ∨ k = 4 ∨ k = 5 ∨ k = 6 by omega) with e | e | e | e | e | e | e
      all_goals (subst e; simp only [good7, sevens, List.getD_cons_zero, List.getD_cons_succ]; omega)
  rw [h7]
  simp only [rangeOk, List.all_cons, List.all_nil, Bool.and_true, Bool.and_eq_true, inR_iff, capOk]
  rw [hlo]
  unfold loC hiC
  by_cases hk : a.kind = 3
  · rw [if_pos hk, if_pos hk]
    by_cases hm : 1 < a.rows ∨ 1 < a.cols
    · rw [if_pos hm]; omega
    · rw [if_neg hm]; omega
  · rw [if_neg hk, if_neg hk]
    by_cases hm : 1 < a.rows ∨ 1 < a.cols
    · rw [if_pos hm]; omega
    · rw [if_neg hm]; omega
theorem room_iff {a : Wr} (h : InR a) : roomOk a = true ↔
    (∀ r c : Nat, (r : Int) < a.rows → (c : Int) < a.cols → a.x + c * a.pitch ≤ a.wid ∧ a.y + r * a.pitch ≤ a.len) ∧ a.deep ≤ a.hei := by
  obtain ⟨r1, r2, c1, c2, x0, x1, y0, y1, p0, p1, w0, w1, l0, l1, h0, h1, d0, d1⟩ := h
  simp only [roomOk, Bool.and_eq_true, decide_eq_true_eq]
  constructor
  · rintro ⟨hx, hy, hd⟩
    refine ⟨fun r c hr hc => ⟨?_, ?_⟩, hd⟩
    · have k1 : (c : Int) * a.pitch ≤ (a.cols - 1) * a.pitch := Int.mul_le_mul_of_nonneg_right (by omega) p0
      omega
    · have k1 : (r : Int) * a.pitch ≤ (a.rows - 1) * a.pitch := Int.mul_le_mul_of_nonneg_right (by omega) p0
      omega
  · rintro ⟨hall, hd⟩
    have e1 : ((a.cols - 1).toNat : Int) = a.cols - 1 := Int.toNat_of_nonneg (by omega)
    have e2 : ((a.rows - 1).toNat : Int) = a.rows - 1 := Int.toNat_of_nonneg (by omega)
    have h := hall (a.rows - 1).toNat (a.cols - 1).toNat (by omega) (by omega)
    rw [e1, e2] at h
    exact ⟨h.1, h.2, hd⟩


end Go.Proofs.YtmmpaaaifdikdaaGreatDoor
