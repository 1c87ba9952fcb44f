/- The document's WareMay: the plain facts, and the ways out ahead of its loops, walked. -/
import Derived.Test.YtefjeohhdmmboaaDoorChk
namespace Go.Proofs.YtefjeohhdmmboaaDoor
open Go.RowKit

theorem within_v (n lo hi : Int) (v : Bool) (hv : inR lo hi n = v) (w : World) :
    Calls Tryd.prog 35 #[.int .i64 n, .int .i64 lo, .int .i64 hi] w fun e w' => e = .returned (.bool v) ∧ w' = w := by
  subst hv; exact within_any n lo hi w

/-- The seven numbers, as the document lists them. -/
def sevens (a : Wr) : List Int := [a.x, a.y, a.pitch, a.deep, a.wid, a.len, a.hei]
/-- Is the number at a place good? -/
def good7 (k : Nat) (v : Int) : Prop := (0 ≤ v ∧ v ≤ 200000) ∧ (4 ≤ k → v ≠ 0)
/-- May the capacity be? -/
def capOk (a : Wr) : Prop := (a.kind = 3 → a.cap = 0) ∧ (a.kind ≠ 3 → 1 ≤ a.cap ∧ a.cap ≤ 1000000000)
theorem many_iff {r c : Int} (hr : 1 ≤ r) (hc : 1 ≤ c) : 1 < r * c ↔ (1 < r ∨ 1 < c) := by
  constructor
  · intro h
    by_cases h1 : 1 < r
    · exact .inl h1
    · by_cases h2 : 1 < c
      · exact .inr h2
      · have e1 : r = 1 := by omega
        have e2 : c = 1 := by omega
        subst e1; subst e2; omega
  · rintro (h | h)
    · have k1 : r * 1 ≤ r * c := Int.mul_le_mul_of_nonneg_left hc (by omega)
      omega
    · have k1 : 1 * c ≤ r * c := Int.mul_le_mul_of_nonneg_right hr (by omega)
      omega
theorem range_iff {a : Wr} (hr : 1 ≤ a.rows) (hc : 1 ≤ a.cols) : rangeOk a = true ↔
    (∀ k, k < 7 → good7 k ((sevens a).getD k 0)) ∧ (a.pitch = 0 → ¬ (1 < a.rows ∨ 1 < a.cols)) ∧ capOk a := by
  have hlo : loP a = if 1 < a.rows ∨ 1 < a.cols then 1 else 0 := by
    unfold loP
    by_cases h : 1 < a.rows ∨ 1 < a.cols
    · rw [if_pos h, if_pos ((many_iff hr hc).2 h)]
    · rw [if_neg h, if_neg fun h2 => h ((many_iff hr hc).1 h2)]
  have h7 : (∀ k, k < 7 → good7 k ((sevens a).getD k 0)) ↔ ((0 ≤ a.x ∧ a.x ≤ 200000) ∧ (0 ≤ a.y ∧ a.y ≤ 200000) ∧ (0 ≤ a.pitch ∧ a.pitch ≤ 200000) ∧ (0 ≤ a.deep ∧ a.deep ≤ 200000) ∧ (1 ≤ a.wid ∧ a.wid ≤ 200000) ∧ (1 ≤ a.len ∧ a.len ≤ 200000) ∧ 1 ≤ a.hei ∧ a.hei ≤ 200000) := by
    constructor
    · intro h
      have h0 := h 0 (by decide); have h1 := h 1 (by decide); have h2 := h 2 (by decide); have h3 := h 3 (by decide); have h4 := h 4 (by decide); have h5 := h 5 (by decide); have h6 := h 6 (by decide)
      simp only [good7, sevens, List.getD_cons_zero, List.getD_cons_succ] at h0 h1 h2 h3 h4 h5 h6
      have n4 := h4.2 (by decide); have n5 := h5.2 (by decide); have n6 := h6.2 (by decide)
      omega
    · intro h k hk
      rcases (show k = 0 ∨ k = 1 ∨ k = 2 ∨ k = 3 ∨ k = 4 ∨ k = 5 ∨ k = 6 by omega) with e | e | e | e | e | e | e
      all_goals (subst e; simp only [good7, sevens, List.getD_cons_zero, List.getD_cons_succ]; omega)
  rw [h7]
  simp only [rangeOk, List.all_cons, List.all_nil, Bool.and_true, Bool.and_eq_true, inR_iff, capOk]
  rw [hlo]
  unfold loC hiC
  by_cases hk : a.kind = 3
  · rw [if_pos hk, if_pos hk]
    by_cases hm : 1 < a.rows ∨ 1 < a.cols
    · rw [if_pos hm]; omega
    · rw [if_neg hm]; omega
  · rw [if_neg hk, if_neg hk]
    by_cases hm : 1 < a.rows ∨ 1 < a.cols
    · rw [if_pos hm]; omega
    · rw [if_neg hm]; omega
theorem room_iff {a : Wr} (h : InR a) : roomOk a = true ↔
    (∀ r c : Nat, (r : Int) < a.rows → (c : Int) < a.cols → a.x + c * a.pitch ≤ a.wid ∧ a.y + r * a.pitch ≤ a.len) ∧ a.deep ≤ a.hei := by
  obtain ⟨r1, r2, c1, c2, x0, x1, y0, y1, p0, p1, w0, w1, l0, l1, h0, h1, d0, d1⟩ := h
  simp only [roomOk, Bool.and_eq_true, decide_eq_true_eq]
  constructor
  · rintro ⟨hx, hy, hd⟩
    refine ⟨fun r c hr hc => ⟨?_, ?_⟩, hd⟩
    · have k1 : (c : Int) * a.pitch ≤ (a.cols - 1) * a.pitch := Int.mul_le_mul_of_nonneg_right (by omega) p0
      omega
    · have k1 : (r : Int) * a.pitch ≤ (a.rows - 1) * a.pitch := Int.mul_le_mul_of_nonneg_right (by omega) p0
      omega
  · rintro ⟨hall, hd⟩
    have e1 : ((a.cols - 1).toNat : Int) = a.cols - 1 := Int.toNat_of_nonneg (by omega)
    have e2 : ((a.rows - 1).toNat : Int) = a.rows - 1 := Int.toNat_of_nonneg (by omega)
    have h := hall (a.rows - 1).toNat (a.cols - 1).toNat (by omega) (by omega)
    rw [e1, e2] at h
    exact ⟨h.1, h.2, hd⟩

set_option maxHeartbeats 3200000 in
theorem may_label (a : Wr) (w : World) (hs : a.name.size ≤ maxLen) (hl : lab a.name = false) :
    Calls Tryd.prog 11 #[wv a] w fun e w' => e = .returned (.int .i64 (chk a)) ∧ Below w.heap.size w w' := by
  have HC : Hid (chk a = 3) := by unfold chk; rw [hl]; rfl
  rw [HC.out]
  go_enter Tryd.func11, Tryd.ntmps11
  go_wp2_with (go_at_call 33; refine (labelMay_any a.name _ hs).mono ?_; rintro e w2 ⟨rfl, hw2⟩; subst hw2; rw [hl])
  go_ret
  exact ⟨rfl, (Below.refl _ _).alloc (Nat.le_refl _) _⟩
set_option maxHeartbeats 3200000 in
theorem may_kind (a : Wr) (w : World) (hs : a.name.size ≤ maxLen) (hl : lab a.name = true) (hk : inR 1 3 a.kind = false) :
    Calls Tryd.prog 11 #[wv a] w fun e w' => e = .returned (.int .i64 (chk a)) ∧ Below w.heap.size w w' := by
  have HC : Hid (chk a = 6) := by unfold chk; rw [hl, hk]; rfl
  rw [HC.out]
  go_enter Tryd.func11, Tryd.ntmps11
  go_wp2_with fail
  refine (labelMay_any a.name _ hs).mono ?_
  rintro e w2 ⟨rfl, hw2⟩
  subst hw2
  rw [hl]
  go_wp2_with fail
  refine (within_v a.kind 1 3 false hk _).mono ?_
  rintro e w2 ⟨rfl, hw2⟩
  subst hw2
  go_wp2
  go_ret
  exact ⟨rfl, (Below.refl _ _).alloc (Nat.le_refl _) _⟩
set_option maxHeartbeats 3200000 in
theorem may_rows (a : Wr) (w : World) (hs : a.name.size ≤ maxLen) (hl : lab a.name = true) (hk : inR 1 3 a.kind = true) (hr : inR 1 16 a.rows = false) :
    Calls Tryd.prog 11 #[wv a] w fun e w' => e = .returned (.int .i64 (chk a)) ∧ Below w.heap.size w w' := by
  have HC : Hid (chk a = 7) := by unfold chk; rw [hl, hk, hr]; rfl
  rw [HC.out]
  go_enter Tryd.func11, Tryd.ntmps11
  go_wp2_with fail
  refine (labelMay_any a.name _ hs).mono ?_
  rintro e w2 ⟨rfl, hw2⟩
  subst hw2
  rw [hl]
  go_wp2_with fail
  refine (within_v a.kind 1 3 true hk _).mono ?_
  rintro e w2 ⟨rfl, hw2⟩
  subst hw2
  go_wp2_with fail
  refine (within_v a.rows 1 16 false hr _).mono ?_
  rintro e w2 ⟨rfl, hw2⟩
  subst hw2
  go_wp2
  go_ret
  exact ⟨rfl, (Below.refl _ _).alloc (Nat.le_refl _) _⟩
set_option maxHeartbeats 3200000 in
theorem may_cols (a : Wr) (w : World) (hs : a.name.size ≤ maxLen) (hl : lab a.name = true) (hk : inR 1 3 a.kind = true) (hr : inR 1 16 a.rows = true) (hc : inR 1 24 a.cols = false) :
    Calls Tryd.prog 11 #[wv a] w fun e w' => e = .returned (.int .i64 (chk a)) ∧ Below w.heap.size w w' := by
  have HC : Hid (chk a = 7) := by unfold chk; rw [hl, hk, hr, hc]; rfl
  rw [HC.out]
  go_enter Tryd.func11, Tryd.ntmps11
  go_wp2_with fail
  refine (labelMay_any a.name _ hs).mono ?_
  rintro e w2 ⟨rfl, hw2⟩
  subst hw2
  rw [hl]
  go_wp2_with fail
  refine (within_v a.kind 1 3 true hk _).mono ?_
  rintro e w2 ⟨rfl, hw2⟩
  subst hw2
  go_wp2_with fail
  refine (within_v a.rows 1 16 true hr _).mono ?_
  rintro e w2 ⟨rfl, hw2⟩
  subst hw2
  go_wp2_with fail
  refine (within_v a.cols 1 24 false hc _).mono ?_
  rintro e w2 ⟨rfl, hw2⟩
  subst hw2
  go_wp2
  go_ret
  exact ⟨rfl, (Below.refl _ _).alloc (Nat.le_refl _) _⟩
end Go.Proofs.YtefjeohhdmmboaaDoor
