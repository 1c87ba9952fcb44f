/- What is true of ramps. -/
import Derived.Test.YtfoikaneigmlcaaRI
namespace Go.Proofs.Ytfoikaneigmlcaa
open Go.RowKit

/-- From its end. -/
theorem speedsL_back (r : Rp) (n : Nat) {k : Nat} (h : k < n) : (speedsL r n)[n - 1 - k]'(by rw [speedsL_length]; omega) = (speedsL r n)[k]'(by rw [speedsL_length]; exact h) := by
  rw [speedsL_at, speedsL_at]
  congr 1
  omega
theorem speedsL_bd {r : Rp} {n : Nat} (hr : rpOk r = true) (hn : n ≤ 20000) {k : Nat} (h : k < (speedsL r n).length) : r.f ≤ (speedsL r n)[k]'h ∧ (speedsL r n)[k]'h ≤ r.m := by
  rw [speedsL_length] at h
  rw [speedsL_at]
  exact spA_bd hr (by omega)
/-- One step more is one more in the middle. -/
theorem speedsL_more (r : Rp) (n : Nat) : speedsL r (n + 1) = (speedsL r n).take (n / 2) ++ spA r (n / 2) :: (speedsL r n).drop (n / 2) := by
  refine List.ext_getElem ?_ fun k h1 h2 => ?_
  · simp only [speedsL_length, List.length_append, List.length_take, List.length_cons, List.length_drop]; omega
  · rw [speedsL_length] at h1
    rw [speedsL_at]
    by_cases hk : k < n / 2
    · rw [List.getElem_append_left (by rw [List.length_take, speedsL_length]; omega), List.getElem_take, speedsL_at]
      congr 1
      omega
    · rw [List.getElem_append_right (by rw [List.length_take, speedsL_length]; omega)]
      have hl : (List.take (n / 2) (speedsL r n)).length = n / 2 := by rw [List.length_take, speedsL_length]; omega
      by_cases hk2 : k = n / 2
      · subst hk2
        simp only [hl, Nat.sub_self, List.getElem_cons_zero]
        congr 1
        omega
      · obtain ⟨j, rfl⟩ : ∃ j, k = n / 2 + (j + 1) := ⟨k - n / 2 - 1, by omega⟩
        simp only [hl, Nat.add_sub_cancel_left, List.getElem_cons_succ, List.getElem_drop, speedsL_at]
        congr 1
        omega
theorem addedL_more (r : Rp) (n : Nat) : addedL r (n + 1) = addedL r n ++ [spA r (n / 2)] := by simp [addedL, List.range_succ]
theorem totR_more (r : Rp) (n : Nat) : totR r (n + 1) = totR r n + Int.tdiv r.c (spA r (n / 2)) := by
  unfold totR timesL
  rw [speedsL_more, List.map_append, List.map_cons, List.sum_append, List.sum_cons]
  have : ((speedsL r n).map fun x => Int.tdiv r.c x).sum = (((speedsL r n).take (n / 2)).map fun x => Int.tdiv r.c x).sum + (((speedsL r n).drop (n / 2)).map fun x => Int.tdiv r.c x).sum := by
    rw [← List.sum_append, ← List.map_append, List.take_append_drop]
  rw [this]
  omega
theorem totR_added (r : Rp) (n : Nat) : (timesL r (addedL r n)).sum = totR r n := by
  induction n with
  | zero => rfl
  | succ n ih =>
    rw [totR_more, ← ih]
    unfold timesL
    rw [addedL_more, List.map_append, List.sum_append]
    simp
theorem addedL_take (r : Rp) {n m : Nat} (h : n ≤ m) : (addedL r m).take n = addedL r n := by
  unfold addedL
  rw [← List.map_take, List.take_range, Nat.min_eq_left h]
theorem time_pos {r : Rp} (hr : rpOk r = true) {x : Int} (h0 : 1 ≤ x) (h : x ≤ r.m) : 1 ≤ Int.tdiv r.c x := by
  have := rpOk_iff.1 hr
  rw [Int.tdiv_eq_ediv_of_nonneg (by omega)]
  exact Int.le_ediv_of_mul_le (by omega) (by omega)
theorem step_pos {r : Rp} (hr : rpOk r = true) {k : Nat} (hk : k ≤ 20000) : 1 ≤ Int.tdiv r.c (spA r k) := time_pos hr (spA_pos hr hk) (spA_bd hr hk).2
theorem totR_lt {r : Rp} (hr : rpOk r = true) {n : Nat} (hn : n ≤ 20000) : totR r n < totR r (n + 1) := by
  rw [totR_more]
  have := step_pos hr (k := n / 2) (by omega)
  omega
theorem tot_pos {r : Rp} (hr : rpOk r = true) {n : Nat} (hn : n ≤ 20000) (h0 : 0 < n) : 1 ≤ totR r n := by
  obtain ⟨m, rfl⟩ : ∃ m, n = m + 1 := ⟨n - 1, by omega⟩
  have h1 := totR_lt hr (n := m) (by omega)
  have h2 := sum_bd (timesL_bd hr (speedsL_pos hr (n := m) (by omega)))
  unfold totR at *
  omega
theorem totR_bd {r : Rp} (hr : rpOk r = true) {n : Nat} (hn : n ≤ 20000) : 0 ≤ totR r n ∧ totR r n ≤ 2000000000000 := by
  have := sum_bd (timesL_bd hr (speedsL_pos hr hn))
  rw [timesL_length, speedsL_length] at this
  unfold totR
  omega
theorem doneN_all {xs : List Int} : ∀ {t : Int}, (∀ x ∈ xs, 0 ≤ x) → xs.sum ≤ t → doneN t xs = xs.length := by
  induction xs with
  | nil => intro t _ _; rfl
  | cons x xs ih =>
    intro t h0 h
    simp only [List.sum_cons] at h
    have hs : 0 ≤ xs.sum := by
      clear ih h
      have h1 : ∀ y ∈ xs, 0 ≤ y := fun y hy => h0 y (by simp [hy])
      clear h0
      induction xs with
      | nil => simp
      | cons y ys ih => have := h1 y (by simp); have := ih fun z hz => h1 z (by simp [hz]); simp only [List.sum_cons]; omega
    simp only [doneN]
    rw [if_neg (by omega), ih (fun y hy => h0 y (by simp [hy])) (by omega), List.length_cons]
theorem sum_nonneg {xs : List Int} (h : ∀ x ∈ xs, 0 ≤ x) : 0 ≤ xs.sum := by
  induction xs with
  | nil => simp
  | cons y ys ih => have := h y (by simp); have := ih fun z hz => h z (by simp [hz]); simp only [List.sum_cons]; omega
theorem doneN_at {xs : List Int} : ∀ {t : Int} {k : Nat}, (∀ x ∈ xs, 0 ≤ x) → k < xs.length → (xs.take k).sum ≤ t → t < (xs.take (k + 1)).sum → doneN t xs = k := by
  induction xs with
  | nil => intro t k _ h _ _; simp at h
  | cons x xs ih =>
    intro t k h0 hk h1 h2
    cases k with
    | zero =>
      simp only [Nat.zero_add, List.take_succ_cons, List.take_zero, List.sum_cons, List.sum_nil] at h2
      simp only [doneN]
      rw [if_pos (by omega)]
    | succ k =>
      simp only [List.take_succ_cons, List.sum_cons] at h1 h2
      have hs : 0 ≤ (xs.take k).sum := sum_nonneg fun y hy => h0 y (by simp [List.mem_of_mem_take hy])
      simp only [doneN]
      rw [if_neg (by omega), ih (fun y hy => h0 y (by simp [hy])) (by simpa using hk) (by omega) (by omega)]
/-- At of Total is all. -/
theorem at_tot {r : Rp} (hr : rpOk r = true) {n : Nat} (hn : n ≤ 20000) : doneN (totR r n) (timesL r (speedsL r n)) = n := by
  unfold totR
  rw [doneN_all (fun x hx => (timesL_bd hr (speedsL_pos hr hn) x hx).1) (Int.le_refl _), timesL_length, speedsL_length]
/-- At of one less is all but one. -/
theorem at_less {r : Rp} (hr : rpOk r = true) {n : Nat} (hn : n ≤ 20000) (h0 : 0 < n) : doneN (totR r n - 1) (timesL r (speedsL r n)) = n - 1 := by
  have hl : (timesL r (speedsL r n)).length = n := by rw [timesL_length, speedsL_length]
  have he : (timesL r (speedsL r n)).take (n - 1 + 1) = timesL r (speedsL r n) := List.take_of_length_le (by omega)
  have hs := sum_take (xs := timesL r (speedsL r n)) (k := n - 1) (by omega)
  rw [he] at hs
  have hp : 1 ≤ (timesL r (speedsL r n))[n - 1]'(by omega) := by
    simp only [timesL, List.getElem_map]
    refine time_pos hr (speedsL_pos hr hn _ (List.getElem_mem _)) ?_
    exact (speedsL_bd hr hn _).2
  refine doneN_at (fun x hx => (timesL_bd hr (speedsL_pos hr hn) x hx).1) (by omega) ?_ ?_
  · unfold totR; omega
  · rw [he]; unfold totR; omega
/-- The longest ramp within its Total. -/
theorem longest_tot {r : Rp} (hr : rpOk r = true) {n : Nat} (hn : n < 20000) : doneN (totR r n) (timesL r (addedL r 20000)) = n := by
  have ht : ∀ k, k ≤ 20000 → (timesL r (addedL r 20000)).take k = timesL r (addedL r k) := fun k hk => by
    unfold timesL
    rw [← List.map_take, addedL_take r hk]
  refine doneN_at (fun x hx => (timesL_bd hr (addedL_pos hr (Nat.le_refl _)) x hx).1) (by rw [timesL_length, addedL_length]; exact hn) ?_ ?_
  · rw [ht n (by omega), totR_added]; exact Int.le_refl _
  · rw [ht (n + 1) (by omega), totR_added]; exact totR_lt hr (by omega)
end Go.Proofs.Ytfoikaneigmlcaa
