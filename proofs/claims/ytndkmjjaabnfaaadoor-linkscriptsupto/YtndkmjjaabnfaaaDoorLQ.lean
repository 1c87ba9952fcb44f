/- How many numbers behind one another are not 0: two ways to tell it. -/
import Derived.Test.YtndkmjjaabnfaaaDoorLP
namespace Go.Proofs.YtndkmjjaabnfaaaDoor
open Go.RowKit

theorem tw_at : ∀ (m : List Int) (j : Nat), j < runF m → m[j]? ≠ some 0
  | [], j, h => by simp
  | x :: m, j, h => by
    unfold runF at h
    rw [List.takeWhile_cons] at h
    by_cases e : x = 0
    · rw [if_neg (by simp [e])] at h
      simp at h
    · rw [if_pos (by simpa using e)] at h
      cases j with
      | zero => simpa using e
      | succ j =>
        rw [List.getElem?_cons_succ]
        exact tw_at m j (by unfold runF; simpa using h)
theorem tw_ge : ∀ (m : List Int) (r : Nat), r ≤ m.length → (∀ j, j < r → m[j]? ≠ some 0) → r ≤ runF m
  | [], r, h, _ => by have : r = 0 := by simpa using h
                      rw [this]; exact Nat.zero_le _
  | x :: m, 0, _, _ => Nat.zero_le _
  | x :: m, r + 1, h, hj => by
    have e : x ≠ 0 := fun e => hj 0 (by omega) (by simp [e])
    have := tw_ge m r (by simpa using h) (fun j hr => by have := hj (j + 1) (by omega); rwa [List.getElem?_cons_succ] at this)
    unfold runF at *
    rw [List.takeWhile_cons, if_pos (by simpa using e)]
    simp only [List.length_cons]
    omega
theorem runF_le (m : List Int) : runF m ≤ m.length := by
  have h1 := congrArg List.length (List.takeWhile_append_dropWhile (p := fun x : Int => x != 0) (l := m))
  rw [List.length_append] at h1
  unfold runF
  omega
theorem runB_le (l : List Int) : ∀ k, runB l k ≤ k
  | 0 => Nat.le_refl _
  | k + 1 => by
    have := runB_le l k
    unfold runB
    split <;> omega
theorem runB_at (l : List Int) : ∀ k j, k - runB l k ≤ j → j < k → l[j]? ≠ some 0
  | 0, j, _, h => by omega
  | k + 1, j, h1, h2 => by
    have hl := runB_le l k
    unfold runB at h1
    split at h1
    · omega
    · rename_i hk
      by_cases e : j = k
      · subst e; exact hk
      · exact runB_at l k j (by omega) (by omega)
theorem runB_ge (l : List Int) (i : Nat) : ∀ k, (∀ j, i ≤ j → j < k → l[j]? ≠ some 0) → k - i ≤ runB l k
  | 0, _ => by omega
  | k + 1, h => by
    unfold runB
    by_cases e : i ≤ k
    · rw [if_neg (h k e (by omega))]
      have := runB_ge l i k (fun j a b => h j a (by omega))
      omega
    · omega
theorem worstN_ge (l : List Int) : ∀ k i, i < k → runF (l.drop i) ≤ worstN l k
  | 0, i, h => by omega
  | k + 1, i, h => by
    unfold worstN
    by_cases e : i = k
    · subst e; omega
    · have := worstN_ge l k i (by omega)
      omega
theorem worstB_ge (l : List Int) : ∀ k i, i ≤ k → runB l i ≤ worstB l k
  | 0, i, h => by
    obtain rfl : i = 0 := by omega
    exact Nat.le_refl _
  | k + 1, i, h => by
    unfold worstB
    by_cases e : i = k + 1
    · subst e; omega
    · have := worstB_ge l k i (by omega)
      omega
theorem worstN_le (l : List Int) {n : Nat} (hn : n = l.length) : ∀ k, k ≤ n → worstN l k ≤ worstB l n
  | 0, _ => Nat.zero_le _
  | k + 1, h => by
    have ih := worstN_le l hn k (by omega)
    unfold worstN
    have hr := runF_le (l.drop k)
    rw [List.length_drop] at hr
    have h1 : runF (l.drop k) ≤ runB l (k + runF (l.drop k)) := by
      have := runB_ge l k (k + runF (l.drop k)) (fun j a b => by
        have := tw_at (l.drop k) (j - k) (by omega)
        rw [List.getElem?_drop] at this
        rwa [show k + (j - k) = j by omega] at this)
      omega
    have h2 := worstB_ge l n (k + runF (l.drop k)) (by omega)
    omega
theorem worstB_le (l : List Int) {n : Nat} (hn : n = l.length) : ∀ k, k ≤ n → worstB l k ≤ worstN l n
  | 0, _ => Nat.zero_le _
  | k + 1, h => by
    have ih := worstB_le l hn k (by omega)
    unfold worstB
    have hl := runB_le l (k + 1)
    by_cases e : runB l (k + 1) = 0
    · omega
    · have h1 : runB l (k + 1) ≤ runF (l.drop (k + 1 - runB l (k + 1))) := by
        refine tw_ge _ _ (by rw [List.length_drop]; omega) (fun j hj => ?_)
        rw [List.getElem?_drop]
        exact runB_at l (k + 1) _ (by omega) (by omega)
      have h2 := worstN_ge l n (k + 1 - runB l (k + 1)) (by omega)
      omega
theorem worst_same (l : List Int) : worstN l l.length = worstB l l.length := Nat.le_antisymm (worstN_le l rfl _ (Nat.le_refl _)) (worstB_le l rfl _ (Nat.le_refl _))
theorem worstB_bound (l : List Int) : ∀ k, worstB l k ≤ k
  | 0 => Nat.le_refl _
  | k + 1 => by
    have h1 := worstB_bound l k
    have h2 := runB_le l (k + 1)
    unfold worstB
    omega
theorem worstN_bound (l : List Int) : ∀ k, worstN l k ≤ l.length
  | 0 => Nat.zero_le _
  | k + 1 => by
    have h1 := worstN_bound l k
    have h2 := runF_le (l.drop k)
    rw [List.length_drop] at h2
    unfold worstN
    omega
/-- What is wrong with a script. -/
def refS (l : List Int) : Int := if 2000 < l.length then 8 else if l.all (fun x => decide (0 ≤ x)) then 0 else 2
theorem refS_long {l : List Int} (h : 2000 < l.length) : refS l = 8 := if_pos h
theorem refS_bad {l : List Int} (h : ¬ 2000 < l.length) {k : Nat} (hk : k < l.length) (hb : l[k]'hk < 0) : refS l = 2 := by
  unfold refS
  rw [if_neg h, if_neg]
  intro e
  have := of_decide_eq_true (List.all_eq_true.1 e _ (List.getElem_mem hk))
  omega
theorem refS_ok {l : List Int} (h : ¬ 2000 < l.length) (ha : ∀ b ∈ l, 0 ≤ b) : refS l = 0 := by
  unfold refS
  rw [if_neg h, if_pos (List.all_eq_true.2 fun x hx => decide_eq_true (ha x hx))]
theorem refS_len {l : List Int} (h : refS l = 0) : l.length ≤ 2000 := by
  unfold refS at h
  split at h
  · cases h
  · omega
theorem refS_pos {l : List Int} (h : refS l = 0) : ∀ b ∈ l, 0 ≤ b := by
  unfold refS at h
  split at h
  · cases h
  · split at h
    · rename_i ha
      intro b hb
      exact of_decide_eq_true (List.all_eq_true.1 ha b hb)
    · cases h
end Go.Proofs.YtndkmjjaabnfaaaDoor
