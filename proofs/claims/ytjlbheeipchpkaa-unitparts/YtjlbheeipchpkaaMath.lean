/- The plain arithmetic of parts: a total T in c parts, the greater ones first; no Go in sight. -/
namespace Go.Proofs.Ytjlbheeipchpkaa

/-- The k-th part of T in c parts. -/
def part (T c k : Int) : Int := T / c + if k < T % c then 1 else 0
/-- What is left of T behind the first k parts. -/
def left (T c k : Int) : Int := (c - k) * (T / c) + if k < T % c then T % c - k else 0

theorem left_zero (T c : Int) (hc : 0 < c) : left T c 0 = T := by
  unfold left
  have h1 := Int.emod_add_mul_ediv T c
  have h2 := Int.emod_nonneg T (Int.ne_of_gt hc)
  have h3 : (c - 0) * (T / c) = c * (T / c) := by rw [Int.sub_zero]
  rw [h3]
  split <;> omega

theorem left_succ (T c k : Int) : left T c (k + 1) = left T c k - part T c k := by
  unfold left part
  have h : (c - (k + 1)) * (T / c) = (c - k) * (T / c) - T / c := by
    rw [show c - (k + 1) = (c - k) - 1 by omega, Int.sub_mul, Int.one_mul]
  rw [h]
  split <;> split <;> omega

theorem left_end (T c : Int) (hc : 0 < c) : left T c c = 0 := by
  unfold left
  have h3 := Int.emod_lt_of_pos T hc
  rw [Int.sub_self, Int.zero_mul, if_neg (by omega)]
  rfl

theorem quo_nonneg (T c : Int) (hT : 0 ≤ T) (hc : 0 < c) : 0 ≤ T / c := Int.ediv_nonneg hT (Int.le_of_lt hc)
theorem quo_le (T c : Int) (hT : 0 ≤ T) : T / c ≤ T := Int.ediv_le_self c hT

theorem part_nonneg (T c k : Int) (hT : 0 ≤ T) (hc : 0 < c) : 0 ≤ part T c k := by
  unfold part
  have := quo_nonneg T c hT hc
  split <;> omega

theorem left_nonneg (T c k : Int) (hT : 0 ≤ T) (hc : 0 < c) (hk : k ≤ c) : 0 ≤ left T c k := by
  unfold left
  have h1 := quo_nonneg T c hT hc
  have h2 : 0 ≤ (c - k) * (T / c) := Int.mul_nonneg (by omega) h1
  split <;> omega

theorem left_le (T c : Int) (hT : 0 ≤ T) (hc : 0 < c) : ∀ k : Nat, left T c k ≤ T := by
  intro k
  induction k with
  | zero => rw [show ((0 : Nat) : Int) = 0 from rfl, left_zero T c hc]; exact Int.le_refl _
  | succ k ih =>
    have h := left_succ T c k
    have h2 := part_nonneg T c k hT hc
    rw [show ((k + 1 : Nat) : Int) = (k : Int) + 1 from rfl]
    omega

/-- The greatest share of what is left is the next part. -/
theorem share (T c k : Int) (hc : 0 < c) (hk : k < c) : (left T c k + (c - k) - 1) / (c - k) = part T c k := by
  unfold left part
  have h3 := Int.emod_lt_of_pos T hc
  have hp : 0 < c - k := by omega
  split
  · rw [show (c - k) * (T / c) + (T % c - k) + (c - k) - 1 = (T % c - k - 1 + (c - k)) + (c - k) * (T / c) by omega, Int.add_mul_ediv_left _ _ (by omega)]
    have e : (T % c - k - 1 + (c - k)) / (c - k) = 1 := by
      have := Int.add_mul_ediv_left (T % c - k - 1) (b := c - k) 1 (by omega)
      rw [Int.mul_one] at this
      rw [this, Int.ediv_eq_zero_of_lt (by omega) (by omega)]
      rfl
    omega
  · rw [show (c - k) * (T / c) + 0 + (c - k) - 1 = ((c - k) - 1) + (c - k) * (T / c) by omega, Int.add_mul_ediv_left _ _ (by omega)]
    rw [Int.ediv_eq_zero_of_lt (by omega) (by omega)]
    omega

/-- How many parts: two ways to say it. -/
theorem count_eq (T m : Int) (hm : 0 < m) : (T + m - 1) / m = T / m + if 0 < T % m then 1 else 0 := by
  have h1 := Int.emod_add_mul_ediv T m
  have h2 := Int.emod_nonneg T (Int.ne_of_gt hm)
  have h3 := Int.emod_lt_of_pos T hm
  have e : T + m - 1 = (T % m + m - 1) + m * (T / m) := by omega
  rw [e, Int.add_mul_ediv_left _ _ (by omega)]
  have e2 : (T % m + m * (T / m)) = T := h1
  split
  · have : (T % m + m - 1) / m = 1 := by
      have h := Int.add_mul_ediv_left (T % m - 1) (b := m) 1 (by omega)
      rw [Int.mul_one] at h
      rw [show T % m + m - 1 = T % m - 1 + m by omega, h, Int.ediv_eq_zero_of_lt (by omega) (by omega)]
      rfl
    omega
  · rw [Int.ediv_eq_zero_of_lt (by omega) (by omega)]
    omega

/-- The count c of a total T by m: c is the least number with T ≤ c * m. -/
theorem count_spec (T m : Int) (hm : 0 < m) : T ≤ (T + m - 1) / m * m ∧ ((T + m - 1) / m - 1) * m < T := by
  have h1 := Int.emod_add_mul_ediv (T + m - 1) m
  have h2 := Int.emod_nonneg (T + m - 1) (Int.ne_of_gt hm)
  have h3 := Int.emod_lt_of_pos (T + m - 1) hm
  rw [Int.sub_mul, Int.one_mul, Int.mul_comm ((T + m - 1) / m) m]
  omega

theorem count_pos (T m : Int) (hT : 0 < T) (hm : 0 < m) : 0 < (T + m - 1) / m := by
  have h := count_spec T m hm
  have : 0 ≤ (T + m - 1) / m := Int.ediv_nonneg (by omega) (by omega)
  by_cases e : (T + m - 1) / m = 0
  · rw [e] at h; omega
  · omega

theorem count_le (T m : Int) (hT : 0 < T) (hm : 0 < m) : (T + m - 1) / m ≤ T := by
  have h := count_spec T m hm
  have hp := count_pos T m hT hm
  have h2 : ((T + m - 1) / m - 1) * 1 ≤ ((T + m - 1) / m - 1) * m := Int.mul_le_mul_of_nonneg_left (by omega) (by omega)
  omega

theorem part_pos (T c k : Int) (hc : 0 < c) (h : c ≤ T) : 1 ≤ part T c k := by
  unfold part
  have : 1 ≤ T / c := (Int.le_ediv_iff_mul_le hc).2 (by omega)
  split <;> omega

theorem part_le (T c m k : Int) (hc : 0 < c) (h : T ≤ c * m) (h0 : 0 ≤ k) : part T c k ≤ m := by
  unfold part
  have h1 := Int.emod_add_mul_ediv T c
  have h2 := Int.emod_nonneg T (Int.ne_of_gt hc)
  split
  · have : T / c < m := by
      apply Int.lt_of_mul_lt_mul_left (a := c) _ (Int.le_of_lt hc)
      omega
    omega
  · have : T / c ≤ m := by
      apply Int.le_of_mul_le_mul_left (a := c) _ hc
      omega
    omega

theorem part_mono (T c j k : Int) (h : j ≤ k) : part T c k ≤ part T c j := by
  unfold part; split <;> split <;> omega
theorem part_near (T c j k : Int) : part T c j - part T c k ≤ 1 := by
  unfold part; split <;> split <;> omega

end Go.Proofs.Ytjlbheeipchpkaa
