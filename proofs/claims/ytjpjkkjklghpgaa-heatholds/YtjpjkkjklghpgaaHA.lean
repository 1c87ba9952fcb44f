/- A plate, plainly. -/
import Derived.Test.YtjpjkkjklghpgaaRA
namespace Go.Proofs.Ytjpjkkjklghpgaa
open Go.RowKit

/-- A plate: gain, loss, around, most. -/
structure Ht where
  g : Int
  l : Int
  a : Int
  m : Int
def htOk (h : Ht) : Bool := decide (0 ≤ h.g ∧ h.g ≤ 100000 ∧ 0 ≤ h.l ∧ h.l ≤ 512 ∧ 0 ≤ h.a ∧ h.a ≤ h.m ∧ h.m ≤ 1000000)
theorem htOk_iff {h : Ht} : htOk h = true ↔ 0 ≤ h.g ∧ h.g ≤ 100000 ∧ 0 ≤ h.l ∧ h.l ≤ 512 ∧ 0 ≤ h.a ∧ h.a ≤ h.m ∧ h.m ≤ 1000000 := by simp [htOk]
theorem htOk_no {h : Ht} (q : ¬ (0 ≤ h.g ∧ h.g ≤ 100000 ∧ 0 ≤ h.l ∧ h.l ≤ 512 ∧ 0 ≤ h.a ∧ h.a ≤ h.m ∧ h.m ≤ 1000000)) : htOk h = false := by simp only [htOk, decide_eq_false_iff_not]; exact q
/-- What goes of a heat in a tick. -/
def lss (h : Ht) (t : Int) : Int := Int.tdiv ((t - h.a) * h.l) 1024
/-- What a tick makes of a heat. -/
def tk (h : Ht) (on : Bool) (t : Int) : Int := min (t - lss h t + (if on then h.g else 0)) h.m
theorem tdiv_neg' {x : Int} (h : x ≤ 0) : Int.tdiv x 1024 = - ((-x) / 1024) := by
  have := Int.neg_tdiv x 1024
  rw [Int.tdiv_eq_ediv_of_nonneg (a := -x) (by omega)] at this
  omega
theorem mul_bd {h : Ht} (ho : htOk h = true) {t : Int} (h0 : 0 ≤ t) (h1 : t ≤ 1000000) : -512000000 ≤ (t - h.a) * h.l ∧ (t - h.a) * h.l ≤ 512000000 := by
  obtain ⟨_, _, q1, q2, q3, q4, q5⟩ := htOk_iff.1 ho
  rcases Int.le_total h.a t with c | c
  · have a1 := Int.mul_nonneg (a := t - h.a) (b := h.l) (by omega) q1
    have a2 : (t - h.a) * h.l ≤ (t - h.a) * 512 := Int.mul_le_mul_of_nonneg_left q2 (by omega)
    omega
  · have a1 := Int.mul_nonneg (a := h.a - t) (b := h.l) (by omega) q1
    have a2 : (h.a - t) * h.l ≤ (h.a - t) * 512 := Int.mul_le_mul_of_nonneg_left q2 (by omega)
    have a3 : (t - h.a) * h.l = - ((h.a - t) * h.l) := by rw [← Int.neg_mul]; congr 1; omega
    omega
/-- A loss grows no faster than the heat. -/
theorem lss_le {h : Ht} (ho : htOk h = true) {s t : Int} (hst : s ≤ t) : lss h s ≤ lss h t ∧ lss h t - lss h s ≤ t - s := by
  obtain ⟨_, _, q1, q2, _, _, _⟩ := htOk_iff.1 ho
  have a1 := Int.mul_nonneg (a := t - s) (b := h.l) (by omega) q1
  have a2 : (t - s) * h.l ≤ (t - s) * 512 := Int.mul_le_mul_of_nonneg_left q2 (by omega)
  have a3 : (t - h.a) * h.l = (s - h.a) * h.l + (t - s) * h.l := by rw [← Int.add_mul]; congr 1; omega
  unfold lss
  rw [a3]
  generalize (s - h.a) * h.l = p at *
  generalize (t - s) * h.l = d at *
  clear a3
  rcases Int.le_total 0 p with c | c
  · rw [Int.tdiv_eq_ediv_of_nonneg c, Int.tdiv_eq_ediv_of_nonneg (by omega)]
    omega
  · rcases Int.le_total 0 (p + d) with c2 | c2
    · rw [tdiv_neg' c, Int.tdiv_eq_ediv_of_nonneg c2]
      omega
    · rw [tdiv_neg' c, tdiv_neg' c2]
      omega
theorem lss_around (h : Ht) : lss h h.a = 0 := by simp [lss]
theorem tk_mono {h : Ht} (ho : htOk h = true) (on : Bool) {s t : Int} (hst : s ≤ t) : tk h on s ≤ tk h on t := by
  have := lss_le ho hst
  unfold tk
  omega
theorem tk_on {h : Ht} (ho : htOk h = true) (t : Int) : tk h false t ≤ tk h true t := by
  have := htOk_iff.1 ho
  unfold tk
  simp only [Bool.false_eq_true, if_false, if_true]
  omega
theorem tk_most (h : Ht) (on : Bool) (t : Int) : tk h on t ≤ h.m := by unfold tk; omega
theorem tk_low {h : Ht} (ho : htOk h = true) {t : Int} (h0 : 0 ≤ t) : 0 ≤ t - lss h t := by
  obtain ⟨q0, _, q1, q2, q3, q4, _⟩ := htOk_iff.1 ho
  have a0 := lss_around h
  rcases Int.le_total h.a t with c | c
  · have := lss_le ho c
    omega
  · have := lss_le ho c
    omega
theorem tk_nonneg {h : Ht} (ho : htOk h = true) (on : Bool) {t : Int} (h0 : 0 ≤ t) : 0 ≤ tk h on t := by
  have := tk_low ho h0
  have := htOk_iff.1 ho
  unfold tk
  split <;> omega
theorem lss_bd {h : Ht} (ho : htOk h = true) {t : Int} (h0 : 0 ≤ t) (h1 : t ≤ 1000000) : -500000 ≤ lss h t ∧ lss h t ≤ 500000 := by
  have := mul_bd ho h0 h1
  unfold lss
  rcases Int.le_total 0 ((t - h.a) * h.l) with c | c
  · rw [Int.tdiv_eq_ediv_of_nonneg c]; omega
  · rw [tdiv_neg' c]; omega
/-- The heat at which it stays: the least that gets no warmer. -/
theorem rest_stays {h : Ht} (ho : htOk h = true) {on : Bool} {r : Nat} (h1 : r = 0 ∨ ¬ tk h on ((r - 1 : Nat) : Int) ≤ ((r - 1 : Nat) : Int)) (h2 : (r : Int) = h.m ∨ tk h on (r : Int) ≤ (r : Int)) : tk h on (r : Int) = (r : Int) := by
  have a1 := tk_most h on (r : Int)
  have a2 := tk_nonneg ho on (t := (r : Int)) (by omega)
  rcases h1 with rfl | h1
  · omega
  · rcases Nat.eq_zero_or_pos r with rfl | hp
    · omega
    · have a3 := tk_mono ho on (s := ((r - 1 : Nat) : Int)) (t := (r : Int)) (by omega)
      omega
/-- How it is switched. -/
def sw (lo hi : Int) (t : Int) (on : Bool) : Bool := if t < lo then true else if hi < t then false else on
/-- A plate at work: heat, on or off. -/
def st1 (h : Ht) (lo hi : Int) (s : Int × Bool) : Int × Bool := (tk h (sw lo hi s.1 s.2) s.1, sw lo hi s.1 s.2)
def stN (h : Ht) (lo hi : Int) (t : Int) : Nat → Int × Bool
  | 0 => (t, false)
  | k + 1 => st1 h lo hi (stN h lo hi t k)
/-- The heats behind so many ticks. -/
def heatsL (h : Ht) (lo hi t : Int) (n : Nat) : List Int := (List.range n).map fun k => (stN h lo hi t (k + 1)).1
theorem heatsL_length (h : Ht) (lo hi t : Int) (n : Nat) : (heatsL h lo hi t n).length = n := by simp [heatsL]
theorem heatsL_at (h : Ht) (lo hi t : Int) (n : Nat) {k : Nat} (q : k < (heatsL h lo hi t n).length) : (heatsL h lo hi t n)[k]'q = (stN h lo hi t (k + 1)).1 := by simp [heatsL]
theorem heatsL_succ (h : Ht) (lo hi t : Int) (n : Nat) : heatsL h lo hi t (n + 1) = heatsL h lo hi t n ++ [(stN h lo hi t (n + 1)).1] := by simp [heatsL, List.range_succ]
theorem stN_bd {h : Ht} (ho : htOk h = true) {lo hi t : Int} (h0 : 0 ≤ t) (h1 : t ≤ 1000000) (k : Nat) : 0 ≤ (stN h lo hi t k).1 ∧ (stN h lo hi t k).1 ≤ 1000000 := by
  induction k with
  | zero => exact ⟨h0, h1⟩
  | succ k ih =>
    have a := htOk_iff.1 ho
    have b := tk_most h (sw lo hi (stN h lo hi t k).1 (stN h lo hi t k).2) (stN h lo hi t k).1
    refine ⟨tk_nonneg ho _ ih.1, ?_⟩
    show tk h _ _ ≤ _
    omega
/-- Is a heat from low to high? -/
def isW (lo hi x : Int) : Bool := decide (lo ≤ x) && decide (x ≤ hi)
/-- How many of the last heats are within, behind k ticks. -/
def runN (h : Ht) (lo hi t : Int) : Nat → Nat
  | 0 => 0
  | k + 1 => if isW lo hi (stN h lo hi t (k + 1)).1 then runN h lo hi t k + 1 else 0
theorem runN_le (h : Ht) (lo hi t : Int) (k : Nat) : runN h lo hi t k ≤ k := by
  induction k with
  | zero => exact Nat.le_refl _
  | succ k ih => unfold runN; split <;> omega
/-- A hold ends behind k ticks: not before, and so many are within. -/
def HeldAt (h : Ht) (lo hi t : Int) (need k : Nat) : Prop := runN h lo hi t k = need ∧ ∀ j, j < k → runN h lo hi t j ≠ need
/-- Never within so many ticks. -/
def NotBy (h : Ht) (lo hi t : Int) (need n : Nat) : Prop := ∀ j, j ≤ n → runN h lo hi t j ≠ need
theorem held_one {h : Ht} {lo hi t : Int} {need j k : Nat} (a : HeldAt h lo hi t need j) (b : HeldAt h lo hi t need k) : j = k := by
  rcases Nat.lt_trichotomy j k with c | c | c
  · exact absurd a.1 (b.2 _ c)
  · exact c
  · exact absurd b.1 (a.2 _ c)
theorem held_not {h : Ht} {lo hi t : Int} {need k n : Nat} (a : HeldAt h lo hi t need k) (b : NotBy h lo hi t need n) : n < k := by
  rcases Nat.lt_or_ge n k with c | c
  · exact c
  · exact absurd a.1 (b _ c)
/-- Who holds one tick longer was held one tick before. -/
theorem run_prev {h : Ht} {lo hi t : Int} {k n : Nat} (hn : 0 < n) (q : runN h lo hi t k = n + 1) : 0 < k ∧ runN h lo hi t (k - 1) = n := by
  cases k with
  | zero => simp [runN] at q
  | succ k =>
    unfold runN at q
    split at q
    · exact ⟨by omega, by simpa using q⟩
    · omega
end Go.Proofs.Ytjpjkkjklghpgaa
