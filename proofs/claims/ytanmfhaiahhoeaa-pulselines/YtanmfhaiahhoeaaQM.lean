/- What pulses of a line come to: pure. -/
import Derived.Test.YtanmfhaiahhoeaaQI
import Derived.Test.YtanmfhaiahhoeaaQL
namespace Go.Proofs.Ytanmfhaiahhoeaa
open Go.RowKit

theorem pu_steps {s t u : Int} (hs : s = -1 ∨ s = 0 ∨ s = 1) (ht : t = -1 ∨ t = 0 ∨ t = 1) (hu : u = -1 ∨ u = 0 ∨ u = 1) :
    isP (pu s t u) = true ∧ dg (pu s t u) 0 = s ∧ dg (pu s t u) 1 = t ∧ dg (pu s t u) 2 = u := by
  rcases hs with rfl | rfl | rfl <;> rcases ht with rfl | rfl | rfl <;> rcases hu with rfl | rfl | rfl <;> exact ⟨by kernel_rfl, by kernel_rfl, by kernel_rfl, by kernel_rfl⟩
theorem line_steps {x y z : Int} {k : Nat} (h : k < (lineL x y z).length) : isP ((lineL x y z)[k]'h) = true ∧ dg ((lineL x y z)[k]'h) 0 = stp x (lg x y z) k ∧ dg ((lineL x y z)[k]'h) 1 = stp y (lg x y z) k ∧ dg ((lineL x y z)[k]'h) 2 = stp z (lg x y z) k := by
  rw [lineL_at h]
  rw [lineL_length] at h
  have hp : 0 < lg x y z := by omega
  obtain ⟨g1, g2, g3⟩ := lg_ge x y z
  exact pu_steps (stp_small hp g1) (stp_small hp g2) (stp_small hp g3)
theorem made_zero' (n : Int) (p : Nat) : made n p 0 = 0 := by
  by_cases h : p = 0
  · subst h
    have e : st n.natAbs 0 0 = 0 := Nat.div_zero _
    unfold made sg
    rw [e]
    split <;> rfl
  · exact made_zero (by omega)
theorem line_plc {x y z : Int} : ∀ k, k ≤ lg x y z → plc (lineL x y z) k = ⟨made x (lg x y z) k, made y (lg x y z) k, made z (lg x y z) k⟩ := by
  intro k
  induction k with
  | zero =>
    intro _
    rw [made_zero', made_zero', made_zero']
    rfl
  | succ k ih =>
    intro h
    have hk : k < (lineL x y z).length := by rw [lineL_length]; omega
    have hp : 0 < lg x y z := by omega
    obtain ⟨_, s1, s2, s3⟩ := line_steps hk
    have := ih (by omega)
    unfold plc at this ⊢
    injection this with e0 e1 e2
    rw [sumD_next hk, sumD_next hk, sumD_next hk, s1, s2, s3, e0, e1, e2, made_next hp, made_next hp, made_next hp]
theorem line_end (x y z : Int) : plc (lineL x y z) (lg x y z) = ⟨x, y, z⟩ := by
  rw [line_plc _ (Nat.le_refl _)]
  by_cases hp : lg x y z = 0
  · obtain ⟨g1, g2, g3⟩ := lg_ge x y z
    have ex : x = 0 := by omega
    have ey : y = 0 := by omega
    have ez : z = 0 := by omega
    rw [hp, made_zero', made_zero', made_zero', ex, ey, ez]
  · rw [made_full (by omega), made_full (by omega), made_full (by omega)]
theorem line_refu {x y z : Int} (h : mv x y z = true) : refuP (lineL x y z) = 0 := by
  have := lg_le h
  refine refuP_ok (by rw [lineL_length]; omega) fun b hb => ?_
  obtain ⟨k, hk, rfl⟩ := List.getElem_of_mem hb
  exact (line_steps hk).1
/-- No further than half a step. -/
def nearP (at' far n t : Int) : Bool := decide (2 * (at' * n - far * t) ≤ n) && decide (-n ≤ 2 * (at' * n - far * t))
theorem line_near (x : Int) (n k : Nat) (hk : k < n) : nearP (made x n (k + 1)) x n ((k : Int) + 1) = true := by
  have h := made_near (n := x) (p := n) (k := k + 1) (by omega)
  have e : ((k + 1 : Nat) : Int) = (k : Int) + 1 := by omega
  rw [e] at h
  unfold nearP
  rw [decide_eq_true h.1, decide_eq_true h.2]
  rfl
theorem made_in (x : Int) (n k : Nat) (hk : k ≤ n) : -(x.natAbs : Int) ≤ made x n k ∧ made x n k ≤ x.natAbs := by
  have h : st x.natAbs n k ≤ x.natAbs := by
    by_cases hn : n = 0
    · subst hn
      have e : st x.natAbs 0 k = 0 := Nat.div_zero _
      omega
    · rw [show x.natAbs = st x.natAbs n n from (st_full (by omega)).symm]
      conv => lhs; rw [st_full (by omega)]
      unfold st
      exact Nat.div_le_div_right (by have := Nat.mul_le_mul_right x.natAbs hk; omega)
  unfold made sg
  split <;> omega
theorem tm_in (n : Int) (h : n < 0) : 0 ≤ -((n + 1).tmod 400) ∧ -((n + 1).tmod 400) ≤ 399 := by
  have e : -((n + 1).tmod 400) = (-(n + 1)) % 400 := by rw [← Int.neg_tmod, Int.tmod_eq_emod_of_nonneg (by omega)]
  omega
/-- picked. -/
theorem picked_any (n : Int) (w : World) (h1 : -9223372036854775808 ≤ n) (h2 : n ≤ 9223372036854775807) : Calls Try.prog 19 #[.int .i64 n, .int .i64 400] w fun e w' => (∃ v, e = .returned (.int .i64 v) ∧ 0 ≤ v ∧ v ≤ 399) ∧ w' = w := by
  go_enter Try.func19, Try.ntmps19
  go_wp2
  · rename_i hneg
    have ht := tm_in n hneg
    go_ret
    exact ⟨⟨_, rfl, by omega, by omega⟩, rfl⟩
  · go_ret
    exact ⟨⟨_, rfl, by omega, by omega⟩, rfl⟩
end Go.Proofs.Ytanmfhaiahhoeaa
