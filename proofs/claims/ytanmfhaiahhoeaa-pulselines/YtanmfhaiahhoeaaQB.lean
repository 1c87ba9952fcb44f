/- Steps of a move in parts: pure. -/
import Derived.Test.YtanmfhaiahhoeaaLC
namespace Go.Proofs.Ytanmfhaiahhoeaa

/-- Steps behind part k of p, of a in all; and what is left over. -/
def st (a p k : Nat) : Nat := (2 * (k * a) + p) / (2 * p)
def rm (a p k : Nat) : Nat := (2 * (k * a) + p) % (2 * p)
theorem part_eq (a p k : Nat) : 2 * ((k + 1) * a) + p = 2 * p * st a p k + (rm a p k + 2 * a) := by
  have h := Nat.div_add_mod (2 * (k * a) + p) (2 * p)
  unfold st rm
  rw [show (k + 1) * a = k * a + a from Nat.succ_mul k a]
  omega
theorem st_next {a p k : Nat} (hp : 0 < p) : st a p (k + 1) = st a p k + (rm a p k + 2 * a) / (2 * p) := by
  rw [show st a p (k + 1) = (2 * ((k + 1) * a) + p) / (2 * p) from rfl, part_eq, Nat.mul_add_div (by omega)]
theorem rm_next {a p k : Nat} : rm a p (k + 1) = (rm a p k + 2 * a) % (2 * p) := by
  rw [show rm a p (k + 1) = (2 * ((k + 1) * a) + p) % (2 * p) from rfl, part_eq, Nat.mul_add_mod]
theorem st_zero {a p : Nat} (hp : 0 < p) : st a p 0 = 0 := by
  unfold st
  exact Nat.div_eq_of_lt (by omega)
theorem rm_zero {a p : Nat} (hp : 0 < p) : rm a p 0 = p := by
  unfold rm
  rw [Nat.mod_eq_of_lt (by omega)]
  omega
theorem rm_lt {a p k : Nat} (hp : 0 < p) : rm a p k < 2 * p := Nat.mod_lt _ (by omega)
theorem st_full {a p : Nat} (hp : 0 < p) : st a p p = a := by
  unfold st
  rw [show 2 * (p * a) + p = 2 * p * a + p by rw [Nat.mul_assoc], Nat.mul_add_div (by omega), Nat.div_eq_of_lt (by omega), Nat.add_zero]
theorem st_near {a p k : Nat} (hp : 0 < p) : 2 * (p * st a p k) ≤ 2 * (k * a) + p ∧ 2 * (k * a) + p < 2 * (p * st a p k) + 2 * p := by
  have h := Nat.div_add_mod (2 * (k * a) + p) (2 * p)
  have h2 : rm a p k < 2 * p := rm_lt hp
  unfold rm at h2
  rw [show 2 * p * ((2 * (k * a) + p) / (2 * p)) = 2 * (p * st a p k) by rw [Nat.mul_assoc]; rfl] at h
  omega
/-- The steps of one part. -/
def one (a p k : Nat) : Nat := (rm a p k + 2 * a) / (2 * p)
theorem one_le {a p k : Nat} (hp : 0 < p) (h : a ≤ p) : one a p k ≤ 1 := by
  have := rm_lt (a := a) (k := k) hp
  unfold one
  have : rm a p k + 2 * a < 2 * (2 * p) := by omega
  have := Nat.div_lt_of_lt_mul (Nat.mul_comm 2 (2 * p) ▸ this)
  omega
theorem one_near {a p k : Nat} (hp : 0 < p) : a / p ≤ one a p k ∧ one a p k ≤ a / p + 1 := by
  have h := rm_lt (a := a) (k := k) hp
  have e : 2 * a / (2 * p) = a / p := Nat.mul_div_mul_left _ _ (by omega)
  constructor
  · rw [← e]
    exact Nat.div_le_div_right (by omega)
  · rw [← e]
    have : (2 * p + 2 * a) / (2 * p) = 2 * a / (2 * p) + 1 := by rw [Nat.add_div_left _ (by omega)]
    rw [← this]
    exact Nat.div_le_div_right (by omega)
/-- With its sign again. -/
def sg (n m : Int) : Int := if n < 0 then -m else m
def stp (n : Int) (p k : Nat) : Int := sg n (one n.natAbs p k : Nat)
def made (n : Int) (p k : Nat) : Int := sg n (st n.natAbs p k : Nat)
theorem made_next {n : Int} {p k : Nat} (hp : 0 < p) : made n p (k + 1) = made n p k + stp n p k := by
  unfold made stp sg
  have h := st_next (a := n.natAbs) (p := p) (k := k) hp
  rw [show (rm n.natAbs p k + 2 * n.natAbs) / (2 * p) = one n.natAbs p k from rfl] at h
  split <;> omega
theorem made_zero {n : Int} {p : Nat} (hp : 0 < p) : made n p 0 = 0 := by
  unfold made sg
  rw [st_zero hp]
  split <;> rfl
theorem made_full {n : Int} {p : Nat} (hp : 0 < p) : made n p p = n := by
  unfold made sg
  rw [st_full hp]
  split <;> omega
theorem made_neg {n : Int} {p k : Nat} : made (-n) p k = - made n p k := by
  unfold made sg
  rw [Int.natAbs_neg]
  by_cases h : n = 0
  · subst h
    have e : st (Int.natAbs 0) p k = 0 := by
      unfold st
      by_cases hp : p = 0
      · subst hp; exact Nat.div_zero _
      · exact Nat.div_eq_of_lt (by show 2 * (k * 0) + p < 2 * p; omega)
    rw [e]
    rfl
  · split <;> split <;> omega
theorem stp_neg {n : Int} {p k : Nat} (hp : 0 < p) : stp (-n) p k = - stp n p k := by
  have h1 := made_next (n := n) (p := p) (k := k) hp
  have h2 := made_next (n := -n) (p := p) (k := k) hp
  rw [made_neg, made_neg] at h2
  omega
theorem made_near {n : Int} {p k : Nat} (hp : 0 < p) : 2 * (made n p k * p - n * k) ≤ p ∧ -(p : Int) ≤ 2 * (made n p k * p - n * k) := by
  obtain ⟨h1, h2⟩ := st_near (a := n.natAbs) (p := p) (k := k) hp
  have h3 : (2 : Int) * ((p : Int) * (st n.natAbs p k : Nat)) ≤ 2 * ((k : Int) * (n.natAbs : Nat)) + p := by exact_mod_cast h1
  have h4 : (2 : Int) * ((k : Int) * (n.natAbs : Nat)) + p < 2 * ((p : Int) * (st n.natAbs p k : Nat)) + 2 * p := by exact_mod_cast h2
  unfold made sg
  split
  · rename_i hn
    have e : ((n.natAbs : Nat) : Int) = -n := by omega
    rw [e] at h3 h4
    rw [Int.neg_mul, Int.mul_comm _ (p : Int), Int.mul_comm n]
    rw [Int.mul_neg] at h3 h4
    omega
  · rename_i hn
    have e : ((n.natAbs : Nat) : Int) = n := by omega
    rw [e] at h3 h4
    rw [Int.mul_comm _ (p : Int), Int.mul_comm n]
    omega
theorem stp_small {n : Int} {p k : Nat} (hp : 0 < p) (h : n.natAbs ≤ p) : stp n p k = -1 ∨ stp n p k = 0 ∨ stp n p k = 1 := by
  have := one_le (a := n.natAbs) (k := k) hp h
  unfold stp sg
  split <;> omega
end Go.Proofs.Ytanmfhaiahhoeaa
