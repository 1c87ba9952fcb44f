/- Ramps; isRamp, refusal, speedAt, speeds, times walked. -/
import Derived.Test.YtgahlhfgpkklaaaDoorHc
import Derived.OwnWalkIn
import Derived.TacticsInMore
import Derived.LoopNIn
import Derived.LoopIn
namespace Go.Proofs.YtgahlhfgpkklaaaDoor
open Go.RowKit

/-- A ramp: clock, first, most, rise. -/
structure Rp where
  c : Int
  f : Int
  m : Int
  r : Int
abbrev rv (r : Rp) : Value := .agg #[.int .i64 r.c, .int .i64 r.f, .int .i64 r.m, .int .i64 r.r]
abbrev ro (r : Rp) : Obj := .cells #[.int .i64 r.c, .int .i64 r.f, .int .i64 r.m, .int .i64 r.r] 25
abbrev rcl (r : Rp) : List Value := [.int .i64 r.c, .int .i64 r.f, .int .i64 r.m, .int .i64 r.r]
abbrev io (x : Int) : Obj := .cells #[.int .i64 x] 3
abbrev ptr (b : Nat) : Value := .pointer (some ⟨b, 0, none⟩)
def rpOk (r : Rp) : Bool := decide (1 ≤ r.f ∧ r.f ≤ r.m ∧ r.m ≤ r.c ∧ r.c ≤ 100000000 ∧ 0 ≤ r.r ∧ r.r ≤ 100000)
theorem rpOk_iff {r : Rp} : rpOk r = true ↔ 1 ≤ r.f ∧ r.f ≤ r.m ∧ r.m ≤ r.c ∧ r.c ≤ 100000000 ∧ 0 ≤ r.r ∧ r.r ≤ 100000 := by simp [rpOk]
theorem rpOk_no {r : Rp} (h : ¬ (1 ≤ r.f ∧ r.f ≤ r.m ∧ r.m ≤ r.c ∧ r.c ≤ 100000000 ∧ 0 ≤ r.r ∧ r.r ≤ 100000)) : rpOk r = false := by simp only [rpOk, decide_eq_false_iff_not]; exact h
theorem rpOk_yes {r : Rp} (h : 1 ≤ r.f ∧ r.f ≤ r.m ∧ r.m ≤ r.c ∧ r.c ≤ 100000000 ∧ 0 ≤ r.r ∧ r.r ≤ 100000) : rpOk r = true := rpOk_iff.2 h
theorem bk_kpt {M : Nat → Prop} {b : Nat} {cs : List Value} {w w1 : World} (h : Bk b cs w) (hk : Kpt M w w1) (hM : ¬ M b) : Bk b cs w1 := h.same hk.size (hk.block b h.1 hM)
/-- The speed of a step that has so many ahead of it to the nearer end. -/
def spA (r : Rp) (k : Nat) : Int := min (r.f + r.r * k) r.m
theorem mul_bd {r : Rp} (h : rpOk r = true) {k : Nat} (hk : k ≤ 20000) : 0 ≤ r.r * (k : Int) ∧ r.r * (k : Int) ≤ 2000000000 := by
  obtain ⟨_, _, _, _, h5, h6⟩ := rpOk_iff.1 h
  refine ⟨Int.mul_nonneg h5 (by omega), ?_⟩
  exact Int.le_trans (Int.mul_le_mul_of_nonneg_right h6 (by omega : (0 : Int) ≤ k)) (by omega)
theorem spA_bd {r : Rp} (h : rpOk r = true) {k : Nat} (hk : k ≤ 20000) : r.f ≤ spA r k ∧ spA r k ≤ r.m := by
  have := mul_bd h hk
  have := rpOk_iff.1 h
  unfold spA
  omega

set_option maxHeartbeats 1600000 in
theorem isRamp_any (r : Rp) (w : World) :
    Calls Tryd.prog 62 #[rv r] w fun e w' => e = .returned (.bool (rpOk r)) ∧ w' = w.alloc (ro r) := by
  obtain ⟨c, f, m, x⟩ := r
  by_cases h1 : 1 ≤ f
  · by_cases h2 : f ≤ m
    · by_cases h3 : m ≤ c
      · by_cases h4 : c ≤ 100000000
        · by_cases h5 : 0 ≤ x
          · by_cases h6 : x ≤ 100000
            · go_enter Tryd.func62, Tryd.ntmps62
              go_wp2
              go_ret
              exact ⟨ret_bool (rpOk_yes (by simp only; omega)).symm, rfl⟩
            · go_enter Tryd.func62, Tryd.ntmps62
              go_wp2
              go_ret
              exact ⟨ret_bool (rpOk_no (by simp only; omega)).symm, rfl⟩
          · go_enter Tryd.func62, Tryd.ntmps62
            go_wp2
            go_ret
            exact ⟨ret_bool (rpOk_no (by simp only; omega)).symm, rfl⟩
        · go_enter Tryd.func62, Tryd.ntmps62
          go_wp2
          go_ret
          exact ⟨ret_bool (rpOk_no (by simp only; omega)).symm, rfl⟩
      · go_enter Tryd.func62, Tryd.ntmps62
        go_wp2
        go_ret
        exact ⟨ret_bool (rpOk_no (by simp only; omega)).symm, rfl⟩
    · go_enter Tryd.func62, Tryd.ntmps62
      go_wp2
      go_ret
      exact ⟨ret_bool (rpOk_no (by simp only; omega)).symm, rfl⟩
  · go_enter Tryd.func62, Tryd.ntmps62
    go_wp2
    go_ret
    exact ⟨ret_bool (rpOk_no (by simp only; omega)).symm, rfl⟩

/-- What is wrong with a ramp of so many steps. -/
def refR (r : Rp) (n : Int) : Int := if rpOk r = true then if 0 ≤ n ∧ n ≤ 20000 then 0 else 7 else 2
theorem refusal_any (r : Rp) (n : Int) (w : World) :
    Calls Tryd.prog 59 #[rv r, .int .i64 n] w fun e w' => e = .returned (.int .i64 (refR r n)) ∧ Below w.heap.size w w' := by
  have HC : Hid (∀ W, Calls Tryd.prog 62 #[rv r] W fun e w' => e = .returned (.bool (rpOk r)) ∧ w' = W.alloc (ro r)) := isRamp_any r
  have HR : Hid (refR r n = if rpOk r = true then if 0 ≤ n ∧ n ≤ 20000 then 0 else 7 else 2) := rfl
  have HB : Hid (Below w.heap.size w ((w.alloc (ro r)).alloc (ro r))) := ((Below.refl _ _).alloc (Nat.le_refl _) _).alloc (by simp) _
  go_enter Tryd.func59, Tryd.ntmps59
  go_wp2_with fail
  refine Calls.mono (HC.out _) ?_
  rintro e w1 ⟨rfl, rfl⟩
  cases hok : rpOk r with
  | false =>
    rw [hok] at HR
    go_wp2
    go_ret
    exact ⟨ret_int (by rw [HR.out]; simp), HB.out⟩
  | true =>
    rw [hok] at HR
    by_cases h0 : n < 0
    · go_wp2
      go_ret
      exact ⟨ret_int (by rw [HR.out, if_pos trivial, if_neg (by omega)]), HB.out⟩
    · by_cases h1 : 20000 < n
      · go_wp2
        go_ret
        exact ⟨ret_int (by rw [HR.out, if_pos trivial, if_neg (by omega)]), HB.out⟩
      · go_wp2
        go_ret
        exact ⟨ret_int (by rw [HR.out, if_pos trivial, if_pos (by omega)]), HB.out⟩

theorem speedAt_any (r : Rp) (k : Nat) (hr : rpOk r = true) (hk : k ≤ 20000) (w : World) :
    Calls Tryd.prog 65 #[rv r, .int .i64 (k : Int)] w fun e w' => e = .returned (.int .i64 (spA r k)) ∧ w' = w.alloc (ro r) := by
  obtain ⟨hm0, hm1⟩ := mul_bd hr hk
  obtain ⟨h1, h2, h3, h4, h5, h6⟩ := rpOk_iff.1 hr
  have HS : Hid (spA r k = min (r.f + r.r * k) r.m) := rfl
  clear hr
  obtain ⟨c, f, m, x⟩ := r
  simp only at *
  go_enter Tryd.func65, Tryd.ntmps65
  go_wp2
  all_goals
    go_ret
    exact ⟨ret_int (by rw [HS.out]; omega), rfl⟩
/-- The closures of speeds and of added. -/
abbrev spC (n r : Nat) : Value := .func (.func 64) #[] #[ptr n, ptr r]
abbrev tmC (s r : Nat) : Value := .func (.func 63) #[] #[ptr s, ptr r]
theorem speeds_any (r : Rp) (n : Int) (w : World) :
    Calls Tryd.prog 61 #[rv r, .int .i64 n] w fun e w' => e = .returned (spC (w.heap.size + 1) w.heap.size) ∧ w' = (w.alloc (ro r)).alloc (io n) := by
  go_enter Tryd.func61, Tryd.ntmps61
  go_wp2
  go_ret
  exact ⟨rfl, rfl⟩
theorem times_any (r : Rp) (f : Nat) (lb : Array Value) (w : World) :
    Calls Tryd.prog 60 #[rv r, .func (.func f) #[] lb] w fun e w' => e = .returned (tmC (w.heap.size + 1) w.heap.size) ∧ w' = (w.alloc (ro r)).alloc (.cells #[.func (.func f) #[] lb] 105) := by
  go_enter Tryd.func60, Tryd.ntmps60
  go_wp2
  go_ret
  exact ⟨rfl, rfl⟩
end Go.Proofs.YtgahlhfgpkklaaaDoor
