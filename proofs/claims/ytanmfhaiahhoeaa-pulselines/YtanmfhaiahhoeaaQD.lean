/- The pulse of a tick. -/
import Derived.Test.YtanmfhaiahhoeaaQA
namespace Go.Proofs.Ytanmfhaiahhoeaa
open Go.RowKit

/-- The pulse of three steps. -/
def puB (a a' b b' c c' : Bool) : Int := (if a then 1 else 0) + (if b then 2 else 0) + (if c then 4 else 0) + (if a' then 8 else 0) + (if b' then 16 else 0) + (if c' then 32 else 0)
def pu (a b c : Int) : Int := puB (a != 0) (decide (a < 0)) (b != 0) (decide (b < 0)) (c != 0) (decide (c < 0))
theorem pu_is {x y z : Int} {a a' b b' c c' : Bool} (h1 : (x != 0) = a) (h2 : decide (x < 0) = a') (h3 : (y != 0) = b) (h4 : decide (y < 0) = b') (h5 : (z != 0) = c) (h6 : decide (z < 0) = c') : pu x y z = puB a a' b b' c c' := by
  unfold pu
  rw [h1, h2, h3, h4, h5, h6]
set_option maxHeartbeats 6400000 in
set_option maxRecDepth 100000 in
theorem pulseOf_any (x y z : Int) (w : World) : Calls Try.prog 25 #[v3 x y z] w fun e w' => e = .returned (.int .i64 (pu x y z)) ∧ Below w.heap.size w w' := by
  have HB : Hid (Below w.heap.size w (w.alloc (o3 x y z 49))) := (Below.refl _ _).alloc (Nat.le_refl _) _
  have i0 := ix0 x y z
  have i1 := ix1 x y z
  have i2 := ix2 x y z
  go_enter Try.func25, Try.ntmps25
  go_wp2_with fail
  refine wp_loop_rounds 4 ?_
  cases hx0 : (x != 0) <;> cases hx : decide (x < 0)
  all_goals try (exfalso; simp at hx0 hx; omega)
  all_goals
    rw [rounds_succ]
    go_wp2
    cases hy0 : (y != 0) <;> cases hy : decide (y < 0)
    all_goals try (exfalso; simp at hy0 hy; omega)
    all_goals
      rw [rounds_succ]
      go_wp2
      cases hz0 : (z != 0) <;> cases hz : decide (z < 0)
      all_goals try (exfalso; simp at hz0 hz; omega)
      all_goals
        rw [rounds_succ]
        go_wp2
        rw [rounds_succ]
        go_wp2
        go_ret
        exact ⟨ret_int ((pu_is hx0 hx hy0 hy hz0 hz).trans (by kernel_rfl)).symm, HB.out⟩
end Go.Proofs.Ytanmfhaiahhoeaa
