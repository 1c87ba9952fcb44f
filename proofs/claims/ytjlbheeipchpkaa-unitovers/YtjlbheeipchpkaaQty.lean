/- Quantities: the plain functions, and unit.refusal, unit.quantity walked. -/
import Derived.Test.YtjlbheeipchpkaaRows
import Derived.WalkKit
import Derived.WalkSpells
import Derived.WalkLawsBesides
namespace Go.Proofs.Ytjlbheeipchpkaa
open Go.RowKit

/-- What is wrong with a kind and a value: 6, 2, or nothing. -/
def ref1 (k v : Int) : Int := if 0 ≤ k ∧ k ≤ 5 then (if -1000000000 ≤ v ∧ v ≤ 1000000000 then 0 else 2) else 6
/-- What is wrong with the first of two that may not be. -/
def ref2 (k1 v1 k2 v2 : Int) : Int := if ref1 k1 v1 = 0 then ref1 k2 v2 else ref1 k1 v1

theorem bcell {W w1 : World} (hb : Below W.heap.size W w1) : (∀ b o, b < W.heap.size → w1.cell? ⟨b, o, none⟩ = W.cell? ⟨b, o, none⟩) ∧ (∀ b o, b < W.heap.size → w1.frozen? ⟨b, o, none⟩ = W.frozen? ⟨b, o, none⟩) :=
  ⟨fun b o h => hb.cell (p := ⟨b, o, none⟩) h, fun b o h => hb.frozen (p := ⟨b, o, none⟩) h⟩

theorem ref1_kind {k v : Int} (h : k < 0 ∨ 5 < k) : ref1 k v = 6 := by unfold ref1; rw [if_neg (by omega)]
theorem ref1_range {k v : Int} (h0 : 0 ≤ k) (h5 : k ≤ 5) (h : v < -1000000000 ∨ 1000000000 < v) : ref1 k v = 2 := by unfold ref1; rw [if_pos ⟨h0, h5⟩, if_neg (by omega)]
theorem ref1_ok {k v : Int} (h0 : 0 ≤ k) (h5 : k ≤ 5) (h1 : -1000000000 ≤ v) (h2 : v ≤ 1000000000) : ref1 k v = 0 := by unfold ref1; rw [if_pos ⟨h0, h5⟩, if_pos ⟨h1, h2⟩]

/-- The five ways of a quantity. -/
theorem ways (k v : Int) : (k < 0 ∧ ref1 k v = 6) ∨ (¬ k < 0 ∧ 5 < k ∧ ref1 k v = 6) ∨ (0 ≤ k ∧ k ≤ 5 ∧ v < -1000000000 ∧ ref1 k v = 2) ∨ (0 ≤ k ∧ k ≤ 5 ∧ ¬ v < -1000000000 ∧ 1000000000 < v ∧ ref1 k v = 2) ∨ (0 ≤ k ∧ k ≤ 5 ∧ -1000000000 ≤ v ∧ v ≤ 1000000000 ∧ ref1 k v = 0) := by
  by_cases c1 : k < 0
  · exact .inl ⟨c1, ref1_kind (.inl c1)⟩
  · by_cases c2 : 5 < k
    · exact .inr (.inl ⟨c1, c2, ref1_kind (.inr c2)⟩)
    · by_cases c3 : v < -1000000000
      · exact .inr (.inr (.inl ⟨by omega, by omega, c3, ref1_range (by omega) (by omega) (.inl c3)⟩))
      · by_cases c4 : 1000000000 < v
        · exact .inr (.inr (.inr (.inl ⟨by omega, by omega, c3, c4, ref1_range (by omega) (by omega) (.inr c4)⟩)))
        · exact .inr (.inr (.inr (.inr ⟨by omega, by omega, by omega, by omega, ref1_ok (by omega) (by omega) (by omega) (by omega)⟩)))

set_option maxHeartbeats 800000 in
theorem refusal1 (b : Nat) (k v : Int) (w : World) (h1 : w.cell? ⟨b, 0, none⟩ = some (.int .i64 k)) (h2 : w.cell? ⟨b, 1, none⟩ = some (.int .i64 v)) :
    Calls Try.prog 17 #[.slice (some ⟨b, 0, none⟩) 1 1] w fun e w' => e = .returned (.int .i64 (ref1 k v)) ∧ Below w.heap.size w w' := by
  rcases ways k v with ⟨c1, hr⟩ | ⟨c1, c2, hr⟩ | ⟨c1, c2, c3, hr⟩ | ⟨c1, c2, c3, c4, hr⟩ | ⟨c1, c2, c3, c4, hr⟩
  all_goals
    have HE := hr
    rw [hr]
    clear hr HE
    go_enter Try.func17, Try.ntmps17
    go_wp2
    refine wp_loop_rounds 2 ?_
    rw [rounds_succ]
    go_wp2
    first
      | (go_ret; exact ⟨rfl, (Below.refl _ _).alloc (Nat.le_refl _) _⟩)
      | (rw [rounds_succ]; go_wp2; go_ret; exact ⟨rfl, (Below.refl _ _).alloc (Nat.le_refl _) _⟩)

set_option maxHeartbeats 1600000 in
theorem refusal2_bad (b : Nat) (k v : Int) (w : World) (h1 : w.cell? ⟨b, 0, none⟩ = some (.int .i64 k)) (h2 : w.cell? ⟨b, 1, none⟩ = some (.int .i64 v)) (hb : ref1 k v ≠ 0) :
    Calls Try.prog 17 #[.slice (some ⟨b, 0, none⟩) 2 2] w fun e w' => e = .returned (.int .i64 (ref1 k v)) ∧ Below w.heap.size w w' := by
  rcases ways k v with ⟨c1, hr⟩ | ⟨c1, c2, hr⟩ | ⟨c1, c2, c3, hr⟩ | ⟨c1, c2, c3, c4, hr⟩ | ⟨c1, c2, c3, c4, hr⟩
  rotate_right
  · exact absurd hr hb
  all_goals
    clear hb
    rw [hr]
    clear hr
    go_enter Try.func17, Try.ntmps17
    go_wp2
    refine wp_loop_rounds 1 ?_
    rw [rounds_succ]
    go_wp2
    go_ret
    exact ⟨rfl, (Below.refl _ _).alloc (Nat.le_refl _) _⟩

set_option maxHeartbeats 1600000 in
theorem refusal2_good (b : Nat) (k v k2 v2 : Int) (w : World) (h1 : w.cell? ⟨b, 0, none⟩ = some (.int .i64 k)) (h2 : w.cell? ⟨b, 1, none⟩ = some (.int .i64 v))
    (h3 : w.cell? ⟨b, 2, none⟩ = some (.int .i64 k2)) (h4 : w.cell? ⟨b, 3, none⟩ = some (.int .i64 v2)) (hlt : b < w.heap.size)
    (c1 : 0 ≤ k) (c2 : k ≤ 5) (c3 : -1000000000 ≤ v) (c4 : v ≤ 1000000000) :
    Calls Try.prog 17 #[.slice (some ⟨b, 0, none⟩) 2 2] w fun e w' => e = .returned (.int .i64 (ref1 k2 v2)) ∧ Below w.heap.size w w' := by
  rcases ways k2 v2 with ⟨d1, hr⟩ | ⟨d1, d2, hr⟩ | ⟨d1, d2, d3, hr⟩ | ⟨d1, d2, d3, d4, hr⟩ | ⟨d1, d2, d3, d4, hr⟩
  all_goals
    rw [hr]
    clear hr
    go_enter Try.func17, Try.ntmps17
    go_wp2
    refine wp_loop_rounds 3 ?_
    rw [rounds_succ]
    go_wp2
    rw [rounds_succ]
    go_wp2
    first
      | (go_ret; exact ⟨rfl, ((Below.refl _ _).alloc (Nat.le_refl _) _).alloc (by simp) _⟩)
      | (rw [rounds_succ]; go_wp2; go_ret; exact ⟨rfl, ((Below.refl _ _).alloc (Nat.le_refl _) _).alloc (by simp) _⟩)

theorem refusal2 (b : Nat) (k v k2 v2 : Int) (w : World) (h1 : w.cell? ⟨b, 0, none⟩ = some (.int .i64 k)) (h2 : w.cell? ⟨b, 1, none⟩ = some (.int .i64 v))
    (h3 : w.cell? ⟨b, 2, none⟩ = some (.int .i64 k2)) (h4 : w.cell? ⟨b, 3, none⟩ = some (.int .i64 v2)) (hlt : b < w.heap.size) :
    Calls Try.prog 17 #[.slice (some ⟨b, 0, none⟩) 2 2] w fun e w' => e = .returned (.int .i64 (ref2 k v k2 v2)) ∧ Below w.heap.size w w' := by
  by_cases h : ref1 k v = 0
  · have e : ref2 k v k2 v2 = ref1 k2 v2 := if_pos h
    rw [e]
    have hk : (0 ≤ k ∧ k ≤ 5) ∧ -1000000000 ≤ v ∧ v ≤ 1000000000 := by
      unfold ref1 at h
      split at h
      · split at h
        · constructor <;> assumption
        · omega
      · omega
    exact refusal2_good b k v k2 v2 w h1 h2 h3 h4 hlt hk.1.1 hk.1.2 hk.2.1 hk.2.2
  · have e : ref2 k v k2 v2 = ref1 k v := if_neg h
    rw [e]
    exact refusal2_bad b k v w h1 h2 h
end Go.Proofs.Ytjlbheeipchpkaa
