/- Quantities: the plain functions, and unit.refusal (of one), unit.quantity walked. -/
import Derived.Test.YtpfpfnkagmmanaaGreatDoorRows
import Derived.WalkKit
import Derived.WalkSpells
import Derived.WalkLawsBesides
namespace Go.Proofs.YtpfpfnkagmmanaaGreatDoor
open Go.RowKit

/-- What is wrong with a kind and a value: 6, 2, or nothing. -/
def ref1 (k v : Int) : Int := if 0 ≤ k ∧ k ≤ 5 then (if -1000000000 ≤ v ∧ v ≤ 1000000000 then 0 else 2) else 6
theorem bcell {W w1 : World} (hb : Below W.heap.size W w1) : (∀ b o, b < W.heap.size → w1.cell? ⟨b, o, none⟩ = W.cell? ⟨b, o, none⟩) ∧ (∀ b o, b < W.heap.size → w1.frozen? ⟨b, o, none⟩ = W.frozen? ⟨b, o, none⟩) :=
  ⟨fun b o h => hb.cell (p := ⟨b, o, none⟩) h, fun b o h => hb.frozen (p := ⟨b, o, none⟩) h⟩

theorem ref1_kind {k v : Int} (h : k < 0 ∨ 5 < k) : ref1 k v = 6 := by unfold ref1; rw [if_neg (by omega)]
theorem ref1_range {k v : Int} (h0 : 0 ≤ k) (h5 : k ≤ 5) (h : v < -1000000000 ∨ 1000000000 < v) : ref1 k v = 2 := by unfold ref1; rw [if_pos ⟨h0, h5⟩, if_neg (by omega)]
theorem ref1_ok {k v : Int} (h0 : 0 ≤ k) (h5 : k ≤ 5) (h1 : -1000000000 ≤ v) (h2 : v ≤ 1000000000) : ref1 k v = 0 := by unfold ref1; rw [if_pos ⟨h0, h5⟩, if_pos ⟨h1, h2⟩]

/-- The five ways of a quantity. -/
theorem ways (k v : Int) : (k < 0 ∧ ref1 k v = 6) ∨ (¬ k < 0 ∧ 5 < k ∧ ref1 k v = 6) ∨ (0 ≤ k ∧ k ≤ 5 ∧ v < -1000000000 ∧ ref1 k v = 2) ∨ (0 ≤ k ∧ k ≤ 5 ∧ ¬ v < -1000000000 ∧ 1000000000 < v ∧ ref1 k v = 2) ∨ (0 ≤ k ∧ k ≤ 5 ∧ -1000000000 ≤ v ∧ v ≤ 1000000000 ∧ ref1 k v = 0) := by
  by_cases c1 : k < 0
  · exact .inl ⟨c1, ref1_kind (.inl c1)⟩
  · by_cases c2 : 5 < k
    · exact .inr (.inl ⟨c1, c2, ref1_kind (.inr c2)⟩)
    · by_cases c3 : v < -1000000000
      · exact .inr (.inr (.inl ⟨by omega, by omega, c3, ref1_range (by omega) (by omega) (.inl c3)⟩))
      · by_cases c4 : 1000000000 < v
        · exact .inr (.inr (.inr (.inl ⟨by omega, by omega, c3, c4, ref1_range (by omega) (by omega) (.inr c4)⟩)))
        · exact .inr (.inr (.inr (.inr ⟨by omega, by omega, by omega, by omega, ref1_ok (by omega) (by omega) (by omega) (by omega)⟩)))

set_option maxHeartbeats 800000 in
theorem refusal1 (b : Nat) (k v : Int) (w : World) (h1 : w.cell? ⟨b, 0, none⟩ = some (.int .i64 k)) (h2 : w.cell? ⟨b, 1, none⟩ = some (.int .i64 v)) :
    Calls Tryz.prog 92 #[.slice (some ⟨b, 0, none⟩) 1 1] w fun e w' => e = .returned (.int .i64 (ref1 k v)) ∧ Below w.heap.size w w' := by
  rcases ways k v with ⟨c1, hr⟩ | ⟨c1, c2, hr⟩ | ⟨c1, c2, c3, hr⟩ | ⟨c1, c2, c3, c4, hr⟩ | ⟨c1, c2, c3, c4, hr⟩
  all_goals
    have HE := hr
    rw [hr]
    clear hr HE
    go_enter Tryz.func92, Tryz.ntmps92
    go_wp2
    refine wp_loop_rounds 2 ?_
    rw [rounds_succ]
    go_wp2
    first
      | (go_ret; exact ⟨rfl, (Below.refl _ _).alloc (Nat.le_refl _) _⟩)
      | (rw [rounds_succ]; go_wp2; go_ret; exact ⟨rfl, (Below.refl _ _).alloc (Nat.le_refl _) _⟩)

set_option maxHeartbeats 400000 in
theorem quantity_ok (k v : Int) (w : World) (h : ref1 k v = 0) :
    Calls Tryz.prog 82 #[.int .i64 k, .int .i64 v] w fun e w' => e = .returned (.tuple #[.agg #[.int .i64 k, .int .i64 v], .int .i64 0]) ∧ Below w.heap.size w w' := by
  go_enter Tryz.func82, Tryz.ntmps82
  go_wp2_with fail
  refine (refusal1 _ k v _ (by go_simp) (by go_simp)).mono ?_
  rintro e w1 ⟨rfl, hb⟩
  obtain ⟨hc, hf⟩ := bcell hb
  have hz : w.heap.size + 2 < w1.heap.size := by have := hb.size; simp at this; omega
  have e0 : w1.cell? ⟨w.heap.size, 0, none⟩ = some (.int .i64 0) := (hc _ _ (by simp; omega)).trans (by go_simp)
  have e1 : w1.cell? ⟨w.heap.size, 1, none⟩ = some (.int .i64 0) := (hc _ _ (by simp; omega)).trans (by go_simp)
  go_wp2
  refine bodyPost_ret (v := .tuple #[.agg #[.int .i64 k, .int .i64 v], .int .i64 0]) (by simp [results, Tryz.results82, go_sem, e0, e1]) rfl ⟨rfl, ?_⟩
  refine Below.setCell ?_ (by simp) _
  refine Below.setCell ?_ (by simp) _
  refine Below.trans ?_ (hb.mono (by simp; omega))
  exact (((Below.refl _ _).alloc (Nat.le_refl _) _).alloc (by simp) _).alloc (by simp; omega) _

set_option maxHeartbeats 400000 in
theorem quantity_no (k v : Int) (w : World) (h : ref1 k v ≠ 0) :
    Calls Tryz.prog 82 #[.int .i64 k, .int .i64 v] w fun e w' => e = .returned (.tuple #[.agg #[.int .i64 0, .int .i64 0], .int .i64 (ref1 k v)]) ∧ Below w.heap.size w w' := by
  have hne : (ref1 k v == 0) = false := by simp [h]
  have hne2 : (ref1 k v != 0) = true := by simp [h]
  clear h
  go_enter Tryz.func82, Tryz.ntmps82
  go_wp2_with fail
  refine (refusal1 _ k v _ (by go_simp) (by go_simp)).mono ?_
  rintro e w1 ⟨rfl, hb⟩
  obtain ⟨hc, hf⟩ := bcell hb
  have hz : w.heap.size + 2 < w1.heap.size := by have := hb.size; simp at this; omega
  have e0 : w1.cell? ⟨w.heap.size, 0, none⟩ = some (.int .i64 0) := (hc _ _ (by simp; omega)).trans (by go_simp)
  have e1 : w1.cell? ⟨w.heap.size, 1, none⟩ = some (.int .i64 0) := (hc _ _ (by simp; omega)).trans (by go_simp)
  go_wp2
  refine bodyPost_ret (v := .tuple #[.agg #[.int .i64 0, .int .i64 0], .int .i64 (ref1 k v)]) (by simp [results, Tryz.results82, go_sem, e0, e1]) rfl ⟨rfl, ?_⟩
  refine Below.setCell ?_ (by simp) _
  refine Below.setCell ?_ (by simp) _
  refine Below.trans ?_ (hb.mono (by simp; omega))
  exact (((Below.refl _ _).alloc (Nat.le_refl _) _).alloc (by simp) _).alloc (by simp; omega) _

/-- A quantity of a kind and a value, unless it may not be: kind, value, error. -/
def mkQ (k v : Int) : Int × Int × Int := if ref1 k v = 0 then (k, v, 0) else (0, 0, ref1 k v)
theorem quantity_any (k v : Int) (w : World) :
    Calls Tryz.prog 82 #[.int .i64 k, .int .i64 v] w fun e w' => e = .returned (.tuple #[.agg #[.int .i64 (mkQ k v).1, .int .i64 (mkQ k v).2.1], .int .i64 (mkQ k v).2.2]) ∧ Below w.heap.size w w' := by
  by_cases h : ref1 k v = 0
  · have e : mkQ k v = (k, v, 0) := if_pos h
    rw [e]; exact quantity_ok k v w h
  · have e : mkQ k v = (0, 0, ref1 k v) := if_neg h
    rw [e]; exact quantity_no k v w h

end Go.Proofs.YtpfpfnkagmmanaaGreatDoor
