/- The document's small functions: within, QuantityMay, digit, unitNames, unitScales, unitKinds, walked. -/
import Derived.Test.YtpfpfnkagmmanaaGreatDoorTextsP
namespace Go.Proofs.YtpfpfnkagmmanaaGreatDoor
open Go.RowKit

set_option maxHeartbeats 400000 in
theorem within_any (n low high : Int) (w : World) :
    Calls Tryz.prog 17 #[.int .i64 n, .int .i64 low, .int .i64 high] w fun e w' => e = .returned (.bool (decide (low ≤ n) && decide (n ≤ high))) ∧ w' = w := by
  by_cases h1 : low ≤ n
  · by_cases h2 : n ≤ high
    · go_enter Tryz.func17, Tryz.ntmps17
      go_wp2
      go_ret
      exact ⟨by simp [h1, h2], rfl⟩
    · go_enter Tryz.func17, Tryz.ntmps17
      go_wp2
      go_ret
      exact ⟨by simp [h2], rfl⟩
  · go_enter Tryz.func17, Tryz.ntmps17
    go_wp2
    go_ret
    exact ⟨by simp; intro _; omega, rfl⟩
theorem within_yes (n low high : Int) (w : World) (h1 : low ≤ n) (h2 : n ≤ high) :
    Calls Tryz.prog 17 #[.int .i64 n, .int .i64 low, .int .i64 high] w fun e w' => e = .returned (.bool true) ∧ w' = w :=
  (within_any n low high w).mono fun e w' ⟨he, hw⟩ => ⟨by rw [he]; simp [h1, h2], hw⟩
theorem within_no (n low high : Int) (w : World) (h : n < low ∨ high < n) :
    Calls Tryz.prog 17 #[.int .i64 n, .int .i64 low, .int .i64 high] w fun e w' => e = .returned (.bool false) ∧ w' = w :=
  (within_any n low high w).mono fun e w' ⟨he, hw⟩ => ⟨by rw [he]; simp; omega, hw⟩


set_option maxHeartbeats 400000 in
theorem digit_any (b : UInt8) (w : World) : Calls Tryz.prog 26 #[.int .u8 b.toNat] w fun e w' => e = .returned (.bool (isDig b)) ∧ w' = w := by
  have hi := isDig_iff b
  by_cases h1 : 48 ≤ b.toNat
  · by_cases h2 : b.toNat ≤ 57
    · rw [hi.2 ⟨h1, h2⟩]
      go_enter Tryz.func26, Tryz.ntmps26
      go_wp2
      go_ret
      exact ⟨by simp; omega, rfl⟩
    · have e : isDig b = false := by cases hd : isDig b; rfl; exact absurd (hi.1 hd).2 h2
      rw [e]
      clear hi
      go_enter Tryz.func26, Tryz.ntmps26
      go_wp2
      go_ret
      exact ⟨by simp; omega, rfl⟩
  · have e : isDig b = false := by cases hd : isDig b; rfl; exact absurd (hi.1 hd).1 h1
    rw [e]
    clear hi
    go_enter Tryz.func26, Tryz.ntmps26
    go_wp2
    go_ret
    exact ⟨rfl, rfl⟩

def nameCells : Array Value := (names.map fun x => Value.string ⟨x.1.toArray⟩).toArray
def scaleCells : Array Value := (names.map fun x => Value.int .i64 x.2.2.1).toArray
def kindCells : Array Value := (names.map fun x => Value.int .i64 x.2.1).toArray
set_option maxHeartbeats 400000 in
theorem unitNames_is (w : World) : Calls Tryz.prog 49 #[] w fun e w' => e = .returned (.slice (some ⟨w.heap.size, 0, none⟩) 19 19) ∧ w' = w.alloc (.cells nameCells 9) := by
  go_enter Tryz.func49, Tryz.ntmps49
  go_wp2
  go_ret
  exact ⟨rfl, rfl⟩
set_option maxHeartbeats 400000 in
theorem unitScales_is (w : World) : Calls Tryz.prog 50 #[] w fun e w' => e = .returned (.slice (some ⟨w.heap.size, 0, none⟩) 19 19) ∧ w' = w.alloc (.cells scaleCells 3) := by
  go_enter Tryz.func50, Tryz.ntmps50
  go_wp2
  go_ret
  exact ⟨rfl, rfl⟩
set_option maxHeartbeats 400000 in
theorem unitKinds_is (w : World) : Calls Tryz.prog 51 #[] w fun e w' => e = .returned (.slice (some ⟨w.heap.size, 0, none⟩) 19 19) ∧ w' = w.alloc (.cells kindCells 3) := by
  go_enter Tryz.func51, Tryz.ntmps51
  go_wp2
  go_ret
  exact ⟨rfl, rfl⟩

theorem name_at {w : World} {j : Nat} {x : List UInt8 × Int × Int × Int} (h : names[j]? = some x) : (w.alloc (.cells nameCells 9)).cell? ⟨w.heap.size, j, none⟩ = some (.string ⟨x.1.toArray⟩) := by
  rw [World.cell?_alloc_at _ _ _ _ (by simp)]
  simp [nameCells, h]
theorem scale_at {w : World} {j : Nat} {x : List UInt8 × Int × Int × Int} (h : names[j]? = some x) : (w.alloc (.cells scaleCells 3)).cell? ⟨w.heap.size, j, none⟩ = some (.int .i64 x.2.2.1) := by
  rw [World.cell?_alloc_at _ _ _ _ (by simp)]
  simp [scaleCells, h]
theorem kind_at {w : World} {j : Nat} {x : List UInt8 × Int × Int × Int} (h : names[j]? = some x) : (w.alloc (.cells kindCells 3)).cell? ⟨w.heap.size, j, none⟩ = some (.int .i64 x.2.1) := by
  rw [World.cell?_alloc_at _ _ _ _ (by simp)]
  simp [kindCells, h]
end Go.Proofs.YtpfpfnkagmmanaaGreatDoor
