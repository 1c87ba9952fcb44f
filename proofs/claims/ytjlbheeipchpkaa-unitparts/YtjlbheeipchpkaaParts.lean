/- unit.Parts and the document's PartsOf, walked: both give the parts of Math.lean. -/
import Derived.Test.YtjlbheeipchpkaaRows
import Derived.Test.YtjlbheeipchpkaaMath
import Derived.WalkKit
import Derived.WalkSpells
import Derived.WalkLawsBesides
namespace Go.Proofs.Ytjlbheeipchpkaa
open Go.RowKit

theorem Try.info3 : (Try.prog.info? 3).map (fun i => (i.zero, i.size, i.bytes)) = some (some (.int .i64 0), 1, 8) := by kernel_rfl

/-- The first k of c cells are parts, the others 0. -/
def rowTo (T : Int) (c k : Nat) : List Value := (List.range c).map fun j => .int .i64 (if j < k then part T c j else 0)

theorem rowTo_length (T : Int) (c k : Nat) : (rowTo T c k).length = c := by simp [rowTo]
theorem rowTo_at (T : Int) (c k j : Nat) (h : j < c) : (rowTo T c k)[j]? = some (.int .i64 (if j < k then part T c j else 0)) := by
  simp [rowTo, List.getElem?_map, List.getElem?_range h]
theorem rowTo_set (T : Int) (c k : Nat) (_h : k < c) (u : Int) (hu : u = part T c k) : (rowTo T c k).set k (.int .i64 u) = rowTo T c (k + 1) := by
  subst hu
  apply List.ext_getElem?
  intro j
  by_cases hj : j < c
  · rw [rowTo_at _ _ _ _ hj, List.getElem?_set]
    by_cases e : k = j
    · subst e; simp [rowTo_length, hj]
    · rw [if_neg e, rowTo_at _ _ _ _ hj]
      have : j < k + 1 ↔ j < k := by omega
      simp [this]
  · rw [List.getElem?_eq_none (by rw [List.length_set, rowTo_length]; omega), List.getElem?_eq_none (by rw [rowTo_length]; omega)]
theorem set_twice (l : List Value) (k : Nat) (a b : Value) : (l.set k a).set k b = l.set k b := by simp
theorem made_row (T : Int) (c : Nat) : (madeCells (Value.int .i64 0).cells (c * 1)).toList = rowTo T c 0 := by
  rw [Nat.mul_one, show (Value.int .i64 0).cells = #[Value.int .i64 0] from rfl, toList_madeCells_one]
  apply List.ext_getElem?
  intro j
  by_cases hj : j < c
  · rw [rowTo_at _ _ _ _ hj, List.getElem?_replicate, if_pos hj]; simp
  · rw [List.getElem?_eq_none (by rw [List.length_replicate]; omega), List.getElem?_eq_none (by rw [rowTo_length]; omega)]

set_option maxHeartbeats 400000 in
theorem parts_range (T m : Int) (w : World) (h : T < 0 ∨ 1000000000 < T ∨ m < 1 ∨ 1000000000 < m) :
    Calls Try.prog 13 #[.int .i64 T, .int .i64 m] w fun e w' => e = .returned (.tuple #[.slice none 0 0, .int .i64 2]) ∧ w' = w := by
  by_cases h1 : T < 0
  · go_enter Try.func13, Try.ntmps13
    go_wp2
    go_ret2
    exact ⟨rfl, rfl⟩
  · by_cases h2 : 1000000000 < T
    · go_enter Try.func13, Try.ntmps13
      go_wp2
      go_ret2
      exact ⟨rfl, rfl⟩
    · by_cases h3 : m < 1
      · go_enter Try.func13, Try.ntmps13
        go_wp2
        go_ret2
        exact ⟨rfl, rfl⟩
      · have h4 : 1000000000 < m := by omega
        go_enter Try.func13, Try.ntmps13
        go_wp2
        go_ret2
        exact ⟨rfl, rfl⟩

set_option maxHeartbeats 400000 in
theorem parts_zero (m : Int) (w : World) (h1 : 1 ≤ m) (h2 : m ≤ 1000000000) :
    Calls Try.prog 13 #[.int .i64 0, .int .i64 m] w fun e w' => e = .returned (.tuple #[.slice none 0 0, .int .i64 0]) ∧ w' = w := by
  go_enter Try.func13, Try.ntmps13
  go_wp2
  go_ret2
  exact ⟨rfl, rfl⟩

set_option maxHeartbeats 400000 in
theorem parts_many (T m : Int) (w : World) (h0 : 0 < T) (hT : T ≤ 1000000000) (h1 : 1 ≤ m) (h2 : m ≤ 1000000000) (hc : 1000 < (T + m - 1) / m) :
    Calls Try.prog 13 #[.int .i64 T, .int .i64 m] w fun e w' => e = .returned (.tuple #[.slice none 0 0, .int .i64 7]) ∧ w' = w := by
  have hz : (T == 0) = false := by simp; omega
  go_enter Try.func13, Try.ntmps13
  go_wp2
  go_ret2
  exact ⟨rfl, rfl⟩

set_option maxHeartbeats 400000 in
theorem parts_some (T m : Int) (c : Nat) (w : World) (h0 : 0 < T) (hT : T ≤ 1000000000) (h1 : 1 ≤ m) (h2 : m ≤ 1000000000) (hc : (T + m - 1) / m = c) (hc1 : c ≤ 1000) (hc0 : 0 < c) :
    Calls Try.prog 13 #[.int .i64 T, .int .i64 m] w fun e w' => e = .returned (.tuple #[.slice (some ⟨w.heap.size, 0, none⟩) c c, .int .i64 0]) ∧
      w'.ownsRow w.heap.size 3 1 (.slice (some ⟨w.heap.size, 0, none⟩) c c) c (rowTo T c c) ∧ Below w.heap.size w w' := by
  have hz : (T == 0) = false := by simp; omega
  obtain ⟨i0, hi, hz0, hz1, hz2⟩ := info_parts Try.info3
  go_enter Try.func13, Try.ntmps13
  go_wp2_with (at_make; refine wpList_make_full _ rfl (.tmp 33) (.tmp 33) 28 rfl w.heap.size 3 i0 (.int .i64 0) 1 Try.underlying28 hi hz0 hz1 .i64 .i64 _ _ c rfl rfl (by omega) (by omega) (by rw [hz2]; omega) (by unfold maxLen; omega) (Nat.le_refl _) ?_; intro w1 hown1 hgrow1)
  rw [made_row T c] at hown1
  have hbel1 : Below w.heap.size w w1 := (Below.refl _ _).grown hgrow1 (Nat.le_refl _) (by simp)
  clear hgrow1
  go_loopw [37] (fun i wr => ∃ k : Nat, k ≤ c ∧ i = .int .i64 k ∧ wr.ownsRow w.heap.size 3 1 (.slice (some ⟨w.heap.size, 0, none⟩) c c) c (rowTo T c k) ∧ Below w.heap.size w wr) (fun i _ => c - (intOf i).toNat)
  case atStart => exact ⟨0, Nat.zero_le _, rfl, hown1, hbel1⟩
  case round =>
    obtain ⟨k, hk, rfl, hown, hbel⟩ := hrel
    have hfr := hown.frozenAt k
    by_cases hlt : k < c
    · have hcell : wr.cell? ⟨w.heap.size, k, none⟩ = some (.int .i64 0) := by
        rw [hown.cellAt k (by omega), rowTo_at _ _ _ _ hlt]; simp
      have hq := quo_le T c (by omega)
      have hq0 := quo_nonneg T c (by omega) (by omega)
      by_cases hr : (k : Int) < T % c
      · go_wp2
        go_roundw
        case rel =>
          have g1 := (hown.stored k (.int .i64 (T / c))).1
          have g2 := (g1.stored k (.int .i64 (T / c + 1))).1
          rw [set_twice, rowTo_set T c k hlt _ (by unfold part; rw [if_pos hr])] at g2
          exact ⟨k + 1, by omega, by go_num, g2, (hbel.setCell (Nat.le_refl _) _).setCell (Nat.le_refl _) _⟩
        case measure => simp [intOf]; omega
      · go_wp2
        go_roundw
        case rel =>
          have g1 := (hown.stored k (.int .i64 (T / c))).1
          rw [rowTo_set T c k hlt _ (by unfold part; rw [if_neg hr, Int.add_zero])] at g1
          exact ⟨k + 1, by omega, by go_num, g1, hbel.setCell (Nat.le_refl _) _⟩
        case measure => simp [intOf]; omega
    · go_wp2
      go_ret2
      obtain rfl : k = c := by omega
      exact ⟨rfl, hown, hbel⟩

end Go.Proofs.Ytjlbheeipchpkaa
