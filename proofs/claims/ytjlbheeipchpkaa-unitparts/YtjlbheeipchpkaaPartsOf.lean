/- The document's PartsOf and sameInts, walked; and workcelllaw.UnitParts: it answers true. -/
import Derived.Test.YtjlbheeipchpkaaParts
import Derived.Deep.QuietTactic
import Derived.BigQuiet
namespace Go.Proofs.Ytjlbheeipchpkaa
open Go.RowKit

set_option maxHeartbeats 400000 in
theorem within_any (n low high : Int) (w : World) :
    Calls Try.prog 21 #[.int .i64 n, .int .i64 low, .int .i64 high] w fun e w' => e = .returned (.bool (decide (low ≤ n) && decide (n ≤ high))) ∧ w' = w := by
  by_cases h1 : low ≤ n
  · by_cases h2 : n ≤ high
    · go_enter Try.func21, Try.ntmps21
      go_wp2
      go_ret
      exact ⟨by simp [h1, h2], rfl⟩
    · go_enter Try.func21, Try.ntmps21
      go_wp2
      go_ret
      exact ⟨by simp [h2], rfl⟩
  · go_enter Try.func21, Try.ntmps21
    go_wp2
    go_ret
    exact ⟨by simp; intro _; omega, rfl⟩
theorem within_yes (n low high : Int) (w : World) (h1 : low ≤ n) (h2 : n ≤ high) :
    Calls Try.prog 21 #[.int .i64 n, .int .i64 low, .int .i64 high] w fun e w' => e = .returned (.bool true) ∧ w' = w :=
  (within_any n low high w).mono fun e w' ⟨he, hw⟩ => ⟨by rw [he]; simp [h1, h2], hw⟩
theorem within_no (n low high : Int) (w : World) (h : n < low ∨ high < n) :
    Calls Try.prog 21 #[.int .i64 n, .int .i64 low, .int .i64 high] w fun e w' => e = .returned (.bool false) ∧ w' = w :=
  (within_any n low high w).mono fun e w' ⟨he, hw⟩ => ⟨by rw [he]; simp; omega, hw⟩

set_option maxHeartbeats 400000 in
theorem partsOf_range (T m : Int) (w : World) (h : T < 0 ∨ 1000000000 < T ∨ m < 1 ∨ 1000000000 < m) :
    Calls Try.prog 14 #[.int .i64 T, .int .i64 m] w fun e w' => e = .returned (.tuple #[.slice none 0 0, .int .i64 2]) ∧ w' = w := by
  by_cases h1 : T < 0 ∨ 1000000000 < T
  · go_enter Try.func14, Try.ntmps14
    go_wp2_with fail
    refine (within_no T 0 1000000000 _ h1).mono ?_
    rintro e w1 ⟨rfl, rfl⟩
    go_wp2
    go_ret2
    exact ⟨rfl, rfl⟩
  · go_enter Try.func14, Try.ntmps14
    go_wp2_with fail
    refine (within_yes T 0 1000000000 _ (by omega) (by omega)).mono ?_
    rintro e w1 ⟨rfl, rfl⟩
    go_wp2_with fail
    refine (within_no m 1 1000000000 _ (by omega)).mono ?_
    rintro e w1 ⟨rfl, rfl⟩
    go_wp2
    go_ret2
    exact ⟨rfl, rfl⟩

/-- The first k parts. -/
def rowOf (T : Int) (c k : Nat) : List Value := (List.range k).map fun j : Nat => .int .i64 (part T c j)
theorem rowOf_length (T : Int) (c k : Nat) : (rowOf T c k).length = k := by simp [rowOf]
theorem rowOf_at (T : Int) (c k j : Nat) (h : j < k) : (rowOf T c k)[j]? = some (.int .i64 (part T c j)) := by
  simp [rowOf, List.getElem?_map, List.getElem?_range h]
theorem rowOf_succ (T : Int) (c k : Nat) : rowOf T c (k + 1) = rowOf T c k ++ [.int .i64 (part T c k)] := by
  simp [rowOf, List.range_succ]

set_option maxHeartbeats 400000 in
theorem partsOf_many (T m : Int) (w : World) (h0 : 0 ≤ T) (hT : T ≤ 1000000000) (h1 : 1 ≤ m) (h2 : m ≤ 1000000000) (hc : 1000 < (T + m - 1) / m) :
    Calls Try.prog 14 #[.int .i64 T, .int .i64 m] w fun e w' => e = .returned (.tuple #[.slice none 0 0, .int .i64 7]) ∧ w' = w := by
  rw [count_eq T m (by omega)] at hc
  have hq := quo_le T m h0
  have hq0 := quo_nonneg T m h0 (by omega)
  by_cases hr : 0 < T % m
  · rw [if_pos hr] at hc
    go_enter Try.func14, Try.ntmps14
    go_wp2_with fail
    refine (within_yes T 0 1000000000 _ (by omega) (by omega)).mono ?_
    rintro e w1 ⟨rfl, rfl⟩
    go_wp2_with fail
    refine (within_yes m 1 1000000000 _ (by omega) (by omega)).mono ?_
    rintro e w1 ⟨rfl, rfl⟩
    go_wp2
    go_ret2
    exact ⟨rfl, rfl⟩
  · rw [if_neg hr] at hc
    go_enter Try.func14, Try.ntmps14
    go_wp2_with fail
    refine (within_yes T 0 1000000000 _ (by omega) (by omega)).mono ?_
    rintro e w1 ⟨rfl, rfl⟩
    go_wp2_with fail
    refine (within_yes m 1 1000000000 _ (by omega) (by omega)).mono ?_
    rintro e w1 ⟨rfl, rfl⟩
    go_wp2
    go_ret2
    exact ⟨rfl, rfl⟩

set_option maxHeartbeats 400000 in
theorem partsOf_some (T m : Int) (c : Nat) (w : World) (h0 : 0 ≤ T) (hT : T ≤ 1000000000) (h1 : 1 ≤ m) (h2 : m ≤ 1000000000) (hc : (T + m - 1) / m = c) (hc1 : c ≤ 1000) :
    Calls Try.prog 14 #[.int .i64 T, .int .i64 m] w fun e w' => ∃ v, e = .returned (.tuple #[v, .int .i64 0]) ∧
      w'.ownsRow w.heap.size 3 1 v c (rowOf T c c) ∧ Below w.heap.size w w' := by
  obtain ⟨i0, hi, hz0, hz1, hz2⟩ := info_parts Try.info3
  rw [count_eq T m (by omega)] at hc
  have hq := quo_le T m h0
  have hq0 := quo_nonneg T m h0 (by omega)
  have HL : Hid (left T c 0 = T) := by
    by_cases hc0 : c = 0
    · have hs := (count_spec T m (by omega)).1
      rw [count_eq T m (by omega), hc, hc0] at hs
      have : T = 0 := by simp at hs; omega
      subst this; subst hc0; rfl
    · exact left_zero T c (by omega)
  by_cases hr : 0 < T % m
  all_goals
    simp only [hr, if_true, if_false] at hc
    have HC : Hid ((c : Int) = _) := hc.symm
    clear hc
    go_enter Try.func14, Try.ntmps14
    go_wp2_with fail
    refine (within_yes T 0 1000000000 _ (by omega) (by omega)).mono ?_
    rintro e w1 ⟨rfl, rfl⟩
    go_wp2_with fail
    refine (within_yes m 1 1000000000 _ (by omega) (by omega)).mono ?_
    rintro e w1 ⟨rfl, rfl⟩
    have hcc := HC.out
    first | have hcq : T / m + 1 ≤ 1000 := by omega | have hcq : T / m ≤ 1000 := by omega
    clear hcc
    go_wp2
    go_loopw [0, 7, 8] (fun t v l wr => ∃ k : Nat, k ≤ c ∧ l = .int .i64 ((c : Int) - k) ∧ t = .int .i64 (left T c k) ∧ wr.ownsRow w1.heap.size 3 1 v k (rowOf T c k) ∧ Below w1.heap.size w1 wr) (fun _ _ l _ => (intOf l).toNat)
    case atStart => exact ⟨0, Nat.zero_le _, by rw [HC.out]; go_num, by rw [show ((0 : Nat) : Int) = 0 from rfl, HL.out], World.ownsRow_nil _ _ _ _, Below.refl _ _⟩
    case round =>
      obtain ⟨k, hk, rfl, rfl, hown, hbel⟩ := hrel
      by_cases hlt : k < c
      · have hl0 := left_nonneg T c k (by omega) (by omega) (by omega)
        have hl1 := left_le T c (by omega) (by omega) k
        have HL1 : Hid (left T c ((k + 1 : Nat) : Int) = left T c k - part T c k) := left_succ T c k
        have hp1 := part_nonneg T c k (by omega) (by omega)
        have hl2 := left_nonneg T c (k + 1 : Nat) (by omega) (by omega) (by omega)
        rw [HL1.out] at hl2
        have hsh := share T c k (by omega) (by omega)
        have HRS := rowOf_succ T c k
        generalize part T c k = pk at *
        generalize left T c k = L at *
        go_wp2_with (at_builtin; refine wpList_append_own _ rfl (.tmp 40) (.tmp 42) 28 rfl w1.heap.size 3 i0 (.int .i64 0) 1 8 Try.underlying28 hi hz0 hz1 hz2 rfl (by decide) _ _ _ rfl (hown.alloc _) ⟨wr.heap.size, 0, none⟩ 1 1 [.int .i64 pk] rfl rfl (cell_one_new _ _ _) (by simp [Value.oneCell']) (by unfold maxLen; omega) (by omega) (by have := hbel.size; simp; omega) ?_; intro v' w2 hown' hgrow _)
        rw [← HRS] at hown'
        go_roundw
        case rel => exact ⟨k + 1, by omega, by go_num, by rw [HL1.out], hown', (hbel.alloc hbel.size _).grown hgrow (by have := hbel.size; simp; omega) (fun g hg => (hown.lt g hg).1)⟩
        case measure => simp [intOf]; omega
      · go_wp2
        go_ret2
        obtain rfl : k = c := by omega
        exact ⟨_, rfl, hown, hbel⟩

/-- What owns no element: its length is 0. -/
theorem own_none {w : World} {b : Nat} {v : Value} (h : w.ownsRow b 3 1 v 0 []) : ∃ ao cap, v = .slice ao 0 cap := by
  obtain ⟨_, ⟨rfl, _⟩ | ⟨g, cap, cur, rfl, _⟩⟩ := h
  · exact ⟨none, 0, rfl⟩
  · exact ⟨_, cap, rfl⟩
theorem own_some {w : World} {b : Nat} {v : Value} {n : Nat} {xs : List Value} (h : w.ownsRow b 3 1 v n xs) (hn : 0 < n) : ∃ g cap, v = .slice (some ⟨g, 0, none⟩) n cap ∧ b ≤ g ∧ g < w.heap.size := by
  have hl := h.lt
  obtain ⟨_, ⟨rfl, _⟩ | ⟨g, cap, cur, rfl, hb, _⟩⟩ := h
  · omega
  · exact ⟨g, cap, rfl, hl g rfl⟩

set_option maxHeartbeats 400000 in
theorem same_zero (a b : Option Addr) (ca cb : Nat) (w : World) :
    Calls Try.prog 15 #[.slice a 0 ca, .slice b 0 cb] w fun e w' => e = .returned (.bool true) ∧ Below w.heap.size w w' := by
  go_enter Try.func15, Try.ntmps15
  go_wp2
  refine wp_loop_rounds 1 ?_
  rw [rounds_succ]
  go_wp2
  go_ret
  exact ⟨rfl, Below.refl _ _⟩

set_option maxHeartbeats 400000 in
theorem same_some (ga gb n ca cb : Nat) (f : Nat → Int) (w : World) (hn : n ≤ 1000)
    (ha : ∀ j, j < n → w.cell? ⟨ga, j, none⟩ = some (.int .i64 (f j))) (hb : ∀ j, j < n → w.cell? ⟨gb, j, none⟩ = some (.int .i64 (f j))) :
    Calls Try.prog 15 #[.slice (some ⟨ga, 0, none⟩) n ca, .slice (some ⟨gb, 0, none⟩) n cb] w fun e w' => e = .returned (.bool true) ∧ Below w.heap.size w w' := by
  have HA : Hid (∀ j, j < n → w.cell? ⟨ga, j, none⟩ = some (.int .i64 (f j))) := ha
  have HB : Hid (∀ j, j < n → w.cell? ⟨gb, j, none⟩ = some (.int .i64 (f j))) := hb
  clear ha hb
  go_enter Try.func15, Try.ntmps15
  go_wp2
  go_loopw [5] (fun i wr => ∃ k : Nat, k ≤ n ∧ i = .int .i64 k ∧ ∃ nd, wr = w.drewN nd) (fun i _ => n - (intOf i).toNat)
  case atStart => exact ⟨0, Nat.zero_le _, rfl, 0, rfl⟩
  case round =>
    obtain ⟨k, hk, rfl, nd, rfl⟩ := hrel
    by_cases hlt : k < n
    · have ea := HA.out k hlt
      have eb := HB.out k hlt
      generalize f k = fk at *
      go_wp2
      go_big_quiet (fail)
      go_wp2
      go_roundw
      case rel => exact ⟨k + 1, by omega, by go_num, _, rfl⟩
      case measure => simp [intOf]; omega
    · go_wp2
      go_ret
      exact ⟨rfl, below_drewN (Below.refl _ _) nd⟩

set_option maxHeartbeats 400000 in
theorem unitParts_range (T m : Int) (w : World) (h : T < 0 ∨ 1000000000 < T ∨ m < 1 ∨ 1000000000 < m) :
    Calls Try.prog 4 #[.int .i64 T, .int .i64 m] w fun e w' => e = .returned (.bool true) ∧ Below w.heap.size w w' := by
  go_enter Try.func4, Try.ntmps4
  go_wp2_with fail
  refine (parts_range T m _ h).mono ?_
  rintro e w1 ⟨rfl, rfl⟩
  go_wp2_with fail
  refine (partsOf_range T m _ h).mono ?_
  rintro e w1 ⟨rfl, rfl⟩
  go_wp2_with fail
  refine (same_zero none none 0 0 _).mono ?_
  rintro e w2 ⟨rfl, hb⟩
  go_wp2
  go_ret
  exact ⟨rfl, hb⟩

set_option maxHeartbeats 400000 in
theorem unitParts_many (T m : Int) (w : World) (h0 : 0 < T) (hT : T ≤ 1000000000) (h1 : 1 ≤ m) (h2 : m ≤ 1000000000) (hc : 1000 < (T + m - 1) / m) :
    Calls Try.prog 4 #[.int .i64 T, .int .i64 m] w fun e w' => e = .returned (.bool true) ∧ Below w.heap.size w w' := by
  go_enter Try.func4, Try.ntmps4
  go_wp2_with fail
  refine (parts_many T m _ h0 hT h1 h2 hc).mono ?_
  rintro e w1 ⟨rfl, rfl⟩
  go_wp2_with fail
  refine (partsOf_many T m _ (by omega) hT h1 h2 hc).mono ?_
  rintro e w1 ⟨rfl, rfl⟩
  go_wp2_with fail
  refine (same_zero none none 0 0 _).mono ?_
  rintro e w2 ⟨rfl, hb⟩
  go_wp2
  go_ret
  exact ⟨rfl, hb⟩

set_option maxHeartbeats 400000 in
theorem unitParts_zero (m : Int) (w : World) (h1 : 1 ≤ m) (h2 : m ≤ 1000000000) :
    Calls Try.prog 4 #[.int .i64 0, .int .i64 m] w fun e w' => e = .returned (.bool true) ∧ Below w.heap.size w w' := by
  go_enter Try.func4, Try.ntmps4
  go_wp2_with fail
  refine (parts_zero m _ h1 h2).mono ?_
  rintro e w1 ⟨rfl, rfl⟩
  go_wp2_with fail
  refine (partsOf_some 0 m 0 _ (by omega) (by omega) h1 h2 (by rw [Int.zero_add]; exact Int.ediv_eq_zero_of_lt (by omega) (by omega)) (by omega)).mono ?_
  rintro e w2 ⟨v, rfl, hown, hb⟩
  obtain ⟨ao, cap, rfl⟩ := own_none hown
  clear hown
  go_wp2_with fail
  refine (same_zero none ao 0 cap _).mono ?_
  rintro e w3 ⟨rfl, hb3⟩
  go_wp2
  go_ret
  exact ⟨rfl, hb.trans (hb3.mono hb.size)⟩

set_option maxHeartbeats 400000 in
theorem unitParts_some (T m : Int) (c : Nat) (w : World) (h0 : 0 < T) (hT : T ≤ 1000000000) (h1 : 1 ≤ m) (h2 : m ≤ 1000000000) (hc : (T + m - 1) / m = c) (hc1 : c ≤ 1000) (hc0 : 0 < c) :
    Calls Try.prog 4 #[.int .i64 T, .int .i64 m] w fun e w' => e = .returned (.bool true) ∧ Below w.heap.size w w' := by
  have HC : Hid ((T + m - 1) / m = c) := hc
  clear hc
  go_enter Try.func4, Try.ntmps4
  go_wp2_with fail
  refine (parts_some T m c _ h0 hT h1 h2 HC.out hc1 hc0).mono ?_
  rintro e w1 ⟨rfl, hown1, hb1⟩
  have hlt1 := (hown1.lt w.heap.size rfl).2
  have HA : Hid (∀ j : Nat, j < c → w1.cell? ⟨w.heap.size, j, none⟩ = some (.int .i64 (part T c j))) := fun j hj => by
    rw [hown1.cellAt j (by omega), rowTo_at _ _ _ _ hj]; simp [hj]
  clear hown1
  go_wp2_with fail
  refine (partsOf_some T m c _ (by omega) hT h1 h2 HC.out hc1).mono ?_
  rintro e w2 ⟨v, rfl, hown2, hb2⟩
  obtain ⟨g, cap, rfl, hg1, hg2⟩ := own_some hown2 hc0
  have HB : Hid (∀ j : Nat, j < c → w2.cell? ⟨g, j, none⟩ = some (.int .i64 (part T c j))) := fun j hj => by
    rw [hown2.cellAt j (by omega), rowOf_at _ _ _ _ hj]
  clear hown2
  go_wp2_with fail
  refine (same_some w.heap.size g c c cap (fun j => part T c j) _ hc1 (fun j hj => (hb2.cell (p := ⟨w.heap.size, j, none⟩) hlt1).trans (HA.out j hj)) HB.out).mono ?_
  rintro e w3 ⟨rfl, hb3⟩
  go_wp2
  go_ret
  exact ⟨rfl, (hb1.trans (hb2.mono hb1.size)).trans (hb3.mono (by have := hb1.size; have := hb2.size; omega))⟩

theorem unitParts_any (T m : Int) (w : World) :
    Calls Try.prog 4 #[.int .i64 T, .int .i64 m] w fun e w' => e = .returned (.bool true) ∧ Below w.heap.size w w' := by
  by_cases h : T < 0 ∨ 1000000000 < T ∨ m < 1 ∨ 1000000000 < m
  · exact unitParts_range T m w h
  · by_cases h0 : T = 0
    · subst h0; exact unitParts_zero m w (by omega) (by omega)
    · by_cases hc : 1000 < (T + m - 1) / m
      · exact unitParts_many T m w (by omega) (by omega) (by omega) (by omega) hc
      · have hp := count_pos T m (by omega) (by omega)
        exact unitParts_some T m ((T + m - 1) / m).toNat w (by omega) (by omega) (by omega) (by omega) (by omega) (by omega) (by omega)
end Go.Proofs.Ytjlbheeipchpkaa
