/- workcellkeep.UnitShares, walked: it answers true. -/
import Derived.Test.YtjlbheeipchpkaaParts
import Derived.Deep.QuietTactic
import Derived.BigQuiet
namespace Go.Proofs.Ytjlbheeipchpkaa
open Go.RowKit

set_option maxHeartbeats 400000 in
theorem shares_range (T m : Int) (w : World) (h : T < 0 ∨ 1000000000 < T ∨ m < 1 ∨ 1000000000 < m) :
    Calls Try.prog 5 #[.int .i64 T, .int .i64 m] w fun e w' => e = .returned (.bool true) ∧ Below w.heap.size w w' := by
  go_enter Try.func5, Try.ntmps5
  go_wp2_with fail
  refine (parts_some 10 4 3 _ (by decide) (by decide) (by decide) (by decide) (by decide) (by decide) (by decide)).mono ?_
  rintro e w1 ⟨rfl, hown1, hb1⟩
  clear hown1
  go_wp2_with fail
  refine (parts_range T m _ h).mono ?_
  rintro e w2 ⟨rfl, rfl⟩
  go_wp2
  go_ret
  exact ⟨rfl, hb1⟩

set_option maxHeartbeats 400000 in
theorem shares_zero (m : Int) (w : World) (h1 : 1 ≤ m) (h2 : m ≤ 1000000000) :
    Calls Try.prog 5 #[.int .i64 0, .int .i64 m] w fun e w' => e = .returned (.bool true) ∧ Below w.heap.size w w' := by
  go_enter Try.func5, Try.ntmps5
  go_wp2_with fail
  refine (parts_some 10 4 3 _ (by decide) (by decide) (by decide) (by decide) (by decide) (by decide) (by decide)).mono ?_
  rintro e w1 ⟨rfl, hown1, hb1⟩
  clear hown1
  go_wp2_with fail
  refine (parts_zero m _ h1 h2).mono ?_
  rintro e w2 ⟨rfl, rfl⟩
  go_wp2
  refine wp_loop_rounds 1 ?_
  rw [rounds_succ]
  go_wp2
  go_ret
  exact ⟨rfl, hb1⟩

set_option maxHeartbeats 400000 in
theorem shares_many (T m : Int) (w : World) (h0 : 0 < T) (hT : T ≤ 1000000000) (h1 : 1 ≤ m) (h2 : m ≤ 1000000000) (hc : 1000 < (T + m - 1) / m) :
    Calls Try.prog 5 #[.int .i64 T, .int .i64 m] w fun e w' => e = .returned (.bool true) ∧ Below w.heap.size w w' := by
  go_enter Try.func5, Try.ntmps5
  go_wp2_with fail
  refine (parts_some 10 4 3 _ (by decide) (by decide) (by decide) (by decide) (by decide) (by decide) (by decide)).mono ?_
  rintro e w1 ⟨rfl, hown1, hb1⟩
  clear hown1
  go_wp2_with fail
  refine (parts_many T m _ h0 hT h1 h2 hc).mono ?_
  rintro e w2 ⟨rfl, rfl⟩
  go_wp2
  go_ret
  exact ⟨rfl, hb1⟩

set_option maxHeartbeats 1000000 in
theorem shares_some (T m : Int) (c : Nat) (w : World) (h0 : 0 < T) (hT : T ≤ 1000000000) (h1 : 1 ≤ m) (h2 : m ≤ 1000000000) (hc : (T + m - 1) / m = c) (hc1 : c ≤ 1000) (hc0 : 0 < c) :
    Calls Try.prog 5 #[.int .i64 T, .int .i64 m] w fun e w' => e = .returned (.bool true) ∧ Below w.heap.size w w' := by
  have HC : Hid ((T + m - 1) / m = c) := hc
  clear hc
  go_enter Try.func5, Try.ntmps5
  go_wp2_with fail
  refine (parts_some 10 4 3 _ (by decide) (by decide) (by decide) (by decide) (by decide) (by decide) (by decide)).mono ?_
  rintro e w1 ⟨rfl, hown1, hb1⟩
  clear hown1
  go_wp2_with fail
  refine (parts_some T m c _ h0 hT h1 h2 HC.out hc1 hc0).mono ?_
  rintro e w2 ⟨rfl, hown2, hb2⟩
  have hsz := hb1.size
  have hcells : ∀ j : Nat, j < c → w2.cell? ⟨w1.heap.size, j, none⟩ = some (.int .i64 (part T c j)) := fun j hj => by
    rw [hown2.cellAt j (by omega), rowTo_at _ _ _ _ hj]; simp [hj]
  have hlt2 : w1.heap.size < w2.heap.size := (hown2.lt w1.heap.size rfl).2
  have HCS : Hid (∀ j : Nat, j < c → w2.cell? ⟨w1.heap.size, j, none⟩ = some (.int .i64 (part T c j))) := hcells
  clear hcells hown2
  go_wp2
  go_loopw [8, 9] (fun s i wr => ∃ k : Nat, k ≤ c ∧ i = .int .i64 k ∧ s = .int .i64 (T - left T c k) ∧ Below w2.heap.size w2 wr) (fun _ i _ => c - (intOf i).toNat)
  case atStart => exact ⟨0, Nat.zero_le _, rfl, by rw [show ((0 : Nat) : Int) = 0 from rfl, left_zero T c (by omega), Int.sub_self], Below.refl _ _⟩
  case round =>
    obtain ⟨k, hk, rfl, rfl, hbr⟩ := hrel
    by_cases hlt : k < c
    · have hl0 := left_nonneg T c k (by omega) (by omega) (by omega)
      have hl1 := left_le T c (by omega) (by omega) k
      have HL : Hid (left T c ((k + 1 : Nat) : Int) = left T c k - part T c k) := left_succ T c k
      have hp1 := part_pos T c k (by omega) (by have := count_le T m h0 (by omega); rw [HC.out] at this; exact this)
      have hp2 := part_le T c m k (by omega) (by have := (count_spec T m (by omega)).1; rw [HC.out] at this; exact this) (by omega)
      have hp3 := part_near T c 0 k
      have hp5 := part_mono T c 0 k (by omega)
      have hp6 := part_le T c m 0 (by omega) (by have := (count_spec T m (by omega)).1; rw [HC.out] at this; exact this) (by omega)
      have hck : wr.cell? ⟨w1.heap.size, k, none⟩ = some (.int .i64 (part T c k)) := (hbr.cell (p := ⟨w1.heap.size, k, none⟩) hlt2).trans (HCS.out k hlt)
      have hc0' : wr.cell? ⟨w1.heap.size, 0, none⟩ = some (.int .i64 (part T c 0)) := (hbr.cell (p := ⟨w1.heap.size, 0, none⟩) hlt2).trans (HCS.out 0 hc0)
      by_cases hk0 : k = 0
      · have hkd : decide (0 < k) = false := by simp; omega
        clear hk0
        generalize part T c 0 = p0 at *
        generalize part T c k = pk at *
        generalize left T c k = L at *
        have g1 : decide (pk < 1) = false := by simp; omega
        have g2 : decide (m < pk) = false := by simp; omega
        have g5 : decide (1 < p0 - pk) = false := by simp; omega
        go_wp2
        go_big_quiet (fail)
        go_wp2
        go_roundw
        case rel => exact ⟨k + 1, by omega, by go_num, by rw [HL.out]; go_num, below_drewN hbr nq⟩
        case measure => simp [intOf]; omega
      · have hcp : wr.cell? ⟨w1.heap.size, k - 1, none⟩ = some (.int .i64 (part T c ((k - 1 : Nat) : Int))) := (hbr.cell (p := ⟨w1.heap.size, k - 1, none⟩) hlt2).trans (HCS.out (k - 1) (by omega))
        have hp4 := part_mono T c ((k - 1 : Nat) : Int) k (by omega)
        have hkd : decide (0 < k) = true := by simp; omega
        have hkd2 : (0 : Int) < (k : Int) := by omega
        generalize part T c ((k - 1 : Nat) : Int) = pp at *
        generalize part T c 0 = p0 at *
        generalize part T c k = pk at *
        generalize left T c k = L at *
        have g1 : decide (pk < 1) = false := by simp; omega
        have g2 : decide (m < pk) = false := by simp; omega
        have g4 : decide (pp < pk) = false := by simp; omega
        have g5 : decide (1 < p0 - pk) = false := by simp; omega
        go_wp2
        go_big_quiet (fail)
        go_wp2
        go_roundw
        case rel => exact ⟨k + 1, by omega, by go_num, by rw [HL.out]; go_num, below_drewN hbr nq⟩
        case measure => simp [intOf]; omega
    · have hl : left T c k = 0 := by rw [show k = c by omega, left_end T c (by omega)]
      have hcs := (count_spec T m (by omega)).2
      rw [HC.out] at hcs
      have hcz : ((c : Int) == 0) = false := by simp; omega
      have hml := Int.mul_nonneg (show 0 ≤ (c : Int) - 1 by omega) (show 0 ≤ m by omega)
      go_wp2
      go_ret
      exact ⟨rfl, (hb1.trans (hb2.mono hsz)).trans (hbr.mono (by have := hb2.size; omega))⟩

theorem shares_any (T m : Int) (w : World) :
    Calls Try.prog 5 #[.int .i64 T, .int .i64 m] w fun e w' => e = .returned (.bool true) ∧ Below w.heap.size w w' := by
  by_cases h : T < 0 ∨ 1000000000 < T ∨ m < 1 ∨ 1000000000 < m
  · exact shares_range T m w h
  · by_cases h0 : T = 0
    · subst h0; exact shares_zero m w (by omega) (by omega)
    · by_cases hc : 1000 < (T + m - 1) / m
      · exact shares_many T m w (by omega) (by omega) (by omega) (by omega) hc
      · have hp := count_pos T m (by omega) (by omega)
        exact shares_some T m ((T + m - 1) / m).toNat w (by omega) (by omega) (by omega) (by omega) (by omega) (by omega) (by omega)
end Go.Proofs.Ytjlbheeipchpkaa
