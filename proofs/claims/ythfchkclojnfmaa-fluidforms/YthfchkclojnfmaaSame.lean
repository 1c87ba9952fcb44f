/- Both sameFluids, walked at fluids that are the same; picked. -/
import Derived.Test.YthfchkclojnfmaaDraw
import Derived.Test.YthfchkclojnfmaaMath2
namespace Go.Proofs.Ythfchkclojnfmaa
open Go.RowKit

set_option maxHeartbeats 800000 in
theorem sameK_any (ao ao' : Option Addr) (cap cap' : Nat) (ps : List Pc) (w : World) (h : Fl w ao ps) (h' : Fl w ao' ps) (hl : ps.length ≤ 1000000000000) :
    Calls Try.prog 28 #[.slice ao ps.length cap, .slice ao' ps.length cap'] w fun e w' => e = .returned (.bool true) ∧ ∃ n, w' = w.drewN n := by
  have HF : Hid (Fl w ao ps) := h
  have HF' : Hid (Fl w ao' ps) := h'
  clear h h'
  go_enter Try.func28, Try.ntmps28
  go_wp2
  go_loopw [5] (fun i wr => ∃ k : Nat, k ≤ ps.length ∧ i = .int .i64 k ∧ ∃ n, wr = w.drewN n) (fun i _ => ps.length - (intOf i).toNat)
  case atStart => exact ⟨0, Nat.zero_le _, rfl, 0, rfl⟩
  case round =>
    obtain ⟨k, hk, rfl, n, rfl⟩ := hrel
    by_cases hlt : k < ps.length
    · obtain ⟨b, off, rfl, hb, c0, c1, _⟩ := HF.out.at hlt
      obtain ⟨b', off', rfl, hb', c0', c1', _⟩ := HF'.out.at hlt
      generalize (ps[k]'hlt).1 = l at *
      generalize (ps[k]'hlt).2 = v at *
      go_wp2
      go_big_quiet (fail)
      go_wp2
      go_roundw
      case rel => exact ⟨k + 1, by omega, by go_num, n + nq, by simp⟩
      case measure => simp [intOf]; omega
    · go_wp2
      go_ret
      exact ⟨rfl, n, rfl⟩
set_option maxHeartbeats 800000 in
theorem sameR_any (ao ao' : Option Addr) (cap cap' : Nat) (ps : List Pc) (w : World) (h : Fl w ao ps) (h' : Fl w ao' ps) (hl : ps.length ≤ 1000000000000) :
    Calls Try.prog 15 #[.slice ao ps.length cap, .slice ao' ps.length cap'] w fun e w' => e = .returned (.bool true) ∧ ∃ n, w' = w.drewN n := by
  have HF : Hid (Fl w ao ps) := h
  have HF' : Hid (Fl w ao' ps) := h'
  clear h h'
  go_enter Try.func15, Try.ntmps15
  go_wp2
  go_loopw [5] (fun i wr => ∃ k : Nat, k ≤ ps.length ∧ i = .int .i64 k ∧ ∃ n, wr = w.drewN n) (fun i _ => ps.length - (intOf i).toNat)
  case atStart => exact ⟨0, Nat.zero_le _, rfl, 0, rfl⟩
  case round =>
    obtain ⟨k, hk, rfl, n, rfl⟩ := hrel
    by_cases hlt : k < ps.length
    · obtain ⟨b, off, rfl, hb, c0, c1, _⟩ := HF.out.at hlt
      obtain ⟨b', off', rfl, hb', c0', c1', _⟩ := HF'.out.at hlt
      generalize (ps[k]'hlt).1 = l at *
      generalize (ps[k]'hlt).2 = v at *
      go_wp2
      go_big_quiet (fail)
      go_wp2
      go_roundw
      case rel => exact ⟨k + 1, by omega, by go_num, n + nq, by simp⟩
      case measure => simp [intOf]; omega
    · go_wp2
      go_ret
      exact ⟨rfl, n, rfl⟩
set_option maxHeartbeats 800000 in
theorem picked_any (n : Int) (w : World) (h1 : -9223372036854775808 ≤ n) (h2 : n ≤ 9223372036854775807) :
    Calls Try.prog 29 #[.int .i64 n, .int .i64 1000000] w fun e w' => ∃ m : Int, e = .returned (.int .i64 m) ∧ 0 ≤ m ∧ m < 1000000 ∧ w' = w := by
  by_cases h : n < 0
  · go_enter Try.func29, Try.ntmps29
    go_wp2
    go_ret
    refine ⟨-(n + 1).tmod 1000000, rfl, ?_, ?_, rfl⟩
    all_goals
      obtain ⟨a, ha⟩ : ∃ a : Int, n + 1 = -a := ⟨-(n + 1), by omega⟩
      rw [ha, Int.neg_tmod, Int.tmod_eq_emod_of_nonneg (by omega)]
      omega
  · go_enter Try.func29, Try.ntmps29
    go_wp2
    go_ret
    exact ⟨n % 1000000, rfl, by omega, by omega, rfl⟩
end Go.Proofs.Ythfchkclojnfmaa
