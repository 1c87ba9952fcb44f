/- Labels, the document's way: within, digit, LabelMay, walked. -/
import Derived.Test.YtefjeohhdmmboaaDoorLab
namespace Go.Proofs.YtefjeohhdmmboaaDoor
open Go.RowKit

set_option maxHeartbeats 400000 in
theorem within_any (n low high : Int) (w : World) :
    Calls Tryd.prog 35 #[.int .i64 n, .int .i64 low, .int .i64 high] w fun e w' => e = .returned (.bool (decide (low ≤ n) && decide (n ≤ high))) ∧ w' = w := by
  by_cases h1 : low ≤ n
  · by_cases h2 : n ≤ high
    · go_enter Tryd.func35, Tryd.ntmps35
      go_wp2
      go_ret
      exact ⟨by simp [h1, h2], rfl⟩
    · go_enter Tryd.func35, Tryd.ntmps35
      go_wp2
      go_ret
      exact ⟨by simp [h2], rfl⟩
  · go_enter Tryd.func35, Tryd.ntmps35
    go_wp2
    go_ret
    exact ⟨by simp; intro _; omega, rfl⟩
theorem within_yes (n low high : Int) (w : World) (h1 : low ≤ n) (h2 : n ≤ high) :
    Calls Tryd.prog 35 #[.int .i64 n, .int .i64 low, .int .i64 high] w fun e w' => e = .returned (.bool true) ∧ w' = w :=
  (within_any n low high w).mono fun e w' ⟨he, hw⟩ => ⟨by rw [he]; simp [h1, h2], hw⟩
theorem within_no (n low high : Int) (w : World) (h : n < low ∨ high < n) :
    Calls Tryd.prog 35 #[.int .i64 n, .int .i64 low, .int .i64 high] w fun e w' => e = .returned (.bool false) ∧ w' = w :=
  (within_any n low high w).mono fun e w' ⟨he, hw⟩ => ⟨by rw [he]; simp; omega, hw⟩

set_option maxHeartbeats 400000 in
theorem digit_yes (c : Int) (w : World) (h1 : 48 ≤ c) (h2 : c ≤ 57) : Calls Tryd.prog 48 #[.int .u8 c] w fun e w' => e = .returned (.bool true) ∧ w' = w := by
  go_enter Tryd.func48, Tryd.ntmps48
  go_wp2
  go_ret
  exact ⟨rfl, rfl⟩
set_option maxHeartbeats 400000 in
theorem digit_no (c : Int) (w : World) (h : c < 48 ∨ 57 < c) : Calls Tryd.prog 48 #[.int .u8 c] w fun e w' => e = .returned (.bool false) ∧ w' = w := by
  by_cases h1 : 48 ≤ c
  · have h2 : ¬ c ≤ 57 := by omega
    go_enter Tryd.func48, Tryd.ntmps48
    go_wp2
    go_ret
    exact ⟨rfl, rfl⟩
  · go_enter Tryd.func48, Tryd.ntmps48
    go_wp2
    go_ret
    exact ⟨rfl, rfl⟩

set_option maxHeartbeats 3200000 in
theorem labelMay_any (s : ByteArray) (w : World) (hs : s.size ≤ maxLen) :
    Calls Tryd.prog 33 #[.string s] w fun e w' => e = .returned (.bool (lab s)) ∧ w' = w := by
  unfold maxLen at hs
  by_cases h1 : s.size < 1 ∨ 16 < s.size
  · have HB : Hid (lab s = false) := h1.elim lab_short lab_long
    go_enter Tryd.func33, Tryd.ntmps33
    go_wp2_with (go_at_call 35; refine (within_no _ _ _ _ (by omega)).mono ?_; rintro e w' ⟨rfl, rfl⟩)
    go_ret
    exact ⟨ret_bool HB.out.symm, rfl⟩
  have h1' : 1 ≤ s.size := by omega
  have h2' : s.size ≤ 16 := by omega
  clear h1
  go_enter Tryd.func33, Tryd.ntmps33
  go_wp2_with (go_at_call 35; refine (within_yes _ _ _ _ (by omega) (by omega)).mono ?_; rintro e w' ⟨rfl, rfl⟩)
  go_loop [3] (fun i => ∃ pos : Nat, pos ≤ s.size ∧ i = .int .i64 pos ∧ ∀ k (h : k < s.size), k < pos → okAt (s[k]'h) k = true) (fun i => s.size - (intOf i).toNat)
  case atStart => exact ⟨0, Nat.zero_le _, rfl, fun k _ h => absurd h (Nat.not_lt_zero _)⟩
  case round =>
    obtain ⟨pos, hpos, rfl, hgood⟩ := hrel
    have HG : Hid (∀ k (h : k < s.size), k < pos → okAt (s[k]'h) k = true) := hgood
    clear hgood
    by_cases hp : pos < s.size
    · obtain ⟨c, hc⟩ : ∃ c : UInt8, s[pos]'hp = c := ⟨_, rfl⟩
      have HC : Hid (c = s[pos]'hp) := hc.symm
      by_cases hl : 97 ≤ c.toNat ∧ c.toNat ≤ 122
      · obtain ⟨l1', l2'⟩ := hl
        have l1 : decide ((97 : Int) ≤ (c.toNat : Int)) = true := by simp; omega
        have l2 : decide ((c.toNat : Int) ≤ 122) = true := by simp; omega
        go_wp2
        go_round
        case rel => exact ⟨pos + 1, by omega, by go_num, good_succ hp HG.out (by rw [← HC.out]; exact okAt_letter l1' l2')⟩
        case measure => simp [intOf]; omega
      · by_cases h0 : pos = 0
        · have HB : Hid (lab s = false) := lab_bad hp (by rw [← HC.out]; exact okAt_zero h0 (by omega))
          have h00 : ((pos : Int) == 0) = true := by simp; omega
          clear h0
          rcases (show c.toNat < 97 ∨ 122 < c.toNat by omega) with d | d
          · have l1 : decide ((97 : Int) ≤ (c.toNat : Int)) = false := by simp; omega
            go_wp2
            go_ret
            exact ⟨ret_bool HB.out.symm, rfl⟩
          · have l1 : decide ((97 : Int) ≤ (c.toNat : Int)) = true := by simp; omega
            have l2 : decide ((c.toNat : Int) ≤ 122) = false := by simp; omega
            go_wp2
            go_ret
            exact ⟨ret_bool HB.out.symm, rfl⟩
        · have h00 : ((pos : Int) == 0) = false := by simp; omega
          have h01 : 0 < pos := by omega
          clear h0
          rcases (show c.toNat < 48 ∨ (48 ≤ c.toNat ∧ c.toNat ≤ 57) ∨ (57 < c.toNat ∧ c.toNat < 97) ∨ 122 < c.toNat by omega) with d | ⟨d0, d⟩ | ⟨d0, d⟩ | d
          · have l1 : decide ((97 : Int) ≤ (c.toNat : Int)) = false := by simp; omega
            go_wp2_with (go_at_call 48; refine (digit_no _ _ (by omega)).mono ?_; rintro e w' ⟨rfl, rfl⟩)
            go_ret
            exact ⟨ret_bool (lab_bad hp (by rw [← HC.out]; exact okAt_no (by omega) (by omega))).symm, rfl⟩
          · have l1 : decide ((97 : Int) ≤ (c.toNat : Int)) = false := by simp; omega
            go_wp2_with (go_at_call 48; refine (digit_yes _ _ (by omega) (by omega)).mono ?_; rintro e w' ⟨rfl, rfl⟩)
            go_round
            case rel => exact ⟨pos + 1, by omega, by go_num, good_succ hp HG.out (by rw [← HC.out]; exact okAt_digit h01 d0 d)⟩
            case measure => simp [intOf]; omega
          · have l1 : decide ((97 : Int) ≤ (c.toNat : Int)) = false := by simp; omega
            go_wp2_with (go_at_call 48; refine (digit_no _ _ (by omega)).mono ?_; rintro e w' ⟨rfl, rfl⟩)
            go_ret
            exact ⟨ret_bool (lab_bad hp (by rw [← HC.out]; exact okAt_no (by omega) (by omega))).symm, rfl⟩
          · have l1 : decide ((97 : Int) ≤ (c.toNat : Int)) = true := by simp; omega
            have l2 : decide ((c.toNat : Int) ≤ 122) = false := by simp; omega
            go_wp2_with (go_at_call 48; refine (digit_no _ _ (by omega)).mono ?_; rintro e w' ⟨rfl, rfl⟩)
            go_ret
            exact ⟨ret_bool (lab_bad hp (by rw [← HC.out]; exact okAt_no (by omega) (by omega))).symm, rfl⟩
    · go_wp2
      go_ret
      exact ⟨ret_bool (lab_good (by omega) (by omega) (fun k h => HG.out k h (by omega))).symm, rfl⟩
end Go.Proofs.YtefjeohhdmmboaaDoor
