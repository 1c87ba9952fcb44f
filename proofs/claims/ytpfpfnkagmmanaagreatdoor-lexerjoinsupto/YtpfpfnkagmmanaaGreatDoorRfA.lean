/- The document's letterByte, micro, SameTokens, walked. -/
import Derived.Test.YtpfpfnkagmmanaaGreatDoorLxT
import Derived.Test.YtpfpfnkagmmanaaGreatDoorRef
namespace Go.Proofs.YtpfpfnkagmmanaaGreatDoor
open Go.RowKit Go.Shelf

set_option maxHeartbeats 800000 in
theorem letterByte_any (r : Nat) (w : World) : Calls Tryz.prog 25 #[.int .u8 (r : Int)] w fun e w' => e = .returned (.bool (letR r)) ∧ w' = w := by
  rcases (show r < 65 ∨ (65 ≤ r ∧ r ≤ 90) ∨ (90 < r ∧ r < 97) ∨ (97 ≤ r ∧ r ≤ 122) ∨ 122 < r by omega) with h | ⟨h, h'⟩ | ⟨h, h'⟩ | ⟨h, h'⟩ | h
  · have e : letR r = false := by unfold letR; simp; omega
    rw [e]
    have l1 : decide ((97 : Int) ≤ (r : Int)) = false := by simp; omega
    have l2 : decide ((65 : Int) ≤ (r : Int)) = false := by simp; omega
    clear e h
    go_enter Tryz.func25, Tryz.ntmps25
    go_wp2
    go_ret
    exact ⟨rfl, rfl⟩
  · have e : letR r = true := by unfold letR; simp; omega
    rw [e]
    have l1 : decide ((97 : Int) ≤ (r : Int)) = false := by simp; omega
    have l2 : decide ((65 : Int) ≤ (r : Int)) = true := by simp; omega
    have l3 : decide ((r : Int) ≤ 90) = true := by simp; omega
    clear e h h'
    go_enter Tryz.func25, Tryz.ntmps25
    go_wp2
    go_ret
    exact ⟨rfl, rfl⟩
  · have e : letR r = false := by unfold letR; simp; omega
    rw [e]
    have l1 : decide ((97 : Int) ≤ (r : Int)) = false := by simp; omega
    have l2 : decide ((65 : Int) ≤ (r : Int)) = true := by simp; omega
    have l3 : decide ((r : Int) ≤ 90) = false := by simp; omega
    clear e h h'
    go_enter Tryz.func25, Tryz.ntmps25
    go_wp2
    go_ret
    exact ⟨rfl, rfl⟩
  · have e : letR r = true := by unfold letR; simp; omega
    rw [e]
    have l1 : decide ((97 : Int) ≤ (r : Int)) = true := by simp; omega
    have l2 : decide ((r : Int) ≤ 122) = true := by simp; omega
    clear e h h'
    go_enter Tryz.func25, Tryz.ntmps25
    go_wp2
    go_ret
    exact ⟨rfl, rfl⟩
  · have e : letR r = false := by unfold letR; simp; omega
    rw [e]
    have l1 : decide ((97 : Int) ≤ (r : Int)) = true := by simp; omega
    have l4 : decide ((r : Int) ≤ 122) = false := by simp; omega
    have l2 : decide ((65 : Int) ≤ (r : Int)) = true := by simp; omega
    have l3 : decide ((r : Int) ≤ 90) = false := by simp; omega
    clear e h
    go_enter Tryz.func25, Tryz.ntmps25
    go_wp2
    go_ret
    exact ⟨rfl, rfl⟩
theorem digit_at (b : UInt8) (w : World) : Calls Tryz.prog 26 #[.int .u8 b.toNat] w fun e w' => e = .returned (.bool (digR b.toNat)) ∧ w' = w := by
  rw [digR_is]; exact digit_any b w
theorem two_at (s : ByteArray) (i : Nat) (b c : UInt8) (h : i + 1 < s.size) (hb : s[i]'(by omega) = b) (hc : s[i + 1]'h = c) : s.extract i (i + 2) = ⟨#[b, c]⟩ := by
  apply ByteArray.ext
  rw [ByteArray.data_extract]
  have h' : i + 1 < s.data.size := h
  apply Array.ext
  · simp; omega
  · intro j h1 h2
    simp at h2
    rw [Array.getElem_extract]
    rcases (show j = 0 ∨ j = 1 by omega) with rfl | rfl
    · exact hb
    · exact hc
set_option maxHeartbeats 800000 in
theorem micro_end (s : ByteArray) (i : Nat) (w : World) (h : i < s.size) (h2 : ¬ i + 1 < s.size) (hs : s.size ≤ 20000) : Calls Tryz.prog 27 #[.string s, .int .i64 (i : Int)] w fun e w' => e = .returned (.bool false) ∧ w' = w := by
  have q : decide ((i : Int) + 1 < (s.size : Int)) = false := by simp; omega
  go_enter Tryz.func27, Tryz.ntmps27
  go_wp2
  go_ret
  exact ⟨rfl, rfl⟩
set_option maxHeartbeats 1600000 in
theorem micro_two (s : ByteArray) (i : Nat) (b c : UInt8) (w : World) (h : i + 1 < s.size) (hb : s[i]'(by omega) = b) (hc : s[i + 1]'h = c) (hs : s.size ≤ 20000) : Calls Tryz.prog 27 #[.string s, .int .i64 (i : Int)] w fun e w' => e = .returned (.bool (micB b c)) ∧ w' = w := by
  have q : decide ((i : Int) + 1 < (s.size : Int)) = true := by simp; omega
  have e1 : ∀ W, (Instr.slice 9 (.string s) (some (.int .i64 (i : Int))) (some (.int .i64 ((i : Int) + 2))) none).run Tryz.prog W = .ok (.string ⟨#[b, c]⟩) W := fun W => by
    rw [run_slice_string W 9 s .i64 .i64 (i : Int) ((i : Int) + 2) Tryz.underlying9 (by omega) (by omega) (by omega), Int.toNat_natCast, show ((i : Int) + 2).toNat = i + 2 by omega, two_at s i b c h hb hc]
  clear hb hc
  unfold micB
  by_cases h1 : b = 194 ∧ c = 181
  · obtain ⟨rfl, rfl⟩ := h1
    go_enter Tryz.func27, Tryz.ntmps27
    go_wp2
    go_ret
    exact ⟨rfl, rfl⟩
  · have q1 : (b == 194 && c == 181) = false := by simpa using h1
    rw [q1, Bool.false_or]
    go_enter Tryz.func27, Tryz.ntmps27
    go_wp2
    go_ret
    exact ⟨rfl, rfl⟩
end Go.Proofs.YtpfpfnkagmmanaaGreatDoor
