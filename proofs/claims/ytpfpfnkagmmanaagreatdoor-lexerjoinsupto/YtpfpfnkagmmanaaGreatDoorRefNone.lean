/- The document's ReadQuantity, walked: no digits. -/
import Derived.Test.YtpfpfnkagmmanaaGreatDoorRefRead
import Derived.Deep.RegionWith
namespace Go.Proofs.YtpfpfnkagmmanaaGreatDoor
open Go.RowKit

set_option maxHeartbeats 1600000 in
set_option maxRecDepth 100000 in
theorem ref_none_pos (s : ByteArray) (w : World) (hz : 0 < s.size) (hb0 : ((s[0].toNat : Int) == 45) = false) (hn : ∀ h : 0 < s.size, isDig s[0] = false) :
    Calls Tryz.prog 28 #[.string s] w fun e w' => e = .returned (.tuple #[.agg #[.int .i64 0, .int .i64 0], .int .i64 1]) ∧ Below w.heap.size w w' := by
  have HN : Hid (∀ h : 0 < s.size, isDig s[0] = false) := hn
  clear hn
  go_enter Tryz.func28, Tryz.ntmps28
  go_wp2
  go_loop [4, 7, 8] (fun i n far => i = .int .i64 0 ∧ n = .int .i64 0 ∧ far = .bool false) (fun _ _ _ => 0)
  case atStart => exact ⟨rfl, rfl, rfl⟩
  case round =>
    obtain ⟨rfl, rfl, rfl⟩ := hrel
    have HC : Hid (∀ w, Calls Tryz.prog 26 #[.int .u8 s[0].toNat] w fun e w' => e = .returned (.bool false) ∧ w' = w) := fun w => by
      have := digit_any s[0] w
      rw [HN.out (by omega)] at this; exact this
    go_wp2_with fail
    refine (HC.out _).mono ?_
    rintro e w1 ⟨rfl, rfl⟩
    have hB0 : Below w.heap.size w (w.alloc (.cells #[.int .i64 0, .int .i64 0] 64)) := (Below.refl _ _).alloc (Nat.le_refl _) _
    obtain ⟨c0, c1, f0, f1, lt⟩ := RBox.new w
    go_wp2
    refine bodyPost_ret (v := .tuple #[.agg #[.int .i64 0, .int .i64 0], .int .i64 1]) (by simp [results, Tryz.results28, go_sem, c0, c1]) rfl ⟨rfl, hB0⟩
set_option maxHeartbeats 1600000 in
set_option maxRecDepth 100000 in
theorem ref_none_neg (s : ByteArray) (w : World) (hs : s.size ≤ 1048576) (hz : 0 < s.size) (hb0 : ((s[0].toNat : Int) == 45) = true) (hn : ∀ h : 1 < s.size, isDig s[1] = false) :
    Calls Tryz.prog 28 #[.string s] w fun e w' => e = .returned (.tuple #[.agg #[.int .i64 0, .int .i64 0], .int .i64 1]) ∧ Below w.heap.size w w' := by
  have HN : Hid (∀ h : 1 < s.size, isDig s[1] = false) := hn
  clear hn
  go_enter Tryz.func28, Tryz.ntmps28
  go_wp2
  go_loop [4, 7, 8] (fun i n far => i = .int .i64 1 ∧ n = .int .i64 0 ∧ far = .bool false) (fun _ _ _ => 0)
  case atStart => exact ⟨rfl, rfl, rfl⟩
  case round =>
    obtain ⟨rfl, rfl, rfl⟩ := hrel
    by_cases hlt : 1 < s.size
    · skip
      have HC : Hid (∀ w, Calls Tryz.prog 26 #[.int .u8 s[1].toNat] w fun e w' => e = .returned (.bool false) ∧ w' = w) := fun w => by
        have := digit_any s[1] w
        rw [HN.out (by omega)] at this; exact this
      go_wp2_with fail
      refine (HC.out _).mono ?_
      rintro e w1 ⟨rfl, rfl⟩
      have hB0 : Below w.heap.size w (w.alloc (.cells #[.int .i64 0, .int .i64 0] 64)) := (Below.refl _ _).alloc (Nat.le_refl _) _
      obtain ⟨c0, c1, f0, f1, lt⟩ := RBox.new w
      go_wp2
      refine bodyPost_ret (v := .tuple #[.agg #[.int .i64 0, .int .i64 0], .int .i64 1]) (by simp [results, Tryz.results28, go_sem, c0, c1]) rfl ⟨rfl, hB0⟩
    · skip
      have hB0 : Below w.heap.size w (w.alloc (.cells #[.int .i64 0, .int .i64 0] 64)) := (Below.refl _ _).alloc (Nat.le_refl _) _
      obtain ⟨c0, c1, f0, f1, lt⟩ := RBox.new w
      go_wp2
      refine bodyPost_ret (v := .tuple #[.agg #[.int .i64 0, .int .i64 0], .int .i64 1]) (by simp [results, Tryz.results28, go_sem, c0, c1]) rfl ⟨rfl, hB0⟩
set_option maxHeartbeats 1600000 in
set_option maxRecDepth 100000 in
theorem ref_none_empty (s : ByteArray) (w : World) (hz : s.size = 0) :
    Calls Tryz.prog 28 #[.string s] w fun e w' => e = .returned (.tuple #[.agg #[.int .i64 0, .int .i64 0], .int .i64 1]) ∧ Below w.heap.size w w' := by
  go_enter Tryz.func28, Tryz.ntmps28
  go_wp2
  go_loop [4, 7, 8] (fun i n far => i = .int .i64 0 ∧ n = .int .i64 0 ∧ far = .bool false) (fun _ _ _ => 0)
  case atStart => exact ⟨rfl, rfl, rfl⟩
  case round =>
    obtain ⟨rfl, rfl, rfl⟩ := hrel
    have hB0 : Below w.heap.size w (w.alloc (.cells #[.int .i64 0, .int .i64 0] 64)) := (Below.refl _ _).alloc (Nat.le_refl _) _
    obtain ⟨c0, c1, f0, f1, lt⟩ := RBox.new w
    go_wp2
    refine bodyPost_ret (v := .tuple #[.agg #[.int .i64 0, .int .i64 0], .int .i64 1]) (by simp [results, Tryz.results28, go_sem, c0, c1]) rfl ⟨rfl, hB0⟩
end Go.Proofs.YtpfpfnkagmmanaaGreatDoor
