/- The law CurveRises walked. -/
import Derived.Test.YteamcgoemgailaaVol
namespace Go.Proofs.Yteamcgoemgailaa
open Go.RowKit

abbrev ex2 : List Kn := [z0, ⟨100, 30⟩]
theorem ex2_curve : Curve ex2 := chk_ok.1 (by decide)
theorem ex2_steps : stp ex2 50 = 15 := by decide
theorem example_steps (w : World) : Calls Try.prog 9 #[.slice (some ⟨w.heap.size, 0, none⟩) 2 2, .int .i64 50] (w.alloc (.cells #[.int .i64 0, .int .i64 0, .int .i64 100, .int .i64 30] 31)) fun e w' =>
    e = tup2 15 0 ∧ Below (w.alloc (.cells #[.int .i64 0, .int .i64 0, .int .i64 100, .int .i64 30] 31)).heap.size (w.alloc (.cells #[.int .i64 0, .int .i64 0, .int .i64 100, .int .i64 30] 31)) w' := by
  have := steps_ok (some ⟨w.heap.size, 0, none⟩) 2 ex2 50 _ (Kns.two w z0 ⟨100, 30⟩) ex2_curve (by decide) (by decide)
  rw [ex2_steps] at this
  exact this
set_option maxHeartbeats 3200000 in
theorem rises_bad (ao : Option Addr) (cap : Nat) (l : List Kn) (a b : Int) (w : World) (hL : Kns w ao l) (hl : l.length ≤ 9223372036854775807) (hc : chk l ≠ 0) :
    Calls Try.prog 5 #[.slice ao l.length cap, .int .i64 a, .int .i64 b] w fun e w' => e = .returned (.bool true) ∧ Below w.heap.size w w' := by
  have HL : Hid (Kns w ao l) := hL
  have HC : Hid (chk l ≠ 0) := hc
  have hne : (chk l != 0) = true := by simp [hc]
  clear hL hc
  go_enter Try.func5, Try.ntmps5
  go_wp2_with fail
  refine (example_steps w).mono ?_
  rintro e w1 ⟨rfl, hb1⟩
  have HB1 : Hid (Below w.heap.size w w1) := below_on ((Below.refl _ _).alloc (Nat.le_refl _) _) hb1
  clear hb1
  go_wp2_with fail
  refine (most_bad ao cap l w1 (HL.out.next HB1.out) hl HC.out).mono ?_
  rintro e w2 ⟨rfl, hb2⟩
  go_wp2
  go_ret
  exact ⟨rfl, below_on HB1.out hb2⟩
set_option maxHeartbeats 6400000 in
theorem rises_ok (ao : Option Addr) (cap : Nat) (l : List Kn) (a b : Int) (w : World) (hL : Kns w ao l) (hc : Curve l) (ha : -9223372036854775808 ≤ a ∧ a ≤ 9223372036854775807) (hb : -9223372036854775808 ≤ b ∧ b ≤ 9223372036854775807) :
    Calls Try.prog 5 #[.slice ao l.length cap, .int .i64 a, .int .i64 b] w fun e w' => e = .returned (.bool true) ∧ Below w.heap.size w w' := by
  have HL : Hid (Kns w ao l) := hL
  have HC : Hid (Curve l) := hc
  have HN : Hid (0 < mostV l ∧ mostV l ≤ 1000000000) := ⟨mostV_pos hc, (hc.near _ (by have := hc.two; omega)).1.2⟩
  have hn0 := HN.out
  have HA := (show Hid _ from ha)
  have HBb := (show Hid _ from hb)
  clear hL hc ha hb
  go_enter Try.func5, Try.ntmps5
  go_wp2_with fail
  refine (example_steps w).mono ?_
  rintro e w1 ⟨rfl, hb1⟩
  have HB1 : Hid (Below w.heap.size w w1) := below_on ((Below.refl _ _).alloc (Nat.le_refl _) _) hb1
  clear hb1
  go_wp2_with fail
  refine (most_ok ao cap l w1 (HL.out.next HB1.out) HC.out).mono ?_
  rintro e w2 ⟨rfl, hb2⟩
  have HB2 : Hid (Below w.heap.size w w2) := below_on HB1.out hb2
  clear hb2
  obtain ⟨x, hx⟩ : ∃ x, x = pick a (mostV l + 1) := ⟨_, rfl⟩
  obtain ⟨y, hy⟩ : ∃ y, y = pick b (mostV l + 1) := ⟨_, rfl⟩
  have Hx : Hid (0 ≤ x ∧ x ≤ mostV l) := by have := pick_in a (mostV l + 1) (by omega); rw [← hx] at this; exact ⟨this.1, by omega⟩
  have Hy : Hid (0 ≤ y ∧ y ≤ mostV l) := by have := pick_in b (mostV l + 1) (by omega); rw [← hy] at this; exact ⟨this.1, by omega⟩
  have HX : Hid (x = pick a (mostV l + 1)) := hx
  have HY : Hid (y = pick b (mostV l + 1)) := hy
  clear hx hy
  go_wp2_with fail
  refine (picked_any a (mostV l + 1) w2 HA.out (by omega) (by omega)).mono ?_
  rintro e w3 ⟨rfl, rfl⟩
  rw [← HX.out]
  go_wp2_with fail
  refine (picked_any b (mostV l + 1) w3 HBb.out (by omega) (by omega)).mono ?_
  rintro e w2 ⟨rfl, rfl⟩
  rw [← HY.out]
  by_cases hle : x ≤ y
  · go_wp2_with fail
    refine (steps_ok ao cap l x w2 (HL.out.next HB2.out) HC.out Hx.out.1 Hx.out.2).mono ?_
    rintro e w3 ⟨rfl, hb3⟩
    have HB3 : Hid (Below w.heap.size w w3) := below_on HB2.out hb3
    clear hb3
    go_wp2_with fail
    refine (steps_ok ao cap l y w3 (HL.out.next HB3.out) HC.out Hy.out.1 Hy.out.2).mono ?_
    rintro e w4 ⟨rfl, hb4⟩
    have HB4 : Hid (Below w.heap.size w w4) := below_on HB3.out hb4
    clear hb4
    go_wp2_with fail
    have HI : Hid (0 ≤ stp l x ∧ stp l x ≤ mostS l) := stp_in HC.out Hx.out.1 Hx.out.2
    refine (volume_ok ao cap l (stp l x) w4 (HL.out.next HB4.out) HC.out HI.out.1 HI.out.2).mono ?_
    rintro e w5 ⟨z, rfl, hvol, hb5⟩
    have HV : Hid (VolAt l (stp l x) z) := hvol
    have HB5 : Hid (Below w.heap.size w w5) := below_on HB4.out hb5
    have hxy : stp l x ≤ stp l y := stp_mono HC.out Hx.out.1 hle Hy.out.2
    have hys : stp l y ≤ mostS l := (stp_in HC.out Hy.out.1 Hy.out.2).2
    have hzv : x ≤ z := volAt_le HC.out hvol Hx.out.2 (Int.le_refl _)
    have HU : Hid (z ≠ mostV l → (0 ≤ z + 1 ∧ z + 1 ≤ mostV l) ∧ stp l x < stp l (z + 1)) := by
      intro hz
      obtain ⟨⟨h1, h2⟩, h3, h4⟩ := hvol
      exact ⟨by omega, h4.resolve_left hz⟩
    have hz9 : 0 ≤ z ∧ z ≤ 1000000000 := ⟨hvol.1.1, Int.le_trans hvol.1.2 HN.out.2⟩
    clear hvol hb5
    by_cases hz : z = mostV l
    · have hzb : (z == mostV l) = true := by simp [hz]
      clear hz
      go_wp2
      go_ret
      exact ⟨rfl, HB5.out⟩
    · have hzb : (z == mostV l) = false := by simp [hz]
      have HZ : Hid (z ≠ mostV l) := hz
      clear hz
      go_wp2_with fail
      refine (steps_ok ao cap l (z + 1) w5 (HL.out.next HB5.out) HC.out (HU.out HZ.out).1.1 (HU.out HZ.out).1.2).mono ?_
      rintro e w6 ⟨rfl, hb6⟩
      have hlt : stp l x < stp l (z + 1) := (HU.out HZ.out).2
      go_wp2
      go_ret
      exact ⟨rfl, below_on HB5.out hb6⟩
  · have hgt : y < x := by omega
    replace hle : y ≤ x := by omega
    go_wp2_with fail
    refine (steps_ok ao cap l y w2 (HL.out.next HB2.out) HC.out Hy.out.1 Hy.out.2).mono ?_
    rintro e w3 ⟨rfl, hb3⟩
    have HB3 : Hid (Below w.heap.size w w3) := below_on HB2.out hb3
    clear hb3
    go_wp2_with fail
    refine (steps_ok ao cap l x w3 (HL.out.next HB3.out) HC.out Hx.out.1 Hx.out.2).mono ?_
    rintro e w4 ⟨rfl, hb4⟩
    have HB4 : Hid (Below w.heap.size w w4) := below_on HB3.out hb4
    clear hb4
    go_wp2_with fail
    have HI : Hid (0 ≤ stp l y ∧ stp l y ≤ mostS l) := stp_in HC.out Hy.out.1 Hy.out.2
    refine (volume_ok ao cap l (stp l y) w4 (HL.out.next HB4.out) HC.out HI.out.1 HI.out.2).mono ?_
    rintro e w5 ⟨z, rfl, hvol, hb5⟩
    have HV : Hid (VolAt l (stp l y) z) := hvol
    have HB5 : Hid (Below w.heap.size w w5) := below_on HB4.out hb5
    have hxy : stp l y ≤ stp l x := stp_mono HC.out Hy.out.1 hle Hx.out.2
    have hys : stp l x ≤ mostS l := (stp_in HC.out Hx.out.1 Hx.out.2).2
    have hzv : y ≤ z := volAt_le HC.out hvol Hy.out.2 (Int.le_refl _)
    have HU : Hid (z ≠ mostV l → (0 ≤ z + 1 ∧ z + 1 ≤ mostV l) ∧ stp l y < stp l (z + 1)) := by
      intro hz
      obtain ⟨⟨h1, h2⟩, h3, h4⟩ := hvol
      exact ⟨by omega, h4.resolve_left hz⟩
    have hz9 : 0 ≤ z ∧ z ≤ 1000000000 := ⟨hvol.1.1, Int.le_trans hvol.1.2 HN.out.2⟩
    clear hvol hb5
    by_cases hz : z = mostV l
    · have hzb : (z == mostV l) = true := by simp [hz]
      clear hz
      go_wp2
      go_ret
      exact ⟨rfl, HB5.out⟩
    · have hzb : (z == mostV l) = false := by simp [hz]
      have HZ : Hid (z ≠ mostV l) := hz
      clear hz
      go_wp2_with fail
      refine (steps_ok ao cap l (z + 1) w5 (HL.out.next HB5.out) HC.out (HU.out HZ.out).1.1 (HU.out HZ.out).1.2).mono ?_
      rintro e w6 ⟨rfl, hb6⟩
      have hlt : stp l y < stp l (z + 1) := (HU.out HZ.out).2
      go_wp2
      go_ret
      exact ⟨rfl, below_on HB5.out hb6⟩
theorem rises_any (ao : Option Addr) (cap : Nat) (l : List Kn) (a b : Int) (w : World) (hL : Kns w ao l) (hl : l.length ≤ 9223372036854775807) (ha : -9223372036854775808 ≤ a ∧ a ≤ 9223372036854775807) (hb : -9223372036854775808 ≤ b ∧ b ≤ 9223372036854775807) :
    Calls Try.prog 5 #[.slice ao l.length cap, .int .i64 a, .int .i64 b] w fun e w' => e = .returned (.bool true) ∧ Below w.heap.size w w' := by
  by_cases h : chk l = 0
  · exact rises_ok ao cap l a b w hL (chk_ok.1 h) ha hb
  · exact rises_bad ao cap l a b w hL hl h
end Go.Proofs.Yteamcgoemgailaa
