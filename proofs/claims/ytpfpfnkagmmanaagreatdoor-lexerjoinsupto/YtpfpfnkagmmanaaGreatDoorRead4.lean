/- unit.Read behind its digits, walked: a dot. -/
import Derived.Test.YtpfpfnkagmmanaaGreatDoorRead2
namespace Go.Proofs.YtpfpfnkagmmanaaGreatDoor
open Go.RowKit Go.Shelf

set_option maxHeartbeats 1600000 in
theorem read_dot_parts (l : List UInt8) (w : World) (hl : l.length ≤ maxLen) (hT : Lib.Utf8Tabs 1 2 w) (r0 wl r1 r2 fl r3 : List UInt8) (E0 : Hid (Lib.trimPrefix l [45] = r0)) (E1 : Hid (r0.takeWhile isDig = wl)) (E2 : Hid (r0.dropWhile isDig = r1)) (E3 : Hid (Lib.trimPrefix r1 [46] = r2)) (E4 : Hid (r2.takeWhile isDig = fl)) (E5 : Hid (r2.dropWhile isDig = r3)) (h1 : wl ≠ []) (hd : Lib.hasPrefix r1 [46] = true) (hf : fl ≠ []) (hf3 : fl.length ≤ 3) (hms : r3.length < 35184372088832) (hmm : (Lib.mapD plainF r3).length ≤ maxLen) (m : Int × Int × Int) (hn : meas (Lib.mapD plainF r3) = some m) (hv : thou wl fl * m.2.1 % 1000 ≠ 0) :
    Calls Tryz.prog 69 #[.string ⟨l.toArray⟩] w fun e w' => e = .returned (.tuple #[.agg #[.int .i64 0, .int .i64 0], .int .i64 2]) ∧ Below w.heap.size w w' := by
  have hl1 : r0.length ≤ maxLen := by rw [← E0.out]; exact Nat.le_trans (Lib.trimPrefix_le _ _) hl
  go_enter Tryz.func69, Tryz.ntmps69
  go_wp2_with fail
  refine (cutPrefixL l [45] _).mono ?_
  rintro e w1 ⟨rfl, rfl⟩
  rw [E0.out]
  go_wp2_with fail
  refine (cutDigitsL r0 _ hl1).mono ?_
  rintro e w1 ⟨rfl, hb⟩
  rw [E1.out, E2.out]
  have hR := (RBox.new w).next hb
  have hB : Below w.heap.size w w1 := ((Below.refl _ _).alloc (Nat.le_refl _) _).trans (hb.mono (by simp))
  clear hb
  have hwn1 : (wl == []) = false := by simp [h1]
  have hwn2 : wl.isEmpty = false := by simp [h1]
  have HD : Hid (∀ b ∈ wl, isDig b = true) := by rw [← E1.out]; exact take_all
  have hl2 : r1.length ≤ maxLen := by rw [← E2.out]; have := split_len r0; omega
  clear h1
  have hl3 : (Lib.trimPrefix r1 [46]).length ≤ maxLen := Nat.le_trans (Lib.trimPrefix_le _ _) hl2
  go_wp2_with fail
  refine (cutPrefixL r1 [46] _).mono ?_
  rintro e w2 ⟨rfl, rfl⟩
  rw [hd]
  rw [E3.out] at hl3 ⊢
  go_wp2_with fail
  refine (cutDigitsL r2 _ hl3).mono ?_
  rintro e w2 ⟨rfl, hb⟩
  rw [E4.out, E5.out]
  have hR := hR.next hb
  have hB := hB.trans (hb.mono hB.size)
  clear hb
  have hfn1 : (fl == []) = false := by simp [hf]
  have hfn2 : fl.isEmpty = false := by simp [hf]
  have HF : Hid (∀ b ∈ fl, isDig b = true) := by rw [← E4.out]; exact take_all
  clear hf
  go_wp2_with fail
  refine (measureOfL r3 _ hms (tabs_next hT hB) hmm).mono ?_
  rintro e w3 ⟨rfl, hb⟩
  have hR := hR.next hb
  have hB := hB.trans (hb.mono hB.size)
  clear hb
  have hq : measQ r3 = m := by unfold measQ; rw [hn]; rfl
  obtain ⟨⟨k0, k5⟩, ⟨s0, s9⟩, d0, d9⟩ := meas_in hn
  rw [hn, hq]
  clear hn hq hmm hms hT
  have hM := MBox.new w3 m.1 m.2.1 m.2.2
  have hR := hR.next ((Below.refl _ _).alloc (Nat.le_refl _) (.cells #[.int .i64 m.1, .int .i64 m.2.1, .int .i64 m.2.2] 112))
  have hB := hB.alloc hB.size (.cells #[.int .i64 m.1, .int .i64 m.2.1, .int .i64 m.2.2] 112)
  obtain ⟨ht0, ht9⟩ := thou_in wl fl HD.out HF.out
  obtain ⟨hv0, hv9⟩ := mul_in2 ht0 ht9 s0 s9
  go_wp2
  go_region_with (go_at_call 81; refine (thousandthsL wl fl _ HD.out HF.out hf3).mono ?_; rintro e w4 ⟨rfl, hb4⟩; have hm4 : w4.cell? ⟨w3.heap.size, 1, none⟩ = some (.int .i64 m.2.1) := (hb4.cell (p := ⟨w3.heap.size, 1, none⟩) (by simp)).trans (by go_simp))
  all_goals
    replace hb4 := below_undrew hb4
    have hR4 : RBox w4 w.heap.size := RBox.next ⟨hR.c0, hR.c1, hR.f0, hR.f1, hR.lt⟩ hb4
    have hM4 : MBox w4 w3.heap.size m.1 m.2.1 m.2.2 := MBox.next ⟨hM.c0, hM.c1, hM.c2, hM.lt⟩ hb4
    have hB4 : Below w.heap.size w w4 := Below.trans ⟨hB.os, hB.tape, hB.output, hB.size, hB.block⟩ (hb4.mono hB.size)
    clear hb4 hR hM hB
    obtain ⟨c0, c1, f0, f1, _⟩ := hR4
    obtain ⟨m0, m1, m2, _⟩ := hM4
    have hg1 : (thou wl fl * m.2.1 % 1000 == 0) = false := by simp [hv]
    have hg2 : (thou wl fl * m.2.1 % 1000 != 0) = true := by simp [hv]
    clear hv
    go_wp2
    refine bodyPost_ret (v := (.tuple #[.agg #[.int .i64 0, .int .i64 0], .int .i64 2])) (by simp [results, Tryz.results69, go_sem, c0, c1]) rfl ⟨rfl, below_res hB4⟩

set_option maxHeartbeats 1600000 in
theorem read_dot_pos (l : List UInt8) (w : World) (hl : l.length ≤ maxLen) (hT : Lib.Utf8Tabs 1 2 w) (r0 wl r1 r2 fl r3 : List UInt8) (E0 : Hid (Lib.trimPrefix l [45] = r0)) (E1 : Hid (r0.takeWhile isDig = wl)) (E2 : Hid (r0.dropWhile isDig = r1)) (E3 : Hid (Lib.trimPrefix r1 [46] = r2)) (E4 : Hid (r2.takeWhile isDig = fl)) (E5 : Hid (r2.dropWhile isDig = r3)) (h1 : wl ≠ []) (hd : Lib.hasPrefix r1 [46] = true) (hf : fl ≠ []) (hf3 : fl.length ≤ 3) (hms : r3.length < 35184372088832) (hmm : (Lib.mapD plainF r3).length ≤ maxLen) (m : Int × Int × Int) (hn : meas (Lib.mapD plainF r3) = some m) (hv : thou wl fl * m.2.1 % 1000 = 0) (hneg : Lib.hasPrefix l [45] = false) :
    Calls Tryz.prog 69 #[.string ⟨l.toArray⟩] w fun e w' => e = .returned (.tuple #[.agg #[.int .i64 (mkQ m.1 (thou wl fl * m.2.1 / 1000 + m.2.2)).1, .int .i64 (mkQ m.1 (thou wl fl * m.2.1 / 1000 + m.2.2)).2.1], .int .i64 (mkQ m.1 (thou wl fl * m.2.1 / 1000 + m.2.2)).2.2]) ∧ Below w.heap.size w w' := by
  have hl1 : r0.length ≤ maxLen := by rw [← E0.out]; exact Nat.le_trans (Lib.trimPrefix_le _ _) hl
  go_enter Tryz.func69, Tryz.ntmps69
  go_wp2_with fail
  refine (cutPrefixL l [45] _).mono ?_
  rintro e w1 ⟨rfl, rfl⟩
  rw [E0.out]
  go_wp2_with fail
  refine (cutDigitsL r0 _ hl1).mono ?_
  rintro e w1 ⟨rfl, hb⟩
  rw [E1.out, E2.out]
  have hR := (RBox.new w).next hb
  have hB : Below w.heap.size w w1 := ((Below.refl _ _).alloc (Nat.le_refl _) _).trans (hb.mono (by simp))
  clear hb
  have hwn1 : (wl == []) = false := by simp [h1]
  have hwn2 : wl.isEmpty = false := by simp [h1]
  have HD : Hid (∀ b ∈ wl, isDig b = true) := by rw [← E1.out]; exact take_all
  have hl2 : r1.length ≤ maxLen := by rw [← E2.out]; have := split_len r0; omega
  clear h1
  have hl3 : (Lib.trimPrefix r1 [46]).length ≤ maxLen := Nat.le_trans (Lib.trimPrefix_le _ _) hl2
  go_wp2_with fail
  refine (cutPrefixL r1 [46] _).mono ?_
  rintro e w2 ⟨rfl, rfl⟩
  rw [hd]
  rw [E3.out] at hl3 ⊢
  go_wp2_with fail
  refine (cutDigitsL r2 _ hl3).mono ?_
  rintro e w2 ⟨rfl, hb⟩
  rw [E4.out, E5.out]
  have hR := hR.next hb
  have hB := hB.trans (hb.mono hB.size)
  clear hb
  have hfn1 : (fl == []) = false := by simp [hf]
  have hfn2 : fl.isEmpty = false := by simp [hf]
  have HF : Hid (∀ b ∈ fl, isDig b = true) := by rw [← E4.out]; exact take_all
  clear hf
  go_wp2_with fail
  refine (measureOfL r3 _ hms (tabs_next hT hB) hmm).mono ?_
  rintro e w3 ⟨rfl, hb⟩
  have hR := hR.next hb
  have hB := hB.trans (hb.mono hB.size)
  clear hb
  have hq : measQ r3 = m := by unfold measQ; rw [hn]; rfl
  obtain ⟨⟨k0, k5⟩, ⟨s0, s9⟩, d0, d9⟩ := meas_in hn
  rw [hn, hq]
  clear hn hq hmm hms hT
  have hM := MBox.new w3 m.1 m.2.1 m.2.2
  have hR := hR.next ((Below.refl _ _).alloc (Nat.le_refl _) (.cells #[.int .i64 m.1, .int .i64 m.2.1, .int .i64 m.2.2] 112))
  have hB := hB.alloc hB.size (.cells #[.int .i64 m.1, .int .i64 m.2.1, .int .i64 m.2.2] 112)
  obtain ⟨ht0, ht9⟩ := thou_in wl fl HD.out HF.out
  obtain ⟨hv0, hv9⟩ := mul_in2 ht0 ht9 s0 s9
  go_wp2
  go_region_with (go_at_call 81; refine (thousandthsL wl fl _ HD.out HF.out hf3).mono ?_; rintro e w4 ⟨rfl, hb4⟩; have hm4 : w4.cell? ⟨w3.heap.size, 1, none⟩ = some (.int .i64 m.2.1) := (hb4.cell (p := ⟨w3.heap.size, 1, none⟩) (by simp)).trans (by go_simp))
  all_goals
    replace hb4 := below_undrew hb4
    have hR4 : RBox w4 w.heap.size := RBox.next ⟨hR.c0, hR.c1, hR.f0, hR.f1, hR.lt⟩ hb4
    have hM4 : MBox w4 w3.heap.size m.1 m.2.1 m.2.2 := MBox.next ⟨hM.c0, hM.c1, hM.c2, hM.lt⟩ hb4
    have hB4 : Below w.heap.size w w4 := Below.trans ⟨hB.os, hB.tape, hB.output, hB.size, hB.block⟩ (hb4.mono hB.size)
    clear hb4 hR hM hB
    obtain ⟨c0, c1, f0, f1, _⟩ := hR4
    obtain ⟨m0, m1, m2, _⟩ := hM4
    have hg1 : (thou wl fl * m.2.1 % 1000 == 0) = true := by simp [hv]
    have hg2 : (thou wl fl * m.2.1 % 1000 != 0) = false := by simp [hv]
    clear hv
    obtain ⟨n0, n9⟩ := pos_in hv0 hv9
    go_wp2_with fail
    refine (quantity_any m.1 (thou wl fl * m.2.1 / 1000 + m.2.2) _).mono ?_
    rintro e w5 ⟨rfl, hb5⟩
    have hR5 : RBox w5 w.heap.size := RBox.next ⟨c0, c1, f0, f1, by assumption⟩ hb5
    have hB5 := hB4.trans (hb5.mono hB4.size)
    clear c0 c1 f0 f1 hb5
    obtain ⟨c0, c1, f0, f1, _⟩ := hR5
    go_wp2
    refine bodyPost_ret (v := (.tuple #[.agg #[.int .i64 (mkQ m.1 (thou wl fl * m.2.1 / 1000 + m.2.2)).1, .int .i64 (mkQ m.1 (thou wl fl * m.2.1 / 1000 + m.2.2)).2.1], .int .i64 (mkQ m.1 (thou wl fl * m.2.1 / 1000 + m.2.2)).2.2])) (by simp [results, Tryz.results69, go_sem, c0, c1]) rfl ⟨rfl, below_res hB5⟩

set_option maxHeartbeats 1600000 in
theorem read_dot_neg (l : List UInt8) (w : World) (hl : l.length ≤ maxLen) (hT : Lib.Utf8Tabs 1 2 w) (r0 wl r1 r2 fl r3 : List UInt8) (E0 : Hid (Lib.trimPrefix l [45] = r0)) (E1 : Hid (r0.takeWhile isDig = wl)) (E2 : Hid (r0.dropWhile isDig = r1)) (E3 : Hid (Lib.trimPrefix r1 [46] = r2)) (E4 : Hid (r2.takeWhile isDig = fl)) (E5 : Hid (r2.dropWhile isDig = r3)) (h1 : wl ≠ []) (hd : Lib.hasPrefix r1 [46] = true) (hf : fl ≠ []) (hf3 : fl.length ≤ 3) (hms : r3.length < 35184372088832) (hmm : (Lib.mapD plainF r3).length ≤ maxLen) (m : Int × Int × Int) (hn : meas (Lib.mapD plainF r3) = some m) (hv : thou wl fl * m.2.1 % 1000 = 0) (hneg : Lib.hasPrefix l [45] = true) :
    Calls Tryz.prog 69 #[.string ⟨l.toArray⟩] w fun e w' => e = .returned (.tuple #[.agg #[.int .i64 (mkQ m.1 (-((thou wl fl * m.2.1).tdiv 1000) + m.2.2)).1, .int .i64 (mkQ m.1 (-((thou wl fl * m.2.1).tdiv 1000) + m.2.2)).2.1], .int .i64 (mkQ m.1 (-((thou wl fl * m.2.1).tdiv 1000) + m.2.2)).2.2]) ∧ Below w.heap.size w w' := by
  have hl1 : r0.length ≤ maxLen := by rw [← E0.out]; exact Nat.le_trans (Lib.trimPrefix_le _ _) hl
  go_enter Tryz.func69, Tryz.ntmps69
  go_wp2_with fail
  refine (cutPrefixL l [45] _).mono ?_
  rintro e w1 ⟨rfl, rfl⟩
  rw [E0.out]
  go_wp2_with fail
  refine (cutDigitsL r0 _ hl1).mono ?_
  rintro e w1 ⟨rfl, hb⟩
  rw [E1.out, E2.out]
  have hR := (RBox.new w).next hb
  have hB : Below w.heap.size w w1 := ((Below.refl _ _).alloc (Nat.le_refl _) _).trans (hb.mono (by simp))
  clear hb
  have hwn1 : (wl == []) = false := by simp [h1]
  have hwn2 : wl.isEmpty = false := by simp [h1]
  have HD : Hid (∀ b ∈ wl, isDig b = true) := by rw [← E1.out]; exact take_all
  have hl2 : r1.length ≤ maxLen := by rw [← E2.out]; have := split_len r0; omega
  clear h1
  have hl3 : (Lib.trimPrefix r1 [46]).length ≤ maxLen := Nat.le_trans (Lib.trimPrefix_le _ _) hl2
  go_wp2_with fail
  refine (cutPrefixL r1 [46] _).mono ?_
  rintro e w2 ⟨rfl, rfl⟩
  rw [hd]
  rw [E3.out] at hl3 ⊢
  go_wp2_with fail
  refine (cutDigitsL r2 _ hl3).mono ?_
  rintro e w2 ⟨rfl, hb⟩
  rw [E4.out, E5.out]
  have hR := hR.next hb
  have hB := hB.trans (hb.mono hB.size)
  clear hb
  have hfn1 : (fl == []) = false := by simp [hf]
  have hfn2 : fl.isEmpty = false := by simp [hf]
  have HF : Hid (∀ b ∈ fl, isDig b = true) := by rw [← E4.out]; exact take_all
  clear hf
  go_wp2_with fail
  refine (measureOfL r3 _ hms (tabs_next hT hB) hmm).mono ?_
  rintro e w3 ⟨rfl, hb⟩
  have hR := hR.next hb
  have hB := hB.trans (hb.mono hB.size)
  clear hb
  have hq : measQ r3 = m := by unfold measQ; rw [hn]; rfl
  obtain ⟨⟨k0, k5⟩, ⟨s0, s9⟩, d0, d9⟩ := meas_in hn
  rw [hn, hq]
  clear hn hq hmm hms hT
  have hM := MBox.new w3 m.1 m.2.1 m.2.2
  have hR := hR.next ((Below.refl _ _).alloc (Nat.le_refl _) (.cells #[.int .i64 m.1, .int .i64 m.2.1, .int .i64 m.2.2] 112))
  have hB := hB.alloc hB.size (.cells #[.int .i64 m.1, .int .i64 m.2.1, .int .i64 m.2.2] 112)
  obtain ⟨ht0, ht9⟩ := thou_in wl fl HD.out HF.out
  obtain ⟨hv0, hv9⟩ := mul_in2 ht0 ht9 s0 s9
  go_wp2
  go_region_with (go_at_call 81; refine (thousandthsL wl fl _ HD.out HF.out hf3).mono ?_; rintro e w4 ⟨rfl, hb4⟩; have hm4 : w4.cell? ⟨w3.heap.size, 1, none⟩ = some (.int .i64 m.2.1) := (hb4.cell (p := ⟨w3.heap.size, 1, none⟩) (by simp)).trans (by go_simp))
  all_goals
    replace hb4 := below_undrew hb4
    have hR4 : RBox w4 w.heap.size := RBox.next ⟨hR.c0, hR.c1, hR.f0, hR.f1, hR.lt⟩ hb4
    have hM4 : MBox w4 w3.heap.size m.1 m.2.1 m.2.2 := MBox.next ⟨hM.c0, hM.c1, hM.c2, hM.lt⟩ hb4
    have hB4 : Below w.heap.size w w4 := Below.trans ⟨hB.os, hB.tape, hB.output, hB.size, hB.block⟩ (hb4.mono hB.size)
    clear hb4 hR hM hB
    obtain ⟨c0, c1, f0, f1, _⟩ := hR4
    obtain ⟨m0, m1, m2, _⟩ := hM4
    have hg1 : (thou wl fl * m.2.1 % 1000 == 0) = true := by simp [hv]
    have hg2 : (thou wl fl * m.2.1 % 1000 != 0) = false := by simp [hv]
    clear hv
    obtain ⟨n0, n9⟩ := neg_in hv0 hv9
    go_wp2_with fail
    refine (quantity_any m.1 (-((thou wl fl * m.2.1).tdiv 1000) + m.2.2) _).mono ?_
    rintro e w5 ⟨rfl, hb5⟩
    have hR5 : RBox w5 w.heap.size := RBox.next ⟨c0, c1, f0, f1, by assumption⟩ hb5
    have hB5 := hB4.trans (hb5.mono hB4.size)
    clear c0 c1 f0 f1 hb5
    obtain ⟨c0, c1, f0, f1, _⟩ := hR5
    go_wp2
    refine bodyPost_ret (v := (.tuple #[.agg #[.int .i64 (mkQ m.1 (-((thou wl fl * m.2.1).tdiv 1000) + m.2.2)).1, .int .i64 (mkQ m.1 (-((thou wl fl * m.2.1).tdiv 1000) + m.2.2)).2.1], .int .i64 (mkQ m.1 (-((thou wl fl * m.2.1).tdiv 1000) + m.2.2)).2.2])) (by simp [results, Tryz.results69, go_sem, c0, c1]) rfl ⟨rfl, below_res hB5⟩

end Go.Proofs.YtpfpfnkagmmanaaGreatDoor
