/- unit.Read behind its digits, walked. -/
import Derived.Test.YtpfpfnkagmmanaaGreatDoorRead
namespace Go.Proofs.YtpfpfnkagmmanaaGreatDoor
open Go.RowKit Go.Shelf

/-- Two stores into one box, read again behind a new block. -/
theorem box2 {w : World} {b : Nat} {u0 u1 : Value} (c0 : w.cell? ⟨b, 0, none⟩ = some u0) (c1 : w.cell? ⟨b, 1, none⟩ = some u1) (x y : Value) (o : Obj) :
    (((w.setCell ⟨b, 0, none⟩ x).setCell ⟨b, 1, none⟩ y).alloc o).cell? ⟨b, 0, none⟩ = some x ∧
    (((w.setCell ⟨b, 0, none⟩ x).setCell ⟨b, 1, none⟩ y).alloc o).cell? ⟨b, 1, none⟩ = some y := by
  have hb := (Below.refl ((w.setCell ⟨b, 0, none⟩ x).setCell ⟨b, 1, none⟩ y).heap.size ((w.setCell ⟨b, 0, none⟩ x).setCell ⟨b, 1, none⟩ y)).alloc (Nat.le_refl _) o
  refine ⟨cell_later hb ?_, cell_later hb ?_⟩
  all_goals simp [go_sem, c0, c1]
theorem below_alloc {w w1 : World} {u0 u1 : Value} (h : Below w.heap.size w w1) (o : Obj) : Below w.heap.size w (((w1.setCell ⟨w.heap.size, 0, none⟩ u0).setCell ⟨w.heap.size, 1, none⟩ u1).alloc o) :=
  (below_res h).alloc (by have := h.size; simp [World.setCell]; omega) _

theorem below_undrew {b : Nat} {w w1 : World} (h : Below b w.drew w1) : Below b w w1 := ⟨h.os, h.tape, h.output, h.size, h.block⟩
theorem neg_in {v : Int} (h0 : 0 ≤ v) (h9 : v ≤ 7200000003596400000) : 0 ≤ v.tdiv 1000 ∧ v.tdiv 1000 ≤ 7200000003596400 := by
  rw [Int.tdiv_eq_ediv_of_nonneg h0]; omega
theorem pos_in {v : Int} (h0 : 0 ≤ v) (h9 : v ≤ 7200000003596400000) : 0 ≤ v / 1000 ∧ v / 1000 ≤ 7200000003596400 := by omega
theorem units_in : ∀ u ∈ units, (0 ≤ u.2.1 ∧ u.2.1 ≤ 5) ∧ (1 ≤ u.2.2.1 ∧ u.2.2.1 ≤ 3600000) ∧ 0 ≤ u.2.2.2 ∧ u.2.2.2 ≤ 273150 := by decide
theorem meas_in {n : List UInt8} {m : Int × Int × Int} (h : meas n = some m) : (0 ≤ m.1 ∧ m.1 ≤ 5) ∧ (1 ≤ m.2.1 ∧ m.2.1 ≤ 3600000) ∧ 0 ≤ m.2.2 ∧ m.2.2 ≤ 273150 := by
  unfold meas at h
  obtain ⟨u, hu, rfl⟩ := Option.map_eq_some_iff.1 h
  exact units_in u (List.mem_of_find?_eq_some hu)
theorem mul_in2 {a b : Int} (h0 : 0 ≤ a) (h1 : a ≤ 2000000000999) (h2 : 1 ≤ b) (h3 : b ≤ 3600000) : 0 ≤ a * b ∧ a * b ≤ 7200000003596400000 := by
  refine ⟨Int.mul_nonneg h0 (by omega), ?_⟩
  have k1 : a * b ≤ a * 3600000 := Int.mul_le_mul_of_nonneg_left h3 h0
  omega

set_option maxHeartbeats 1600000 in
theorem read_plain_noUnit (l : List UInt8) (w : World) (hl : l.length ≤ maxLen) (hT : Lib.Utf8Tabs 1 2 w) (h1 : ((Lib.trimPrefix l [45]).takeWhile isDig) ≠ []) (hd : Lib.hasPrefix ((Lib.trimPrefix l [45]).dropWhile isDig) [46] = false) (hms : ((Lib.trimPrefix l [45]).dropWhile isDig).length < 35184372088832) (hmm : (Lib.mapD plainF ((Lib.trimPrefix l [45]).dropWhile isDig)).length ≤ maxLen) (hn : meas (Lib.mapD plainF ((Lib.trimPrefix l [45]).dropWhile isDig)) = none) :
    Calls Tryz.prog 69 #[.string ⟨l.toArray⟩] w fun e w' => e = .returned (.tuple #[.agg #[.int .i64 0, .int .i64 0], .int .i64 1]) ∧ Below w.heap.size w w' := by
  have hl1 : (Lib.trimPrefix l [45]).length ≤ maxLen := Nat.le_trans (Lib.trimPrefix_le _ _) hl
  go_enter Tryz.func69, Tryz.ntmps69
  go_wp2_with fail
  refine (cutPrefixL l [45] _).mono ?_
  rintro e w1 ⟨rfl, rfl⟩
  generalize Lib.trimPrefix l [45] = r0 at *
  go_wp2_with fail
  refine (cutDigitsL r0 _ hl1).mono ?_
  rintro e w1 ⟨rfl, hb⟩
  have hR := (RBox.new w).next hb
  have hB : Below w.heap.size w w1 := ((Below.refl _ _).alloc (Nat.le_refl _) _).trans (hb.mono (by simp))
  clear hb
  have hwn1 : ((r0.takeWhile isDig) == []) = false := by simp [h1]
  have hwn2 : (r0.takeWhile isDig).isEmpty = false := by simp [h1]
  have HD : Hid (∀ b ∈ r0.takeWhile isDig, isDig b = true) := take_all
  have hl2 : (r0.dropWhile isDig).length ≤ maxLen := by have := split_len r0; omega
  generalize r0.takeWhile isDig = wl at *
  generalize r0.dropWhile isDig = r1 at *
  clear h1
  have hl3 : (Lib.trimPrefix r1 [46]).length ≤ maxLen := Nat.le_trans (Lib.trimPrefix_le _ _) hl2
  go_wp2_with fail
  refine (cutPrefixL r1 [46] _).mono ?_
  rintro e w2 ⟨rfl, rfl⟩
  rw [hd]
  go_wp2_with fail
  refine (measureOfL r1 _ hms (tabs_next hT hB) hmm).mono ?_
  rintro e w3 ⟨rfl, hb⟩
  have hR := hR.next hb
  have hB := hB.trans (hb.mono hB.size)
  clear hb
  rw [hn]
  obtain ⟨c0, c1, f0, f1, lt⟩ := hR
  go_wp2
  obtain ⟨e0, e1⟩ := box2 c0 c1 (.int .i64 0) (.int .i64 0) (.cells #[.int .i64 (measQ r1).1, .int .i64 (measQ r1).2.1, .int .i64 (measQ r1).2.2] 112)
  refine bodyPost_ret (v := (.tuple #[.agg #[.int .i64 0, .int .i64 0], .int .i64 1])) (by simp [results, Tryz.results69, go_sem, e0, e1]) rfl ⟨rfl, below_alloc hB _⟩

set_option maxHeartbeats 1600000 in
theorem read_dot_noUnit (l : List UInt8) (w : World) (hl : l.length ≤ maxLen) (hT : Lib.Utf8Tabs 1 2 w) (h1 : ((Lib.trimPrefix l [45]).takeWhile isDig) ≠ []) (hd : Lib.hasPrefix ((Lib.trimPrefix l [45]).dropWhile isDig) [46] = true) (hf : ((Lib.trimPrefix ((Lib.trimPrefix l [45]).dropWhile isDig) [46]).takeWhile isDig) ≠ []) (hf3 : ((Lib.trimPrefix ((Lib.trimPrefix l [45]).dropWhile isDig) [46]).takeWhile isDig).length ≤ 3) (hms : ((Lib.trimPrefix ((Lib.trimPrefix l [45]).dropWhile isDig) [46]).dropWhile isDig).length < 35184372088832) (hmm : (Lib.mapD plainF ((Lib.trimPrefix ((Lib.trimPrefix l [45]).dropWhile isDig) [46]).dropWhile isDig)).length ≤ maxLen) (hn : meas (Lib.mapD plainF ((Lib.trimPrefix ((Lib.trimPrefix l [45]).dropWhile isDig) [46]).dropWhile isDig)) = none) :
    Calls Tryz.prog 69 #[.string ⟨l.toArray⟩] w fun e w' => e = .returned (.tuple #[.agg #[.int .i64 0, .int .i64 0], .int .i64 1]) ∧ Below w.heap.size w w' := by
  have hl1 : (Lib.trimPrefix l [45]).length ≤ maxLen := Nat.le_trans (Lib.trimPrefix_le _ _) hl
  go_enter Tryz.func69, Tryz.ntmps69
  go_wp2_with fail
  refine (cutPrefixL l [45] _).mono ?_
  rintro e w1 ⟨rfl, rfl⟩
  generalize Lib.trimPrefix l [45] = r0 at *
  go_wp2_with fail
  refine (cutDigitsL r0 _ hl1).mono ?_
  rintro e w1 ⟨rfl, hb⟩
  have hR := (RBox.new w).next hb
  have hB : Below w.heap.size w w1 := ((Below.refl _ _).alloc (Nat.le_refl _) _).trans (hb.mono (by simp))
  clear hb
  have hwn1 : ((r0.takeWhile isDig) == []) = false := by simp [h1]
  have hwn2 : (r0.takeWhile isDig).isEmpty = false := by simp [h1]
  have HD : Hid (∀ b ∈ r0.takeWhile isDig, isDig b = true) := take_all
  have hl2 : (r0.dropWhile isDig).length ≤ maxLen := by have := split_len r0; omega
  generalize r0.takeWhile isDig = wl at *
  generalize r0.dropWhile isDig = r1 at *
  clear h1
  have hl3 : (Lib.trimPrefix r1 [46]).length ≤ maxLen := Nat.le_trans (Lib.trimPrefix_le _ _) hl2
  go_wp2_with fail
  refine (cutPrefixL r1 [46] _).mono ?_
  rintro e w2 ⟨rfl, rfl⟩
  rw [hd]
  generalize Lib.trimPrefix r1 [46] = r2 at *
  go_wp2_with fail
  refine (cutDigitsL r2 _ hl3).mono ?_
  rintro e w2 ⟨rfl, hb⟩
  have hR := hR.next hb
  have hB := hB.trans (hb.mono hB.size)
  clear hb
  have hfn1 : ((r2.takeWhile isDig) == []) = false := by simp [hf]
  have hfn2 : (r2.takeWhile isDig).isEmpty = false := by simp [hf]
  have HF : Hid (∀ b ∈ r2.takeWhile isDig, isDig b = true) := take_all
  generalize r2.takeWhile isDig = fl at *
  generalize r2.dropWhile isDig = r3 at *
  clear hf
  go_wp2_with fail
  refine (measureOfL r3 _ hms (tabs_next hT hB) hmm).mono ?_
  rintro e w3 ⟨rfl, hb⟩
  have hR := hR.next hb
  have hB := hB.trans (hb.mono hB.size)
  clear hb
  rw [hn]
  obtain ⟨c0, c1, f0, f1, lt⟩ := hR
  go_wp2
  obtain ⟨e0, e1⟩ := box2 c0 c1 (.int .i64 0) (.int .i64 0) (.cells #[.int .i64 (measQ r3).1, .int .i64 (measQ r3).2.1, .int .i64 (measQ r3).2.2] 112)
  refine bodyPost_ret (v := (.tuple #[.agg #[.int .i64 0, .int .i64 0], .int .i64 1])) (by simp [results, Tryz.results69, go_sem, e0, e1]) rfl ⟨rfl, below_alloc hB _⟩

end Go.Proofs.YtpfpfnkagmmanaaGreatDoor
