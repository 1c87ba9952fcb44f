/- unit.Read, walked. -/
import Derived.Test.YtpfpfnkagmmanaaGreatDoorThou
import Derived.Test.YtpfpfnkagmmanaaGreatDoorMeas2
import Derived.Deep.RegionWith
namespace Go.Proofs.YtpfpfnkagmmanaaGreatDoor
open Go.RowKit Go.Shelf

theorem len_arr (l : List UInt8) : (⟨l.toArray⟩ : ByteArray).size = l.length := by rw [Lib.size_eq]
theorem cutPrefixL (l p : List UInt8) (w : World) :
    Calls Tryz.prog 64 #[.string ⟨l.toArray⟩, .string ⟨p.toArray⟩] w fun e w' => e = .returned (.tuple #[.string ⟨(Lib.trimPrefix l p).toArray⟩, .bool (Lib.hasPrefix l p)]) ∧ w' = w :=
  cutPrefix ⟨l.toArray⟩ ⟨p.toArray⟩ w
theorem cutDigitsL (l : List UInt8) (w : World) (h : l.length ≤ maxLen) :
    Calls Tryz.prog 79 #[.string ⟨l.toArray⟩] w fun e w' => e = .returned (.tuple #[.string ⟨(l.takeWhile isDig).toArray⟩, .string ⟨(l.dropWhile isDig).toArray⟩]) ∧ Below w.heap.size w w' :=
  cutDigits ⟨l.toArray⟩ w (by rw [len_arr]; exact h)
theorem thousandthsL (l f : List UInt8) (w : World) (hs : ∀ b ∈ l, isDig b = true) (hf : ∀ b ∈ f, isDig b = true) (hfz : f.length ≤ 3) :
    Calls Tryz.prog 81 #[.string ⟨l.toArray⟩, .string ⟨f.toArray⟩] w fun e w' => e = .returned (.int .i64 (thou l f)) ∧ Below w.heap.size w w' :=
  thousandths ⟨l.toArray⟩ ⟨f.toArray⟩ w hs hf (by rw [len_arr]; exact hfz)
theorem measureOfL (l : List UInt8) (w : World) (hs : l.length < 35184372088832) (hT : Lib.Utf8Tabs 1 2 w) (hm : (Lib.mapD plainF l).length ≤ maxLen) :
    Calls Tryz.prog 80 #[.string ⟨l.toArray⟩] w fun e w' => e = .returned (.tuple #[.agg #[.int .i64 (measQ l).1, .int .i64 (measQ l).2.1, .int .i64 (measQ l).2.2], .bool (meas (Lib.mapD plainF l)).isSome]) ∧ Below w.heap.size w w' :=
  measureOf ⟨l.toArray⟩ w (by rw [len_arr]; exact hs) hT hm

/-- The result's box. -/
structure RBox (w : World) (b : Nat) : Prop where
  c0 : w.cell? ⟨b, 0, none⟩ = some (.int .i64 0)
  c1 : w.cell? ⟨b, 1, none⟩ = some (.int .i64 0)
  f0 : w.frozen? ⟨b, 0, none⟩ = false
  f1 : w.frozen? ⟨b, 1, none⟩ = false
  lt : b < w.heap.size
theorem RBox.new (w : World) : RBox (w.alloc (.cells #[.int .i64 0, .int .i64 0] 64)) w.heap.size := by
  constructor <;> (first | go_simp | simp)
theorem RBox.next {w w1 : World} {b : Nat} (h : RBox w b) (hb : Below w.heap.size w w1) : RBox w1 b := by
  obtain ⟨hc, hf⟩ := bcell hb
  exact ⟨(hc _ _ h.lt).trans h.c0, (hc _ _ h.lt).trans h.c1, (hf _ _ h.lt).trans h.f0, (hf _ _ h.lt).trans h.f1, Nat.lt_of_lt_of_le h.lt hb.size⟩
/-- The measure's box. -/
structure MBox (w : World) (b : Nat) (x y z : Int) : Prop where
  c0 : w.cell? ⟨b, 0, none⟩ = some (.int .i64 x)
  c1 : w.cell? ⟨b, 1, none⟩ = some (.int .i64 y)
  c2 : w.cell? ⟨b, 2, none⟩ = some (.int .i64 z)
  lt : b < w.heap.size
theorem MBox.new (w : World) (x y z : Int) : MBox (w.alloc (.cells #[.int .i64 x, .int .i64 y, .int .i64 z] 112)) w.heap.size x y z := by
  constructor <;> (first | go_simp | simp)
theorem MBox.next {w w1 : World} {b : Nat} {x y z : Int} (h : MBox w b x y z) (hb : Below w.heap.size w w1) : MBox w1 b x y z := by
  obtain ⟨hc, _⟩ := bcell hb
  exact ⟨(hc _ _ h.lt).trans h.c0, (hc _ _ h.lt).trans h.c1, (hc _ _ h.lt).trans h.c2, Nat.lt_of_lt_of_le h.lt hb.size⟩
/-- Two stores into the result's box. -/
theorem below_res {w w1 : World} {u0 u1 : Value} (h : Below w.heap.size w w1) : Below w.heap.size w ((w1.setCell ⟨w.heap.size, 0, none⟩ u0).setCell ⟨w.heap.size, 1, none⟩ u1) :=
  (h.setCell (Nat.le_refl _) _).setCell (Nat.le_refl _) _

set_option maxHeartbeats 1600000 in
theorem read_noDigits (l : List UInt8) (w : World) (hl : l.length ≤ maxLen) (h1 : (Lib.trimPrefix l [45]).takeWhile isDig = []) :
    Calls Tryz.prog 69 #[.string ⟨l.toArray⟩] w fun e w' => e = .returned (.tuple #[.agg #[.int .i64 0, .int .i64 0], .int .i64 1]) ∧ Below w.heap.size w w' := by
  have hl1 : (Lib.trimPrefix l [45]).length ≤ maxLen := Nat.le_trans (Lib.trimPrefix_le _ _) hl
  go_enter Tryz.func69, Tryz.ntmps69
  go_wp2_with fail
  refine (cutPrefixL l [45] _).mono ?_
  rintro e w1 ⟨rfl, rfl⟩
  generalize Lib.trimPrefix l [45] = r0 at *
  go_wp2_with fail
  refine (cutDigitsL r0 _ hl1).mono ?_
  rintro e w1 ⟨rfl, hb⟩
  have hR := (RBox.new w).next hb
  have hB : Below w.heap.size w w1 := ((Below.refl _ _).alloc (Nat.le_refl _) _).trans (hb.mono (by simp))
  clear hb
  obtain ⟨c0, c1, f0, f1, _⟩ := hR
  go_wp2
  refine bodyPost_ret (v := (.tuple #[.agg #[.int .i64 0, .int .i64 0], .int .i64 1])) (by simp [results, Tryz.results69, go_sem, c0, c1]) rfl ⟨rfl, below_res hB⟩

set_option maxHeartbeats 1600000 in
theorem read_noFraction (l : List UInt8) (w : World) (hl : l.length ≤ maxLen) (h1 : (Lib.trimPrefix l [45]).takeWhile isDig ≠ []) (hd : Lib.hasPrefix ((Lib.trimPrefix l [45]).dropWhile isDig) [46] = true) (hf : (Lib.trimPrefix ((Lib.trimPrefix l [45]).dropWhile isDig) [46]).takeWhile isDig = []) :
    Calls Tryz.prog 69 #[.string ⟨l.toArray⟩] w fun e w' => e = .returned (.tuple #[.agg #[.int .i64 0, .int .i64 0], .int .i64 1]) ∧ Below w.heap.size w w' := by
  have hl1 : (Lib.trimPrefix l [45]).length ≤ maxLen := Nat.le_trans (Lib.trimPrefix_le _ _) hl
  go_enter Tryz.func69, Tryz.ntmps69
  go_wp2_with fail
  refine (cutPrefixL l [45] _).mono ?_
  rintro e w1 ⟨rfl, rfl⟩
  generalize Lib.trimPrefix l [45] = r0 at *
  go_wp2_with fail
  refine (cutDigitsL r0 _ hl1).mono ?_
  rintro e w1 ⟨rfl, hb⟩
  have hR := (RBox.new w).next hb
  have hB : Below w.heap.size w w1 := ((Below.refl _ _).alloc (Nat.le_refl _) _).trans (hb.mono (by simp))
  clear hb
  have hwn1 : ((r0.takeWhile isDig) == []) = false := by simp [h1]
  have hwn2 : (r0.takeWhile isDig).isEmpty = false := by simp [h1]
  have HD : Hid (∀ b ∈ r0.takeWhile isDig, isDig b = true) := take_all
  have hl2 : (r0.dropWhile isDig).length ≤ maxLen := by have := split_len r0; omega
  generalize r0.takeWhile isDig = wl at *
  generalize r0.dropWhile isDig = r1 at *
  clear h1
  have hl3 : (Lib.trimPrefix r1 [46]).length ≤ maxLen := Nat.le_trans (Lib.trimPrefix_le _ _) hl2
  go_wp2_with fail
  refine (cutPrefixL r1 [46] _).mono ?_
  rintro e w2 ⟨rfl, rfl⟩
  rw [hd]
  generalize Lib.trimPrefix r1 [46] = r2 at *
  go_wp2_with fail
  refine (cutDigitsL r2 _ hl3).mono ?_
  rintro e w3 ⟨rfl, hb⟩
  have hR := hR.next hb
  have hB := hB.trans (hb.mono hB.size)
  clear hb
  obtain ⟨c0, c1, f0, f1, _⟩ := hR
  go_wp2
  refine bodyPost_ret (v := (.tuple #[.agg #[.int .i64 0, .int .i64 0], .int .i64 1])) (by simp [results, Tryz.results69, go_sem, c0, c1]) rfl ⟨rfl, below_res hB⟩

set_option maxHeartbeats 1600000 in
theorem read_longFraction (l : List UInt8) (w : World) (hl : l.length ≤ maxLen) (h1 : (Lib.trimPrefix l [45]).takeWhile isDig ≠ []) (hd : Lib.hasPrefix ((Lib.trimPrefix l [45]).dropWhile isDig) [46] = true) (hf : 3 < ((Lib.trimPrefix ((Lib.trimPrefix l [45]).dropWhile isDig) [46]).takeWhile isDig).length) :
    Calls Tryz.prog 69 #[.string ⟨l.toArray⟩] w fun e w' => e = .returned (.tuple #[.agg #[.int .i64 0, .int .i64 0], .int .i64 1]) ∧ Below w.heap.size w w' := by
  have hl1 : (Lib.trimPrefix l [45]).length ≤ maxLen := Nat.le_trans (Lib.trimPrefix_le _ _) hl
  go_enter Tryz.func69, Tryz.ntmps69
  go_wp2_with fail
  refine (cutPrefixL l [45] _).mono ?_
  rintro e w1 ⟨rfl, rfl⟩
  generalize Lib.trimPrefix l [45] = r0 at *
  go_wp2_with fail
  refine (cutDigitsL r0 _ hl1).mono ?_
  rintro e w1 ⟨rfl, hb⟩
  have hR := (RBox.new w).next hb
  have hB : Below w.heap.size w w1 := ((Below.refl _ _).alloc (Nat.le_refl _) _).trans (hb.mono (by simp))
  clear hb
  have hwn1 : ((r0.takeWhile isDig) == []) = false := by simp [h1]
  have hwn2 : (r0.takeWhile isDig).isEmpty = false := by simp [h1]
  have HD : Hid (∀ b ∈ r0.takeWhile isDig, isDig b = true) := take_all
  have hl2 : (r0.dropWhile isDig).length ≤ maxLen := by have := split_len r0; omega
  generalize r0.takeWhile isDig = wl at *
  generalize r0.dropWhile isDig = r1 at *
  clear h1
  have hl3 : (Lib.trimPrefix r1 [46]).length ≤ maxLen := Nat.le_trans (Lib.trimPrefix_le _ _) hl2
  go_wp2_with fail
  refine (cutPrefixL r1 [46] _).mono ?_
  rintro e w2 ⟨rfl, rfl⟩
  rw [hd]
  generalize Lib.trimPrefix r1 [46] = r2 at *
  go_wp2_with fail
  refine (cutDigitsL r2 _ hl3).mono ?_
  rintro e w3 ⟨rfl, hb⟩
  have hR := hR.next hb
  have hB := hB.trans (hb.mono hB.size)
  clear hb
  obtain ⟨c0, c1, f0, f1, _⟩ := hR
  have hf2 : 3 < (r2.takeWhile isDig).length := hf
  have hf1 : ((r2.takeWhile isDig) == []) = false := by
    cases hx : r2.takeWhile isDig with
    | nil => rw [hx] at hf2; simp at hf2
    | cons _ _ => rfl
  have hf3 : (r2.takeWhile isDig).isEmpty = false := by
    cases hx : r2.takeWhile isDig with
    | nil => rw [hx] at hf2; simp at hf2
    | cons _ _ => rfl
  go_wp2
  refine bodyPost_ret (v := (.tuple #[.agg #[.int .i64 0, .int .i64 0], .int .i64 1])) (by simp [results, Tryz.results69, go_sem, c0, c1]) rfl ⟨rfl, below_res hB⟩

end Go.Proofs.YtpfpfnkagmmanaaGreatDoor
