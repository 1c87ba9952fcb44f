/- Commands in memory: numbersOf, isInRange, isUsed walked. -/
import Derived.Test.YtiafppmpjmpdmaaDoorGA
import Derived.Test.YtiafppmpjmpdmaaDoorSeqG
import Derived.Test.YtiafppmpjmpdmaaDoorSeqE
import Derived.Test.YtiafppmpjmpdmaaDoorCB
import Derived.Shelf.Abstract
namespace Go.Proofs.YtiafppmpjmpdmaaDoor
open Go.RowKit

abbrev ptr (b : Nat) : Value := .pointer (some ⟨b, 0, none⟩)
/-- A command, and a block that holds it. -/
abbrev cm (k x y z v : Int) : Value := .agg #[.int .i64 k, .int .i64 x, .int .i64 y, .int .i64 z, .int .i64 v]
abbrev o5 (k x y z v : Int) : Obj := .cells #[.int .i64 k, .int .i64 x, .int .i64 y, .int .i64 z, .int .i64 v] 23
abbrev c5 (k x y z v : Int) : List Value := [.int .i64 k, .int .i64 x, .int .i64 y, .int .i64 z, .int .i64 v]
/-- Its numbers. -/
abbrev n4 (x y z v : Int) : Value := .agg #[.int .i64 x, .int .i64 y, .int .i64 z, .int .i64 v]
abbrev o4 (x y z v : Int) : Obj := .cells #[.int .i64 x, .int .i64 y, .int .i64 z, .int .i64 v] 42
abbrev sA (l : List UInt8) : Value := .string ⟨l.toArray⟩
/-- The words of a kind. -/
abbrev wd (f a b c d : List UInt8) : Value := .agg #[sA f, sA a, sA b, sA c, sA d]

theorem numbers_any (k x y z v : Int) (w : World) : Calls Tryd.prog 17 #[cm k x y z v] w fun e w' => e = .returned (n4 x y z v) ∧ w' = (w.alloc (o5 k x y z v)).alloc (o4 x y z v) := by
  go_enter Tryd.func17, Tryd.ntmps17
  go_wp2
  refine bodyPost_ret (v := n4 x y z v) (by simp [results, Tryd.results17, go_sem]) rfl ⟨rfl, rfl⟩
theorem numbersB (k x y z v : Int) (w : World) : Calls Tryd.prog 17 #[cm k x y z v] w fun e w' => e = .returned (n4 x y z v) ∧ Below w.heap.size w w' :=
  (numbers_any k x y z v w).mono fun _ _ ⟨he, hw⟩ => ⟨he, by rw [hw]; exact ((Below.refl _ _).alloc (Nat.le_refl _) _).alloc (by simp) _⟩
/-- An array of four, indexed. -/
theorem ix0 (x y z v : Int) (w : World) : (Instr.index 42 (n4 x y z v) (.int .i64 0)).run Tryd.prog w = .ok (.int .i64 x) w := by kernel_rfl
theorem ix1 (x y z v : Int) (w : World) : (Instr.index 42 (n4 x y z v) (.int .i64 1)).run Tryd.prog w = .ok (.int .i64 y) w := by kernel_rfl
theorem ix2 (x y z v : Int) (w : World) : (Instr.index 42 (n4 x y z v) (.int .i64 2)).run Tryd.prog w = .ok (.int .i64 z) w := by kernel_rfl
theorem ix3 (x y z v : Int) (w : World) : (Instr.index 42 (n4 x y z v) (.int .i64 3)).run Tryd.prog w = .ok (.int .i64 v) w := by kernel_rfl

theorem inRg_no {x y z v : Int} (h : ¬ ((-10000000 ≤ x ∧ x ≤ 10000000) ∧ (-10000000 ≤ y ∧ y ≤ 10000000) ∧ (-10000000 ≤ z ∧ z ≤ 10000000) ∧ (0 ≤ v ∧ v ≤ 1000000000))) : inRg x y z v = false := by
  cases e : inRg x y z v with
  | false => rfl
  | true => exact absurd (inRg_iff.1 e) h
set_option maxHeartbeats 6400000 in
set_option maxRecDepth 100000 in
theorem isInRange_any (x y z v : Int) (w : World) : Calls Tryd.prog 16 #[n4 x y z v] w fun e w' => e = .returned (.bool (inRg x y z v)) ∧ Below w.heap.size w w' := by
  have HB : Hid (Below w.heap.size w (w.alloc (o4 x y z v))) := (Below.refl _ _).alloc (Nat.le_refl _) _
  go_enter Tryd.func16, Tryd.ntmps16
  go_wp2_with fail
  refine wp_loop_rounds 4 ?_
  rw [rounds_succ]
  go_wp2
  · go_ret
    exact ⟨ret_bool (inRg_no (by omega)).symm, HB.out⟩
  · rw [rounds_succ]
    go_wp2
    · go_ret
      exact ⟨ret_bool (inRg_no (by omega)).symm, HB.out⟩
    · rw [rounds_succ]
      go_wp2
      · go_ret
        exact ⟨ret_bool (inRg_no (by omega)).symm, HB.out⟩
      · rw [rounds_succ]
        go_wp2
        · go_ret
          refine ⟨ret_bool ?_, HB.out⟩
          by_cases hv : v ≤ 1000000000
          · rw [decide_eq_true hv]; exact (inRg_iff.2 (by omega)).symm
          · rw [decide_eq_false hv]; exact (inRg_no (by omega)).symm
        · go_ret
          exact ⟨ret_bool (inRg_no (by omega)).symm, HB.out⟩
      · go_ret
        exact ⟨ret_bool (inRg_no (by omega)).symm, HB.out⟩
    · go_ret
      exact ⟨ret_bool (inRg_no (by omega)).symm, HB.out⟩
  · go_ret
    exact ⟨ret_bool (inRg_no (by omega)).symm, HB.out⟩

/-- Is there a letter for each number that is not 0? -/
def usedL (a b c d : List UInt8) (x y z v : Int) : Bool := (x == 0 || a != []) && (y == 0 || b != []) && (z == 0 || c != []) && (v == 0 || d != [])
theorem usedL_iff {a b c d : List UInt8} {x y z v : Int} : usedL a b c d x y z v = true ↔ (a = [] → x = 0) ∧ (b = [] → y = 0) ∧ (c = [] → z = 0) ∧ (d = [] → v = 0) := by
  have g : ∀ (n : Int) (l : List UInt8), (n = 0 ∨ ¬ l = []) ↔ (l = [] → n = 0) := fun n l => ⟨fun h e => h.elim id fun q => absurd e q, fun h => (Classical.em (l = [])).elim (fun e => .inl (h e)) .inr⟩
  simp only [usedL, Bool.and_eq_true, Bool.or_eq_true, beq_iff_eq, bne_iff_ne, ne_eq, g, and_assoc]
theorem usedL_no {a b c d : List UInt8} {x y z v : Int} (h : ¬ ((a = [] → x = 0) ∧ (b = [] → y = 0) ∧ (c = [] → z = 0) ∧ (d = [] → v = 0))) : usedL a b c d x y z v = false := by
  cases e : usedL a b c d x y z v with
  | false => rfl
  | true => exact absurd (usedL_iff.1 e) h
def okN (l : List UInt8) (n : Int) : Prop := l = [] → n = 0
set_option maxHeartbeats 6400000 in
set_option maxRecDepth 100000 in
theorem isUsed_any (f a b c d : List UInt8) (x y z v : Int) (w : World) : Calls Tryd.prog 18 #[wd f a b c d, n4 x y z v] w fun e w' => e = .returned (.bool (usedL a b c d x y z v)) ∧ Below w.heap.size w w' := by
  have HB : Hid (Below w.heap.size w ((w.alloc (.cells #[sA f, sA a, sA b, sA c, sA d] 47)).alloc (o4 x y z v))) := ((Below.refl _ _).alloc (Nat.le_refl _) _).alloc (by simp) _
  have i0 := ix0 x y z v
  have i1 := ix1 x y z v
  have i2 := ix2 x y z v
  have i3 := ix3 x y z v
  have HS : Hid (okN a x ∧ okN b y ∧ okN c z ∧ okN d v → usedL a b c d x y z v = true) := usedL_iff.2
  have HN : Hid (¬ (okN a x ∧ okN b y ∧ okN c z ∧ okN d v) → usedL a b c d x y z v = false) := usedL_no
  generalize usedL a b c d x y z v = U at *
  go_enter Tryd.func18, Tryd.ntmps18
  go_wp2
  go_loop [8] (fun i => ∃ j : Nat, j ≤ 4 ∧ i = .int .i64 j ∧ Hid ((0 < j → okN a x) ∧ (1 < j → okN b y) ∧ (2 < j → okN c z) ∧ (3 < j → okN d v))) (fun i => 4 - (intOf i).toNat)
  case atStart => exact ⟨0, by omega, rfl, (show Hid _ from ⟨by omega, by omega, by omega, by omega⟩)⟩
  case round =>
    obtain ⟨j, hj4, rfl, HG⟩ := hrel
    rcases (show j = 0 ∨ j = 1 ∨ j = 2 ∨ j = 3 ∨ j = 4 by omega) with e | e | e | e | e
    · subst e
      by_cases hn : x = 0
      · have HO : Hid (okN a x) := fun _ => hn
        subst hn
        go_wp2
        go_round
        case rel => exact ⟨1, by omega, by go_num, (show Hid _ from ⟨fun _ => HO.out, by omega, by omega, by omega⟩)⟩
        case measure => simp [intOf]
      · have q0 : (x == 0) = false := by simp [hn]
        have q1 : (x != 0) = true := by simp [hn]
        by_cases hl : a = []
        · have HO : Hid (U = false) := HN.out (fun h => hn (h.1 hl))
          clear hn
          subst hl
          go_wp2
          go_ret
          exact ⟨ret_bool HO.out.symm, HB.out⟩
        · have HO : Hid (okN a x) := fun h => absurd h hl
          have p1 : (([] : List UInt8) == a) = false := by rw [beq_eq_false_iff_ne]; exact fun h => hl h.symm
          have p2 : (a == []) = false := by rw [beq_eq_false_iff_ne]; exact hl
          have p3 : a.isEmpty = false := by simpa using hl
          clear hn hl
          go_wp2
          go_round
          case rel => exact ⟨1, by omega, by go_num, (show Hid _ from ⟨fun _ => HO.out, by omega, by omega, by omega⟩)⟩
          case measure => simp [intOf]
    · subst e
      by_cases hn : y = 0
      · have HO : Hid (okN b y) := fun _ => hn
        subst hn
        go_wp2
        go_round
        case rel => exact ⟨2, by omega, by go_num, (show Hid _ from ⟨fun _ => HG.out.1 (by omega), fun _ => HO.out, by omega, by omega⟩)⟩
        case measure => simp [intOf]
      · have q0 : (y == 0) = false := by simp [hn]
        have q1 : (y != 0) = true := by simp [hn]
        by_cases hl : b = []
        · have HO : Hid (U = false) := HN.out (fun h => hn (h.2.1 hl))
          clear hn
          subst hl
          go_wp2
          go_ret
          exact ⟨ret_bool HO.out.symm, HB.out⟩
        · have HO : Hid (okN b y) := fun h => absurd h hl
          have p1 : (([] : List UInt8) == b) = false := by rw [beq_eq_false_iff_ne]; exact fun h => hl h.symm
          have p2 : (b == []) = false := by rw [beq_eq_false_iff_ne]; exact hl
          have p3 : b.isEmpty = false := by simpa using hl
          clear hn hl
          go_wp2
          go_round
          case rel => exact ⟨2, by omega, by go_num, (show Hid _ from ⟨fun _ => HG.out.1 (by omega), fun _ => HO.out, by omega, by omega⟩)⟩
          case measure => simp [intOf]
    · subst e
      by_cases hn : z = 0
      · have HO : Hid (okN c z) := fun _ => hn
        subst hn
        go_wp2
        go_round
        case rel => exact ⟨3, by omega, by go_num, (show Hid _ from ⟨fun _ => HG.out.1 (by omega), fun _ => HG.out.2.1 (by omega), fun _ => HO.out, by omega⟩)⟩
        case measure => simp [intOf]
      · have q0 : (z == 0) = false := by simp [hn]
        have q1 : (z != 0) = true := by simp [hn]
        by_cases hl : c = []
        · have HO : Hid (U = false) := HN.out (fun h => hn (h.2.2.1 hl))
          clear hn
          subst hl
          go_wp2
          go_ret
          exact ⟨ret_bool HO.out.symm, HB.out⟩
        · have HO : Hid (okN c z) := fun h => absurd h hl
          have p1 : (([] : List UInt8) == c) = false := by rw [beq_eq_false_iff_ne]; exact fun h => hl h.symm
          have p2 : (c == []) = false := by rw [beq_eq_false_iff_ne]; exact hl
          have p3 : c.isEmpty = false := by simpa using hl
          clear hn hl
          go_wp2
          go_round
          case rel => exact ⟨3, by omega, by go_num, (show Hid _ from ⟨fun _ => HG.out.1 (by omega), fun _ => HG.out.2.1 (by omega), fun _ => HO.out, by omega⟩)⟩
          case measure => simp [intOf]
    · subst e
      by_cases hn : v = 0
      · have HO : Hid (okN d v) := fun _ => hn
        subst hn
        go_wp2
        go_round
        case rel => exact ⟨4, by omega, by go_num, (show Hid _ from ⟨fun _ => HG.out.1 (by omega), fun _ => HG.out.2.1 (by omega), fun _ => HG.out.2.2.1 (by omega), fun _ => HO.out⟩)⟩
        case measure => simp [intOf]
      · have q0 : (v == 0) = false := by simp [hn]
        have q1 : (v != 0) = true := by simp [hn]
        by_cases hl : d = []
        · have HO : Hid (U = false) := HN.out (fun h => hn (h.2.2.2 hl))
          clear hn
          subst hl
          go_wp2
          go_ret
          exact ⟨ret_bool HO.out.symm, HB.out⟩
        · have HO : Hid (okN d v) := fun h => absurd h hl
          have p1 : (([] : List UInt8) == d) = false := by rw [beq_eq_false_iff_ne]; exact fun h => hl h.symm
          have p2 : (d == []) = false := by rw [beq_eq_false_iff_ne]; exact hl
          have p3 : d.isEmpty = false := by simpa using hl
          clear hn hl
          go_wp2
          go_round
          case rel => exact ⟨4, by omega, by go_num, (show Hid _ from ⟨fun _ => HG.out.1 (by omega), fun _ => HG.out.2.1 (by omega), fun _ => HG.out.2.2.1 (by omega), fun _ => HO.out⟩)⟩
          case measure => simp [intOf]
    · subst e
      have HO : Hid (U = true) := HS.out ⟨HG.out.1 (by omega), HG.out.2.1 (by omega), HG.out.2.2.1 (by omega), HG.out.2.2.2 (by omega)⟩
      go_wp2
      go_ret
      exact ⟨ret_bool HO.out.symm, HB.out⟩
end Go.Proofs.YtiafppmpjmpdmaaDoor
