/- Labels: fluid.isLabel and the document's LabelMay, walked. -/
import Derived.Test.YthfchkclojnfmaaRows
import Derived.Test.YthfchkclojnfmaaMath
import Derived.WalkKit
import Derived.WalkSpells
import Derived.WalkLawsBesides
import Derived.Deep.QuietTactic
import Derived.BigQuiet
namespace Go.Proofs.Ythfchkclojnfmaa
open Go.RowKit

theorem okAt_letter {b : UInt8} {k : Nat} (h1 : 97 ≤ b.toNat) (h2 : b.toNat ≤ 122) : okAt b k = true := by
  unfold okAt; rw [decide_eq_true (⟨h1, h2⟩ : 97 ≤ b.toNat ∧ b.toNat ≤ 122)]; rfl
theorem okAt_digit {b : UInt8} {k : Nat} (h0 : 0 < k) (h1 : 48 ≤ b.toNat) (h2 : b.toNat ≤ 57) : okAt b k = true := by
  unfold okAt; rw [decide_eq_true (⟨h1, h2⟩ : 48 ≤ b.toNat ∧ b.toNat ≤ 57), decide_eq_true h0]; simp
theorem okAt_zero {b : UInt8} {k : Nat} (h0 : k = 0) (h : b.toNat < 97 ∨ 122 < b.toNat) : okAt b k = false := by
  unfold okAt; rw [decide_eq_false (by omega : ¬ (97 ≤ b.toNat ∧ b.toNat ≤ 122)), decide_eq_false (by omega : ¬ 0 < k)]; rfl
theorem okAt_no {b : UInt8} {k : Nat} (h : b.toNat < 97 ∨ 122 < b.toNat) (h2 : b.toNat < 48 ∨ 57 < b.toNat) : okAt b k = false := by
  unfold okAt; rw [decide_eq_false (by omega : ¬ (97 ≤ b.toNat ∧ b.toNat ≤ 122)), decide_eq_false (by omega : ¬ (48 ≤ b.toNat ∧ b.toNat ≤ 57))]; simp

theorem ret_bool {a b : Bool} (h : a = b) : Ending.returned (.bool a) = .returned (.bool b) := by rw [h]
theorem ret_int {k : IntKind} {a b : Int} (h : a = b) : Ending.returned (.int k a) = .returned (.int k b) := by rw [h]
/-- One byte more is good. -/
theorem good_succ {s : ByteArray} {pos : Nat} (hp : pos < s.size) (h : ∀ k (h : k < s.size), k < pos → okAt (s[k]'h) k = true) (hb : okAt (s[pos]'hp) pos = true) :
    ∀ k (h : k < s.size), k < pos + 1 → okAt (s[k]'h) k = true := fun k hk hlt => by
  by_cases e : k = pos
  · subst e; exact hb
  · exact h k hk (by omega)

set_option maxHeartbeats 3200000 in
theorem isLabel_any (s : ByteArray) (w : World) (hs : s.size ≤ maxLen) :
    Calls Try.prog 40 #[.string s] w fun e w' => e = .returned (.bool (lab s)) ∧ Below w.heap.size w w' := by
  unfold maxLen at hs
  by_cases h1 : s.size < 1
  · rw [lab_short h1]
    go_enter Try.func40, Try.ntmps40
    go_wp2
    go_ret
    exact ⟨rfl, Below.refl _ _⟩
  by_cases h2 : 16 < s.size
  · rw [lab_long h2]
    go_enter Try.func40, Try.ntmps40
    go_wp2
    go_ret
    exact ⟨rfl, Below.refl _ _⟩
  go_enter Try.func40, Try.ntmps40
  go_wp2
  go_loopw [3] (fun _ wr => ∃ pos : Nat, pos ≤ s.size ∧ wr = w.iter s pos ∧ ∀ k (h : k < s.size), k < pos → okAt (s[k]'h) k = true) (fun _ wr => s.size - wr.iterPos w.heap.size)
  case atStart => exact ⟨0, Nat.zero_le _, rfl, fun k _ h => absurd h (Nat.not_lt_zero _)⟩
  case round =>
    obtain ⟨pos, hpos, rfl, hgood⟩ := hrel
    have HG : Hid (∀ k (h : k < s.size), k < pos → okAt (s[k]'h) k = true) := hgood
    clear hgood
    by_cases hp : pos < s.size
    · by_cases ha : (s[pos]'hp).toNat < 128
      · have hnx : ∀ ty, (Instr.next (.pointer (some ⟨w.heap.size, 0, none⟩)) true ty).run Try.prog (w.iter s pos) = _ := fun ty => run_next_ascii w s pos ty hp ha
        obtain ⟨c, hc⟩ : ∃ c : UInt8, c = s[pos]'hp := ⟨_, rfl⟩
        have HC : Hid (c = s[pos]'hp) := hc
        rw [← hc] at hnx ha
        clear hc
        by_cases hl : 97 ≤ c.toNat ∧ c.toNat ≤ 122
        · obtain ⟨l1, l2⟩ := hl
          go_wp2
          go_roundw
          case rel => exact ⟨pos + 1, by omega, rfl, good_succ hp HG.out (by rw [← HC.out]; exact okAt_letter l1 l2)⟩
          case measure => simp; omega
        · by_cases h0 : pos = 0
          · have HB : Hid (lab s = false) := lab_bad hp (by rw [← HC.out]; exact okAt_zero h0 (by omega))
            have h00 : ((pos : Int) == 0) = true := by simp; omega
            clear h0
            rcases (show c.toNat < 48 ∨ (48 ≤ c.toNat ∧ c.toNat ≤ 57) ∨ (57 < c.toNat ∧ c.toNat < 97) ∨ 122 < c.toNat by omega) with d | ⟨d0, d⟩ | ⟨d0, d⟩ | d
            · have l1 : decide ((97 : Int) ≤ (c.toNat : Int)) = false := by simp; omega
              have l3 : decide ((48 : Int) ≤ (c.toNat : Int)) = false := by simp; omega
              go_wp2
              go_ret
              exact ⟨ret_bool HB.out.symm, (Below.refl _ _).alloc (Nat.le_refl _) _⟩
            · have l1 : decide ((97 : Int) ≤ (c.toNat : Int)) = false := by simp; omega
              have l3 : decide ((48 : Int) ≤ (c.toNat : Int)) = true := by simp; omega
              have l4 : decide ((c.toNat : Int) ≤ 57) = true := by simp; omega
              go_wp2
              go_ret
              exact ⟨ret_bool HB.out.symm, (Below.refl _ _).alloc (Nat.le_refl _) _⟩
            · have l1 : decide ((97 : Int) ≤ (c.toNat : Int)) = false := by simp; omega
              have l3 : decide ((48 : Int) ≤ (c.toNat : Int)) = true := by simp; omega
              have l4 : decide ((c.toNat : Int) ≤ 57) = false := by simp; omega
              go_wp2
              go_ret
              exact ⟨ret_bool HB.out.symm, (Below.refl _ _).alloc (Nat.le_refl _) _⟩
            · have l1 : decide ((97 : Int) ≤ (c.toNat : Int)) = true := by simp; omega
              have l2 : decide ((c.toNat : Int) ≤ 122) = false := by simp; omega
              have l3 : decide ((48 : Int) ≤ (c.toNat : Int)) = true := by simp; omega
              have l4 : decide ((c.toNat : Int) ≤ 57) = false := by simp; omega
              go_wp2
              go_ret
              exact ⟨ret_bool HB.out.symm, (Below.refl _ _).alloc (Nat.le_refl _) _⟩
          · have h00 : ((pos : Int) == 0) = false := by simp; omega
            have h01 : 0 < pos := by omega
            clear h0
            rcases (show c.toNat < 48 ∨ (48 ≤ c.toNat ∧ c.toNat ≤ 57) ∨ (57 < c.toNat ∧ c.toNat < 97) ∨ 122 < c.toNat by omega) with d | ⟨d0, d⟩ | ⟨d0, d⟩ | d
            · have l1 : decide ((97 : Int) ≤ (c.toNat : Int)) = false := by simp; omega
              have l3 : decide ((48 : Int) ≤ (c.toNat : Int)) = false := by simp; omega
              go_wp2
              go_ret
              exact ⟨ret_bool (lab_bad hp (by rw [← HC.out]; exact okAt_no (by omega) (by omega))).symm, (Below.refl _ _).alloc (Nat.le_refl _) _⟩
            · have l1 : decide ((97 : Int) ≤ (c.toNat : Int)) = false := by simp; omega
              have l3 : decide ((48 : Int) ≤ (c.toNat : Int)) = true := by simp; omega
              have l4 : decide ((c.toNat : Int) ≤ 57) = true := by simp; omega
              go_wp2
              go_roundw
              case rel => exact ⟨pos + 1, by omega, rfl, good_succ hp HG.out (by rw [← HC.out]; exact okAt_digit h01 d0 d)⟩
              case measure => simp; omega
            · have l1 : decide ((97 : Int) ≤ (c.toNat : Int)) = false := by simp; omega
              have l3 : decide ((48 : Int) ≤ (c.toNat : Int)) = true := by simp; omega
              have l4 : decide ((c.toNat : Int) ≤ 57) = false := by simp; omega
              go_wp2
              go_ret
              exact ⟨ret_bool (lab_bad hp (by rw [← HC.out]; exact okAt_no (by omega) (by omega))).symm, (Below.refl _ _).alloc (Nat.le_refl _) _⟩
            · have l1 : decide ((97 : Int) ≤ (c.toNat : Int)) = true := by simp; omega
              have l2 : decide ((c.toNat : Int) ≤ 122) = false := by simp; omega
              have l3 : decide ((48 : Int) ≤ (c.toNat : Int)) = true := by simp; omega
              have l4 : decide ((c.toNat : Int) ≤ 57) = false := by simp; omega
              go_wp2
              go_ret
              exact ⟨ret_bool (lab_bad hp (by rw [← HC.out]; exact okAt_no (by omega) (by omega))).symm, (Below.refl _ _).alloc (Nat.le_refl _) _⟩
      · have hnx : ∀ ty, (Instr.next (.pointer (some ⟨w.heap.size, 0, none⟩)) true ty).run Try.prog (w.iter s pos) = _ := fun ty => run_next_any w s pos ty hp
        have HB : Hid (lab s = false) := lab_bad hp (okAt_no (by omega) (by omega))
        have hd := (decode_high s pos hp (by omega)).1
        generalize (Utf8.decode s pos).1 = c at *
        generalize (Utf8.decode s pos).2 = d at *
        have c1 : decide ((97 : Int) ≤ (c : Int)) = true := by simp; omega
        have c2 : decide ((c : Int) ≤ 122) = false := by simp; omega
        have c3 : decide ((48 : Int) ≤ (c : Int)) = true := by simp; omega
        have c4 : decide ((c : Int) ≤ 57) = false := by simp; omega
        by_cases h0 : pos = 0
        · have h00 : ((pos : Int) == 0) = true := by simp; omega
          clear h0
          go_wp2
          go_ret
          exact ⟨ret_bool HB.out.symm, (Below.refl _ _).alloc (Nat.le_refl _) _⟩
        · have h00 : ((pos : Int) == 0) = false := by simp; omega
          clear h0
          go_wp2
          go_ret
          exact ⟨ret_bool HB.out.symm, (Below.refl _ _).alloc (Nat.le_refl _) _⟩
    · have hnx : ∀ ty, (Instr.next (.pointer (some ⟨w.heap.size, 0, none⟩)) true ty).run Try.prog (w.iter s pos) = _ := fun ty => run_next_end w s pos ty hp
      go_wp2
      go_ret
      exact ⟨ret_bool (lab_good (by omega) (by omega) (fun k h => HG.out k h (by omega))).symm, (Below.refl _ _).alloc (Nat.le_refl _) _⟩
end Go.Proofs.Ythfchkclojnfmaa
