/- ware.kindOf walked. -/
import Derived.Test.YtmmpaaaifdikdaaGreatDoorNums
namespace Go.Proofs.YtmmpaaaifdikdaaGreatDoor
open Go.RowKit

theorem kindN_hit {l : List UInt8} {k : Nat} (h : kwL[k]? = some l) : kindN l = k := by
  rcases (show k = 0 ∨ k = 1 ∨ k = 2 ∨ k = 3 by have := (List.getElem?_eq_some_iff.1 h).1; simp [kwL] at this; omega) with e | e | e | e
  all_goals (subst e; simp [kwL] at h; subst h; decide)
theorem kindN_miss {l : List UInt8} (h : ∀ k, k < 4 → kwL[k]? ≠ some l) : kindN l = 0 := by
  have h0 : l ≠ [] := fun e => h 0 (by decide) (by rw [e]; rfl)
  have h1 : l ≠ [112, 108, 97, 116, 101] := fun e => h 1 (by decide) (by rw [e]; rfl)
  have h2 : l ≠ [114, 97, 99, 107] := fun e => h 2 (by decide) (by rw [e]; rfl)
  have h3 : l ≠ [116, 114, 97, 115, 104] := fun e => h 3 (by decide) (by rw [e]; rfl)
  unfold kindN
  rw [if_neg h0, if_neg h1, if_neg h2, if_neg h3]

abbrev kwA : Value := .agg #[.string ⟨#[]⟩, .string ⟨#[112, 108, 97, 116, 101]⟩, .string ⟨#[114, 97, 99, 107]⟩, .string ⟨#[116, 114, 97, 115, 104]⟩]
theorem kw0 (w : World) : (Instr.index 112 kwA (.int .i64 0)).run Tryz.prog w = .ok (.string ⟨#[]⟩) w := by kernel_rfl
theorem kw1 (w : World) : (Instr.index 112 kwA (.int .i64 1)).run Tryz.prog w = .ok (.string ⟨#[112, 108, 97, 116, 101]⟩) w := by kernel_rfl
theorem kw2 (w : World) : (Instr.index 112 kwA (.int .i64 2)).run Tryz.prog w = .ok (.string ⟨#[114, 97, 99, 107]⟩) w := by kernel_rfl
theorem kw3 (w : World) : (Instr.index 112 kwA (.int .i64 3)).run Tryz.prog w = .ok (.string ⟨#[116, 114, 97, 115, 104]⟩) w := by kernel_rfl
set_option maxHeartbeats 1600000 in
set_option maxRecDepth 100000 in
theorem kindOf_any (l : List UInt8) (w : World) (h : KW w) :
    Calls Tryz.prog 115 #[.string ⟨l.toArray⟩] w fun e w' => e = .returned (.int .i64 (kindN l)) ∧ w' = w := by
  have k0 : w.cell? ⟨0, 0, none⟩ = some (.string ⟨#[]⟩) := h 0 [] rfl
  have k1 : w.cell? ⟨0, 1, none⟩ = some (.string ⟨#[112, 108, 97, 116, 101]⟩) := h 1 [112, 108, 97, 116, 101] rfl
  have k2 : w.cell? ⟨0, 2, none⟩ = some (.string ⟨#[114, 97, 99, 107]⟩) := h 2 [114, 97, 99, 107] rfl
  have k3 : w.cell? ⟨0, 3, none⟩ = some (.string ⟨#[116, 114, 97, 115, 104]⟩) := h 3 [116, 114, 97, 115, 104] rfl
  clear h
  have x0 := kw0
  have x1 := kw1
  have x2 := kw2
  have x3 := kw3
  go_enter Tryz.func115, Tryz.ntmps115
  go_wp2
  go_loop [6] (fun i => ∃ k : Nat, k ≤ 4 ∧ i = .int .i64 k ∧ ∀ j, j < k → kwL[j]? ≠ some l) (fun i => 4 - (intOf i).toNat)
  case atStart => exact ⟨0, by omega, rfl, fun j h => absurd h (Nat.not_lt_zero _)⟩
  case round =>
    obtain ⟨k, hk4, rfl, hno⟩ := hrel
    have HG : Hid (∀ j, j < k → kwL[j]? ≠ some l) := hno
    clear hno
    rcases (show k = 0 ∨ k = 1 ∨ k = 2 ∨ k = 3 ∨ k = 4 by omega) with e | e | e | e | e
    · subst e
      by_cases hl : l = []
      · subst hl
        go_wp2
        go_ret
        exact ⟨rfl, rfl⟩
      · have HL : Hid (kwL[0]? ≠ some l) := fun h => hl (Option.some.inj h).symm
        have q1 : (([] : List UInt8) == l) = false := by
          rw [beq_eq_false_iff_ne]; exact fun h => hl h.symm
        have q2 : (l == []) = false := by
          rw [beq_eq_false_iff_ne]; exact hl
        have q3 : l.isEmpty = false := by simpa using hl
        clear hl
        go_wp2
        go_round
        case rel => exact ⟨1, by omega, by go_num, fun j hj => (Nat.lt_succ_iff_lt_or_eq.1 hj).elim (HG.out j) fun e => by rw [e]; exact HL.out⟩
        case measure => simp [intOf]
    · subst e
      by_cases hl : l = [112, 108, 97, 116, 101]
      · subst hl
        go_wp2
        go_ret
        exact ⟨rfl, rfl⟩
      · have HL : Hid (kwL[1]? ≠ some l) := fun h => hl (Option.some.inj h).symm
        have q1 : (([112, 108, 97, 116, 101] : List UInt8) == l) = false := by
          rw [beq_eq_false_iff_ne]; exact fun h => hl h.symm
        have q2 : (l == [112, 108, 97, 116, 101]) = false := by
          rw [beq_eq_false_iff_ne]; exact hl
        clear hl
        go_wp2
        go_round
        case rel => exact ⟨2, by omega, by go_num, fun j hj => (Nat.lt_succ_iff_lt_or_eq.1 hj).elim (HG.out j) fun e => by rw [e]; exact HL.out⟩
        case measure => simp [intOf]
    · subst e
      by_cases hl : l = [114, 97, 99, 107]
      · subst hl
        go_wp2
        go_ret
        exact ⟨rfl, rfl⟩
      · have HL : Hid (kwL[2]? ≠ some l) := fun h => hl (Option.some.inj h).symm
        have q1 : (([114, 97, 99, 107] : List UInt8) == l) = false := by
          rw [beq_eq_false_iff_ne]; exact fun h => hl h.symm
        have q2 : (l == [114, 97, 99, 107]) = false := by
          rw [beq_eq_false_iff_ne]; exact hl
        clear hl
        go_wp2
        go_round
        case rel => exact ⟨3, by omega, by go_num, fun j hj => (Nat.lt_succ_iff_lt_or_eq.1 hj).elim (HG.out j) fun e => by rw [e]; exact HL.out⟩
        case measure => simp [intOf]
    · subst e
      by_cases hl : l = [116, 114, 97, 115, 104]
      · subst hl
        go_wp2
        go_ret
        exact ⟨rfl, rfl⟩
      · have HL : Hid (kwL[3]? ≠ some l) := fun h => hl (Option.some.inj h).symm
        have q1 : (([116, 114, 97, 115, 104] : List UInt8) == l) = false := by
          rw [beq_eq_false_iff_ne]; exact fun h => hl h.symm
        have q2 : (l == [116, 114, 97, 115, 104]) = false := by
          rw [beq_eq_false_iff_ne]; exact hl
        clear hl
        go_wp2
        go_round
        case rel => exact ⟨4, by omega, by go_num, fun j hj => (Nat.lt_succ_iff_lt_or_eq.1 hj).elim (HG.out j) fun e => by rw [e]; exact HL.out⟩
        case measure => simp [intOf]
    · subst e
      have HK : Hid (kindN l = 0) := kindN_miss HG.out
      go_wp2
      go_ret
      exact ⟨ret_int HK.out.symm, rfl⟩
end Go.Proofs.YtmmpaaaifdikdaaGreatDoor
