/- The lexer's tests of runes, walked; reader.take, takeByte, refuse, walked. -/
import Derived.Test.YtpfpfnkagmmanaaGreatDoorLxT
import Derived.Shelf.Strings.FuncGrows
namespace Go.Proofs.YtpfpfnkagmmanaaGreatDoor
open Go.RowKit Go.Shelf

theorem beq_cast (r k : Nat) : ((r : Int) == (k : Int)) = (r == k) := by
  rw [Bool.eq_iff_iff, beq_iff_eq, beq_iff_eq]
  omega
set_option maxHeartbeats 800000 in
theorem isLetter_any (r : Nat) (w : World) : Calls Tryz.prog 42 #[.int .i32 (r : Int)] w fun e w' => e = .returned (.bool (letR r)) ∧ w' = w := by
  rcases (show r < 65 ∨ (65 ≤ r ∧ r ≤ 90) ∨ (90 < r ∧ r < 97) ∨ (97 ≤ r ∧ r ≤ 122) ∨ 122 < r by omega) with h | ⟨h, h'⟩ | ⟨h, h'⟩ | ⟨h, h'⟩ | h
  · have e : letR r = false := by unfold letR; simp; omega
    rw [e]
    have l1 : decide ((97 : Int) ≤ (r : Int)) = false := by simp; omega
    have l2 : decide ((65 : Int) ≤ (r : Int)) = false := by simp; omega
    clear e h
    go_enter Tryz.func42, Tryz.ntmps42
    go_wp2
    go_ret
    exact ⟨rfl, rfl⟩
  · have e : letR r = true := by unfold letR; simp; omega
    rw [e]
    have l1 : decide ((97 : Int) ≤ (r : Int)) = false := by simp; omega
    have l2 : decide ((65 : Int) ≤ (r : Int)) = true := by simp; omega
    have l3 : decide ((r : Int) ≤ 90) = true := by simp; omega
    clear e h h'
    go_enter Tryz.func42, Tryz.ntmps42
    go_wp2
    go_ret
    exact ⟨rfl, rfl⟩
  · have e : letR r = false := by unfold letR; simp; omega
    rw [e]
    have l1 : decide ((97 : Int) ≤ (r : Int)) = false := by simp; omega
    have l2 : decide ((65 : Int) ≤ (r : Int)) = true := by simp; omega
    have l3 : decide ((r : Int) ≤ 90) = false := by simp; omega
    clear e h h'
    go_enter Tryz.func42, Tryz.ntmps42
    go_wp2
    go_ret
    exact ⟨rfl, rfl⟩
  · have e : letR r = true := by unfold letR; simp; omega
    rw [e]
    have l1 : decide ((97 : Int) ≤ (r : Int)) = true := by simp; omega
    have l2 : decide ((r : Int) ≤ 122) = true := by simp; omega
    clear e h h'
    go_enter Tryz.func42, Tryz.ntmps42
    go_wp2
    go_ret
    exact ⟨rfl, rfl⟩
  · have e : letR r = false := by unfold letR; simp; omega
    rw [e]
    have l1 : decide ((97 : Int) ≤ (r : Int)) = true := by simp; omega
    have l4 : decide ((r : Int) ≤ 122) = false := by simp; omega
    have l2 : decide ((65 : Int) ≤ (r : Int)) = true := by simp; omega
    have l3 : decide ((r : Int) ≤ 90) = false := by simp; omega
    clear e h
    go_enter Tryz.func42, Tryz.ntmps42
    go_wp2
    go_ret
    exact ⟨rfl, rfl⟩
set_option maxHeartbeats 800000 in
theorem isDigit_any (r : Nat) (w : World) : Calls Tryz.prog 44 #[.int .i32 (r : Int)] w fun e w' => e = .returned (.bool (digR r)) ∧ w' = w := by
  rcases (show r < 48 ∨ (48 ≤ r ∧ r ≤ 57) ∨ 57 < r by omega) with h | ⟨h, h'⟩ | h
  · have e : digR r = false := by unfold digR; simp; omega
    rw [e]
    have l1 : decide ((48 : Int) ≤ (r : Int)) = false := by simp; omega
    clear e h
    go_enter Tryz.func44, Tryz.ntmps44
    go_wp2
    go_ret
    exact ⟨rfl, rfl⟩
  · have e : digR r = true := by unfold digR; simp; omega
    rw [e]
    have l1 : decide ((48 : Int) ≤ (r : Int)) = true := by simp; omega
    have l2 : decide ((r : Int) ≤ 57) = true := by simp; omega
    clear e h h'
    go_enter Tryz.func44, Tryz.ntmps44
    go_wp2
    go_ret
    exact ⟨rfl, rfl⟩
  · have e : digR r = false := by unfold digR; simp; omega
    rw [e]
    have l1 : decide ((48 : Int) ≤ (r : Int)) = true := by simp; omega
    have l2 : decide ((r : Int) ≤ 57) = false := by simp; omega
    clear e h
    go_enter Tryz.func44, Tryz.ntmps44
    go_wp2
    go_ret
    exact ⟨rfl, rfl⟩
set_option maxHeartbeats 400000 in
theorem isInLine_any (r : Nat) (w : World) : Calls Tryz.prog 62 #[.int .i32 (r : Int)] w fun e w' => e = .returned (.bool (pLine r)) ∧ w' = w := by
  have hq : ((r : Int) != 10) = pLine r := by
    unfold pLine bne
    rw [show ((r : Int) == 10) = (r == 10) from beq_cast r 10]
  go_enter Tryz.func62, Tryz.ntmps62
  go_wp2
  go_ret
  exact ⟨rfl, rfl⟩
set_option maxHeartbeats 800000 in
theorem blank_any (r : Nat) (w : World) : Calls Tryz.prog 37 #[.int .i32 (r : Int)] w fun e w' => e = .returned (.bool (pBlank r)) ∧ w' = w := by
  have q1 : ((r : Int) == 32) = (r == 32) := beq_cast r 32
  have q2 : ((r : Int) == 9) = (r == 9) := beq_cast r 9
  have q3 : ((r : Int) == 13) = (r == 13) := beq_cast r 13
  unfold pBlank
  cases h1 : (r == 32) <;> cases h2 : (r == 9) <;> cases h3 : (r == 13) <;> rw [h1] at q1 <;> rw [h2] at q2 <;> rw [h3] at q3
  all_goals
    clear h1 h2 h3
    go_enter Tryz.func37, Tryz.ntmps37
    go_wp2
    go_ret
    exact ⟨rfl, rfl⟩
set_option maxHeartbeats 800000 in
theorem quo_any (r : Nat) (w : World) : Calls Tryz.prog 63 #[.int .i32 (r : Int)] w fun e w' => e = .returned (.bool (pQuo r)) ∧ w' = w := by
  by_cases h : r = 34
  · subst h
    go_enter Tryz.func63, Tryz.ntmps63
    go_wp2
    go_ret
    exact ⟨rfl, rfl⟩
  · have q1 : ((r : Int) != 34) = true := by simp; omega
    have HP : Hid (pLine r = pQuo r) := by show _ = _; unfold pQuo pLine; simp [h]
    clear h
    go_enter Tryz.func63, Tryz.ntmps63
    go_wp2_with fail
    refine Calls.mono (isInLine_any r w) ?_
    rintro e w' ⟨rfl, rfl⟩
    go_wp2
    go_ret
    exact ⟨ret_bool HP.out, rfl⟩
set_option maxHeartbeats 800000 in
theorem word_any (r : Nat) (w : World) : Calls Tryz.prog 67 #[.int .i32 (r : Int)] w fun e w' => e = .returned (.bool (pWord r)) ∧ w' = w := by
  cases hl : letR r with
  | true =>
    have HC := isLetter_any r w
    rw [hl] at HC
    have HC := (show Hid _ from HC)
    have HP : Hid (pWord r = true) := by show _ = _; simp [pWord, hl]
    clear hl
    go_enter Tryz.func67, Tryz.ntmps67
    go_wp2_with fail
    refine Calls.mono HC.out ?_
    rintro e w' ⟨rfl, rfl⟩
    go_wp2
    go_ret
    exact ⟨ret_bool HP.out.symm, rfl⟩
  | false =>
    have HC := isLetter_any r w
    rw [hl] at HC
    have HC := (show Hid _ from HC)
    have HP : Hid (pWord r = digR r) := by show _ = _; simp [pWord, hl]
    clear hl
    go_enter Tryz.func67, Tryz.ntmps67
    go_wp2_with fail
    refine Calls.mono HC.out ?_
    rintro e w' ⟨rfl, rfl⟩
    go_wp2_with fail
    refine Calls.mono (isDigit_any r _) ?_
    rintro e w' ⟨rfl, rfl⟩
    go_wp2
    go_ret
    exact ⟨ret_bool HP.out.symm, rfl⟩
set_option maxHeartbeats 1600000 in
theorem amt_any (r : Nat) (w : World) : Calls Tryz.prog 68 #[.int .i32 (r : Int)] w fun e w' => e = .returned (.bool (pAmt r)) ∧ w' = w := by
  cases hl : letR r with
  | true =>
    have HC := isLetter_any r w
    rw [hl] at HC
    have HC := (show Hid _ from HC)
    have HP : Hid (pAmt r = true) := by show _ = _; simp [pAmt, hl]
    clear hl
    go_enter Tryz.func68, Tryz.ntmps68
    go_wp2_with fail
    refine Calls.mono HC.out ?_
    rintro e w' ⟨rfl, rfl⟩
    go_wp2
    go_ret
    exact ⟨ret_bool HP.out.symm, rfl⟩
  | false =>
    have HC := isLetter_any r w
    rw [hl] at HC
    have HC := (show Hid _ from HC)
    cases hd : digR r with
    | true =>
      have HC2 : Hid (∀ W, Calls Tryz.prog 44 #[.int .i32 (r : Int)] W fun e w' => e = .returned (.bool true) ∧ w' = W) := fun W => by
        have := isDigit_any r W
        rw [hd] at this; exact this
      have HP : Hid (pAmt r = true) := by show _ = _; simp [pAmt, hd]
      clear hl hd
      go_enter Tryz.func68, Tryz.ntmps68
      go_wp2_with fail
      refine Calls.mono HC.out ?_
      rintro e w' ⟨rfl, rfl⟩
      go_wp2_with fail
      refine Calls.mono (HC2.out _) ?_
      rintro e w' ⟨rfl, rfl⟩
      go_wp2
      go_ret
      exact ⟨ret_bool HP.out.symm, rfl⟩
    | false =>
      have HC2 : Hid (∀ W, Calls Tryz.prog 44 #[.int .i32 (r : Int)] W fun e w' => e = .returned (.bool false) ∧ w' = W) := fun W => by
        have := isDigit_any r W
        rw [hd] at this; exact this
      have HP : Hid (pAmt r = (r == 46 || r == 181 || r == 956)) := by show _ = _; simp [pAmt, hl, hd]
      have q1 : ((r : Int) == 46) = (r == 46) := beq_cast r 46
      have q2 : ((r : Int) == 181) = (r == 181) := beq_cast r 181
      have q3 : ((r : Int) == 956) = (r == 956) := beq_cast r 956
      clear hl hd
      cases h1 : (r == 46) <;> cases h2 : (r == 181) <;> cases h3 : (r == 956) <;> rw [h1] at q1 HP <;> rw [h2] at q2 HP <;> rw [h3] at q3 HP
      all_goals
        clear h1 h2 h3
        go_enter Tryz.func68, Tryz.ntmps68
        go_wp2_with fail
        refine Calls.mono HC.out ?_
        rintro e w' ⟨rfl, rfl⟩
        go_wp2_with fail
        refine Calls.mono (HC2.out _) ?_
        rintro e w' ⟨rfl, rfl⟩
        go_wp2
        go_ret
        exact ⟨ret_bool HP.out.symm, rfl⟩
theorem en_blank : ∀ args w, (callFunc 37 args).run Tryz.prog w = .ok (.enter 37 args) w := enters_of Tryz.func37 (by kernel_rfl) rfl
theorem en_line : ∀ args w, (callFunc 62 args).run Tryz.prog w = .ok (.enter 62 args) w := enters_of Tryz.func62 (by kernel_rfl) rfl
theorem en_quo : ∀ args w, (callFunc 63 args).run Tryz.prog w = .ok (.enter 63 args) w := enters_of Tryz.func63 (by kernel_rfl) rfl
theorem en_word : ∀ args w, (callFunc 67 args).run Tryz.prog w = .ok (.enter 67 args) w := enters_of Tryz.func67 (by kernel_rfl) rfl
theorem en_amt : ∀ args w, (callFunc 68 args).run Tryz.prog w = .ok (.enter 68 args) w := enters_of Tryz.func68 (by kernel_rfl) rfl
theorem pg_blank (w : World) : PredGrows Tryz.prog 37 #[] pBlank w := fun W x _ _ => (blank_any x W).mono fun _ _ ⟨he, hw⟩ => ⟨he, hw ▸ Below.refl _ _⟩
theorem pg_line (w : World) : PredGrows Tryz.prog 62 #[] pLine w := fun W x _ _ => (isInLine_any x W).mono fun _ _ ⟨he, hw⟩ => ⟨he, hw ▸ Below.refl _ _⟩
theorem pg_quo (w : World) : PredGrows Tryz.prog 63 #[] pQuo w := fun W x _ _ => (quo_any x W).mono fun _ _ ⟨he, hw⟩ => ⟨he, hw ▸ Below.refl _ _⟩
theorem pg_word (w : World) : PredGrows Tryz.prog 67 #[] pWord w := fun W x _ _ => (word_any x W).mono fun _ _ ⟨he, hw⟩ => ⟨he, hw ▸ Below.refl _ _⟩
theorem pg_amt (w : World) : PredGrows Tryz.prog 68 #[] pAmt w := fun W x _ _ => (amt_any x W).mono fun _ _ ⟨he, hw⟩ => ⟨he, hw ▸ Below.refl _ _⟩
end Go.Proofs.YtpfpfnkagmmanaaGreatDoor
