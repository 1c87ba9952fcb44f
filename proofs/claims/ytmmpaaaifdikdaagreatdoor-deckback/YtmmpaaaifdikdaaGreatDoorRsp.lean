/- The document's ReadSpot walked. -/
import Derived.Test.YtmmpaaaifdikdaaGreatDoorShelf
import Derived.Lib.ItoaMem
import Derived.Test.YtmmpaaaifdikdaaGreatDoorMid
namespace Go.Proofs.YtmmpaaaifdikdaaGreatDoor
open Go.RowKit

theorem digs_pos {a : List UInt8} (hd : ∀ b ∈ a, isDig b = true) (hne : a ≠ []) (h0 : a.head? ≠ some 48) : 1 ≤ digs a := by
  have key : ∀ (t : List UInt8) (n : Int), 1 ≤ n → (∀ b ∈ t, isDig b = true) → 1 ≤ t.foldl on n := by
    intro t
    induction t with
    | nil => intro n hn _; exact hn
    | cons b t ih =>
      intro n hn h
      have hb := (isDig_iff b).1 (h b (by simp))
      exact ih _ (by unfold on; omega) fun x hx => h x (by simp [hx])
  cases a with
  | nil => exact absurd rfl hne
  | cons b t =>
    have hb := (isDig_iff b).1 (hd b (by simp))
    have hb0 : b.toNat ≠ 48 := fun e => h0 (by
      have : b = 48 := UInt8.toNat.inj (by simpa using e)
      simp [this])
    show 1 ≤ (b :: t).foldl on 0
    rw [List.foldl_cons]
    exact key t _ (by unfold on; omega) fun x hx => hd x (by simp [hx])
/-- A number has one text. -/
theorem dec_digs : ∀ (n : Nat) (a : List UInt8), a.length = n → a ≠ [] → (∀ b ∈ a, isDig b = true) → (a.length ≤ 1 ∨ a.head? ≠ some 48) → Lib.decDigits (digs a).toNat = a := by
  intro n
  induction n with
  | zero => intro a ha hne; exact absurd (List.eq_nil_of_length_eq_zero ha) hne
  | succ n ih =>
    intro l hl hne hd hz
    obtain ⟨a, b, rfl⟩ : ∃ a b, l = a ++ [b] := ⟨l.dropLast, l.getLast hne, (List.dropLast_concat_getLast hne).symm⟩
    have hb := (isDig_iff b).1 (hd b (by simp))
    rw [digs_snoc]
    by_cases ha : a = []
    · subst ha
      have e : (10 * digs [] + ((b.toNat : Int) - 48)).toNat = b.toNat - 48 := by simp [digs]; omega
      rw [e, Lib.decDigits_one (by omega)]
      have : 48 + (b.toNat - 48) = b.toNat := by omega
      rw [this]
      simp
    · have had : ∀ x ∈ a, isDig x = true := fun x hx => hd x (by simp [hx])
      have hz2 : a.head? ≠ some 48 := by
        rcases hz with h | h
        · have : 1 ≤ a.length := by cases a with | nil => exact absurd rfl ha | cons _ _ => simp
          rw [List.length_append, List.length_singleton] at h; omega
        · intro e; apply h
          cases a with
          | nil => exact absurd rfl ha
          | cons x a => simpa using e
      have hp := digs_pos had ha hz2
      have h1 := ih a (by simpa using hl) ha had (.inr hz2)
      obtain ⟨m, hm⟩ : ∃ m : Nat, digs a = m := ⟨(digs a).toNat, by omega⟩
      rw [hm] at h1 hp ⊢
      have e : (10 * (m : Int) + ((b.toNat : Int) - 48)).toNat = 10 * m + (b.toNat - 48) := by omega
      rw [e, Lib.decDigits, dif_neg (by omega)]
      have e1 : (10 * m + (b.toNat - 48)) / 10 = m := by omega
      have e2 : 48 + (10 * m + (b.toNat - 48)) % 10 = b.toNat := by omega
      rw [e1, e2]
      simp at h1
      rw [h1]
      simp
theorem dec_of_num {t : List UInt8} (h : numOk t = true) : Lib.decDigits (digs t).toNat = t ∧ 0 ≤ digs t := by
  unfold numOk at h
  simp only [Bool.and_eq_true, decide_eq_true_eq, Bool.or_eq_true, List.all_eq_true, Bool.not_eq_true', beq_eq_false_iff_ne, ne_eq] at h
  obtain ⟨⟨⟨h1, h2⟩, h3⟩, h4⟩ := h
  exact ⟨dec_digs _ t rfl (by intro e; subst e; simp at h1) h4 h3, (digs_in t h4).1⟩

/-- A row's small letter. -/
theorem over_eq (a : Act) (m : List Bool) (f : Nat → Value) : over a m f = { tmps := (overL f m 0 a.tmps.toList).toArray, defers := a.defers } := rfl
theorem dec_le (u : Nat) : (Lib.decDigits u).length ≤ u + 1 := by
  induction u using Nat.strongRecOn with
  | _ u ih =>
    rw [Lib.decDigits]
    split
    · simp
    · have := ih (u / 10) (by omega)
      rw [List.length_append, List.length_singleton]; omega

end Go.Proofs.YtmmpaaaifdikdaaGreatDoor
