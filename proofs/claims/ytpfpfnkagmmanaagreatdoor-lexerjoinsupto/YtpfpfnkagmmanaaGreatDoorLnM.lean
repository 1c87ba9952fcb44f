/- Lines of a text: plain lists. -/
import Derived.Test.YtpfpfnkagmmanaaGreatDoorRows
import Derived.WalkKit
import Derived.WalkSpells
import Derived.WalkLawsBesides
import Derived.Deep.QuietTactic
import Derived.Deep.LoopGhost
import Derived.BigQuiet
import Derived.Test.YtpfpfnkagmmanaaGreatDoorShelf
namespace Go.Proofs.YtpfpfnkagmmanaaGreatDoor
open Go.RowKit Go.Shelf

theorem ib_none : ∀ {l : List UInt8}, (10 : UInt8) ∉ l → Lib.indexByte l 10 = -1
  | [], _ => rfl
  | b :: l, h => by
    have hb : ¬ b = 10 := fun e => h (by simp [e])
    have := ib_none (l := l) (fun e => h (by simp [e]))
    simp [Lib.indexByte, this, hb]
theorem ib_some : ∀ {a r : List UInt8}, (10 : UInt8) ∉ a → Lib.indexByte (a ++ 10 :: r) 10 = a.length
  | [], r, _ => by simp [Lib.indexByte]
  | b :: a, r, h => by
    have hb : ¬ b = 10 := fun e => h (by simp [e])
    have := ib_some (a := a) (r := r) (fun e => h (by simp [e]))
    simp only [List.cons_append, Lib.indexByte, this]
    rw [if_neg (by simp [hb]), if_neg (by simp <;> omega)]
    simp
/-- A text at its line feeds. -/
def lns : List UInt8 → List (List UInt8)
  | [] => [[]]
  | b :: r => if b = 10 then [] :: lns r else match lns r with
    | [] => [[b]]
    | x :: xs => (b :: x) :: xs
theorem lns_ne : ∀ l, lns l ≠ []
  | [] => by simp [lns]
  | b :: r => by
    unfold lns
    split
    · simp
    · split <;> simp
theorem lns_none : ∀ {l : List UInt8}, (10 : UInt8) ∉ l → lns l = [l]
  | [], _ => rfl
  | b :: l, h => by
    have hb : ¬ b = 10 := fun e => h (by simp [e])
    have := lns_none (l := l) (fun e => h (by simp [e]))
    simp [lns, hb, this]
theorem lns_some : ∀ {a r : List UInt8}, (10 : UInt8) ∉ a → lns (a ++ 10 :: r) = a :: lns r
  | [], r, _ => by simp [lns]
  | b :: a, r, h => by
    have hb : ¬ b = 10 := fun e => h (by simp [e])
    have := lns_some (a := a) (r := r) (fun e => h (by simp [e]))
    simp [lns, hb, this]
theorem parts_at (l : List UInt8) : (10 : UInt8) ∉ l ∨ ∃ a r, l = a ++ 10 :: r ∧ (10 : UInt8) ∉ a := by
  induction l with
  | nil => left; simp
  | cons b l ih =>
    by_cases hb : b = 10
    · right; exact ⟨[], l, by simp [hb], by simp⟩
    · rcases ih with h | ⟨a, r, rfl, h⟩
      · left; simp [h]; exact fun e => hb e.symm
      · right; exact ⟨b :: a, r, rfl, by simp [h]; exact fun e => hb e.symm⟩
/-- The line of a number, the first being of number k. -/
def look (n : Int) : List (List UInt8) → Int → Option (List UInt8)
  | [], _ => none
  | x :: xs, k => if k = n then some x else look n xs (k + 1)
theorem look_below {n : Int} : ∀ {L : List (List UInt8)} {k : Int}, n < k → look n L k = none
  | [], _, _ => rfl
  | x :: xs, k, h => by
    unfold look
    rw [if_neg (by omega)]
    exact look_below (by omega)
theorem look_at {m : Nat} : ∀ {L : List (List UInt8)} {k : Int}, look (k + m) L k = L[m]?
  | [], _ => by simp [look]
  | x :: xs, k => by
    unfold look
    cases m with
    | zero => simp
    | succ m =>
      rw [if_neg (by omega)]
      have := look_at (m := m) (L := xs) (k := k + 1)
      rw [show k + 1 + (m : Int) = k + ((m + 1 : Nat) : Int) by omega] at this
      rw [this]
      simp
/-- A text without a line feed at its end. -/
def trimN (u : List UInt8) : List UInt8 := Lib.trimSuffix u [10]
theorem trimN_is (u : List UInt8) : trimN u = u ∨ trimN u ++ [10] = u := by
  unfold trimN Lib.trimSuffix
  split
  · rename_i h
    right
    have h2 : [10] <:+ u := List.isSuffixOf_iff_suffix.1 h
    obtain ⟨t, rfl⟩ := h2
    simp
  · left; rfl
theorem trimN_len (u : List UInt8) : (trimN u).length ≤ u.length := by
  rcases trimN_is u with h | h
  · rw [h]; exact Nat.le_refl _
  · have := congrArg List.length h; simp at this; omega
/-- What Line answers. -/
def lineT (o : Option (List UInt8)) : List UInt8 := o.getD []
def lineE (o : Option (List UInt8)) : Int := if o.isSome then 0 else 2
theorem lns_len : ∀ (l : List UInt8), (lns l).length ≤ l.length + 1
  | [] => by simp [lns]
  | b :: r => by
    have := lns_len r
    unfold lns
    split
    · simp; omega
    · split
      · simp
      · rename_i h; rw [h] at this; simp at this ⊢; omega
/-- Lines with line feeds between. -/
def unl : List (List UInt8) → List UInt8
  | [] => []
  | [x] => x
  | x :: y :: xs => x ++ 10 :: unl (y :: xs)
theorem unl_lns : ∀ l, unl (lns l) = l
  | [] => rfl
  | b :: r => by
    have ih := unl_lns r
    have hne := lns_ne r
    unfold lns
    split
    · rename_i hb
      subst hb
      match h : lns r, hne with
      | y :: ys, _ => rw [h] at ih; simp [unl, ih]
    · match h : lns r, hne with
      | [y], _ => rw [h] at ih; simpa [unl] using ih
      | y :: z :: zs, _ => rw [h] at ih; simpa [unl] using ih
theorem unl_snoc : ∀ (L : List (List UInt8)) (x : List UInt8), L ≠ [] → unl (L ++ [x]) = unl L ++ 10 :: x
  | [], _, h => absurd rfl h
  | [y], x, _ => by simp [unl]
  | y :: z :: zs, x, _ => by
    have := unl_snoc (z :: zs) x (by simp)
    simp only [List.cons_append] at this
    simp [unl, this]
theorem unl_take {L : List (List UInt8)} {m : Nat} (h0 : 0 < m) (h : m < L.length) : unl (L.take (m + 1)) = unl (L.take m) ++ 10 :: (L[m]'h) := by
  rw [List.take_succ_eq_append_getElem h, unl_snoc]
  intro e
  have := congrArg List.length e
  rw [List.length_take, List.length_nil] at this
  omega
theorem unl_take_len {L : List (List UInt8)} : ∀ m, m ≤ L.length → (unl (L.take m)).length ≤ (unl L).length := by
  intro m hm
  induction L generalizing m with
  | nil => simp [unl]
  | cons x xs ih =>
    match m, xs, hm, ih with
    | 0, _, _, _ => simp [unl]
    | 1, [], _, _ => simp [unl]
    | 1, y :: ys, _, _ => simp [unl]
    | m + 2, [], hm, _ => simp at hm
    | m + 2, y :: ys, hm, ih =>
      have := ih (m + 1) (by simp at hm ⊢; omega)
      simp [unl] at this ⊢
      omega
end Go.Proofs.YtpfpfnkagmmanaaGreatDoor
