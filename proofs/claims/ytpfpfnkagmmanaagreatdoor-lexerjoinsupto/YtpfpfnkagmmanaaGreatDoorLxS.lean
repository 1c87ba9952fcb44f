/- What tokens a source is told as: one step, and all of them. -/
import Derived.Test.YtpfpfnkagmmanaaGreatDoorLxM
import Derived.Lib.Bytealg
namespace Go.Proofs.YtpfpfnkagmmanaaGreatDoor
open Go.RowKit

/-- A token: its kind, its text, its line. -/
structure Tk where
  k : Int
  t : List UInt8
  n : Int
def signL : List UInt8 := [43, 45, 42, 47, 40, 41, 123, 125, 46, 44, 61, 60]
def signB (b : UInt8) : Bool := signL.contains b
/-- May a text be a label? -/
def labB (x : List UInt8) : Bool := F.lab ⟨x.toArray⟩
/-- What is wrong with an amount. -/
def rdE (x : List UInt8) : Int := (readL x mkQ).2.2
/-- What stands ahead of a rest. -/
def ahead (l r : List UInt8) : List UInt8 := l.take (l.length - r.length)
def wordD (l : List UInt8) : List UInt8 := l.dropWhile fun b => pWord b.toNat
def quoD (l : List UInt8) : List UInt8 := l.dropWhile fun b => pQuo b.toNat
def lineD (l : List UInt8) : List UInt8 := l.dropWhile fun b => pLine b.toNat
def blankD (l : List UInt8) : List UInt8 := l.dropWhile fun b => pBlank b.toNat
/-- The next token, or what is passed over: the rest, its line, the token; or what is wrong. -/
def lexStep (l : List UInt8) (n : Int) : Except Int (List UInt8 × Int × List Tk) :=
  match l with
  | [] => .error 0
  | b :: t =>
    if b = 10 then .ok (t, n + 1, [])
    else if pBlank b.toNat = true then .ok (t, n, [])
    else if b = 35 then .ok (lineD (b :: t), n, [])
    else if letR b.toNat = true then .ok (wordD (b :: t), n, [⟨1, ahead (b :: t) (wordD (b :: t)), n⟩])
    else if digR b.toNat = true then (if rdE (ahead (b :: t) (dropA (b :: t))) = 0 then .ok (dropA (b :: t), n, [⟨2, ahead (b :: t) (dropA (b :: t)), n⟩]) else .error (rdE (ahead (b :: t) (dropA (b :: t)))))
    else if b = 34 then (if (Lib.hasPrefix (quoD t) [34] && labB (ahead t (quoD t))) = true then .ok (Lib.trimPrefix (quoD t) [34], n, [⟨4, ahead t (quoD t), n⟩]) else .error 1)
    else if signB b = true then .ok (t, n, [⟨3, [b], n⟩])
    else .error 1
theorem dropWhile_len {q : UInt8 → Bool} (l : List UInt8) : (l.dropWhile q).length ≤ l.length := (List.dropWhile_suffix q).length_le
theorem trimP_len (l : List UInt8) : (Lib.trimPrefix l [34]).length ≤ l.length := by
  unfold Lib.trimPrefix; split
  · simp
  · exact Nat.le_refl _
theorem ahead_nil (l : List UInt8) : ahead l l = [] := by simp [ahead]
theorem ahead_append {l r a : List UInt8} (h : l = a ++ r) : ahead l r = a := by
  subst h
  simp [ahead]
theorem letR_word {r : Nat} (h : letR r = true) : pWord r = true := by simp [pWord, h]
theorem wordD_lt {b : UInt8} {t : List UInt8} (h : letR b.toNat = true) : (wordD (b :: t)).length ≤ t.length := by
  unfold wordD
  rw [List.dropWhile_cons, if_pos (letR_word h)]
  exact dropWhile_len t
theorem lineD_lt {b : UInt8} {t : List UInt8} (h : b = 35) : (lineD (b :: t)).length ≤ t.length := by
  subst h
  unfold lineD
  rw [List.dropWhile_cons, if_pos (by rfl)]
  exact dropWhile_len t
theorem dropA_lt {b : UInt8} {t : List UInt8} (h : digR b.toNat = true) : (dropA (b :: t)).length ≤ t.length := by
  have ha : amtB b = true := by simp [amtB, h]
  cases t with
  | nil => simp [dropA, ha]
  | cons c t => simp only [dropA, ha, if_true]; exact dropA_len _
theorem lexStep_lt {l r : List UInt8} {n n' : Int} {ts : List Tk} (h : lexStep l n = .ok (r, n', ts)) : r.length < l.length := by
  cases l with
  | nil => cases h
  | cons b t =>
    simp only [lexStep] at h
    split at h
    · cases h; simp
    · split at h
      · cases h; simp
      · split at h
        · rename_i hb
          cases h; have := lineD_lt (t := t) hb; simp only [List.length_cons]; omega
        · split at h
          · rename_i hb; cases h; have := wordD_lt (t := t) hb; simp only [List.length_cons]; omega
          · split at h
            · rename_i hb
              split at h
              · cases h; have := dropA_lt (t := t) hb; simp only [List.length_cons]; omega
              · cases h
            · split at h
              · split at h
                · cases h
                  have h1 := trimP_len (quoD t)
                  have h2 : (quoD t).length ≤ t.length := dropWhile_len t
                  simp only [List.length_cons]; omega
                · cases h
              · split at h
                · cases h; simp
                · cases h
/-- All tokens, from a line on, behind some: with an error its line. -/
def lexN : Nat → List UInt8 → Int → List Tk → List Tk × Int × Int
  | 0, _, _, acc => (acc, 0, 0)
  | f + 1, l, n, acc => if l = [] then (acc, 0, 0) else match lexStep l n with
    | .error e => ([], n, e)
    | .ok (r, n', ts) => lexN f r n' (acc ++ ts)
theorem lexN_fuel : ∀ (f g : Nat) (l : List UInt8) (n : Int) (acc : List Tk), l.length ≤ f → l.length ≤ g → lexN f l n acc = lexN g l n acc
  | 0, 0, _, _, _, _, _ => rfl
  | 0, g + 1, l, n, acc, h, _ => by
    obtain rfl : l = [] := List.eq_nil_of_length_eq_zero (by omega)
    simp [lexN]
  | f + 1, 0, l, n, acc, _, h => by
    obtain rfl : l = [] := List.eq_nil_of_length_eq_zero (by omega)
    simp [lexN]
  | f + 1, g + 1, l, n, acc, hf, hg => by
    simp only [lexN]
    split
    · rfl
    · cases hs : lexStep l n with
      | error e => rfl
      | ok x =>
        obtain ⟨r, n', ts⟩ := x
        have := lexStep_lt hs
        exact lexN_fuel f g r n' _ (by omega) (by omega)
def lexW (l : List UInt8) (n : Int) (acc : List Tk) : List Tk × Int × Int := lexN l.length l n acc
theorem lexW_nil (n : Int) (acc : List Tk) : lexW [] n acc = (acc, 0, 0) := rfl
theorem lexW_ok {l r : List UInt8} {n n' : Int} {ts : List Tk} (h : lexStep l n = .ok (r, n', ts)) (acc : List Tk) : lexW l n acc = lexW r n' (acc ++ ts) := by
  have hlt := lexStep_lt h
  unfold lexW
  obtain ⟨k, hk⟩ : ∃ k, l.length = k + 1 := ⟨l.length - 1, by omega⟩
  rw [hk]
  simp only [lexN]
  rw [if_neg (by intro e; rw [e] at hlt; simp at hlt), h]
  exact lexN_fuel _ _ _ _ _ (by omega) (by omega)
theorem lexW_err {l : List UInt8} {n e : Int} (hl : l ≠ []) (h : lexStep l n = .error e) (acc : List Tk) : lexW l n acc = ([], n, e) := by
  unfold lexW
  obtain ⟨k, hk⟩ : ∃ k, l.length = k + 1 := ⟨l.length - 1, by have := List.length_pos_iff.2 hl; omega⟩
  rw [hk]
  simp only [lexN]
  rw [if_neg hl, h]
/-- What Lex answers. -/
def lexR (u : List UInt8) : List Tk × Int × Int := if 20000 < u.length then ([], 0, 8) else lexW u 1 []

/-! ### the steps, one by one -/
section
variable {b : UInt8} {t : List UInt8} {n : Int}
theorem nat_ne {x y : UInt8} (h : x ≠ y) : x.toNat ≠ y.toNat := fun e => h (UInt8.toNat.inj e)
theorem step_feed : lexStep (10 :: t) n = .ok (t, n + 1, []) := rfl
theorem blank_ne (h : pBlank b.toNat = true) : b ≠ 10 := by
  intro e; subst e; exact absurd h (by decide)
theorem step_blank (h : pBlank b.toNat = true) : lexStep (b :: t) n = .ok (t, n, []) := by
  simp only [lexStep]; rw [if_neg (blank_ne h), if_pos h]
theorem step_remark : lexStep (35 :: t) n = .ok (lineD (35 :: t), n, []) := rfl
theorem let_ne (h : letR b.toNat = true) : b ≠ 10 ∧ pBlank b.toNat = false ∧ b ≠ 35 := by
  unfold letR at h
  simp only [Bool.or_eq_true, decide_eq_true_eq] at h
  refine ⟨fun e => by subst e; simp at h, ?_, fun e => by subst e; simp at h⟩
  unfold pBlank
  simp
  omega
theorem step_word (h : letR b.toNat = true) : lexStep (b :: t) n = .ok (wordD (b :: t), n, [⟨1, ahead (b :: t) (wordD (b :: t)), n⟩]) := by
  obtain ⟨h1, h2, h3⟩ := let_ne h
  simp only [lexStep]; rw [if_neg h1, if_neg (by rw [h2]; simp), if_neg h3, if_pos h]
theorem dig_ne (h : digR b.toNat = true) : b ≠ 10 ∧ pBlank b.toNat = false ∧ b ≠ 35 ∧ letR b.toNat = false := by
  unfold digR at h
  simp only [decide_eq_true_eq] at h
  refine ⟨fun e => by subst e; simp at h, ?_, fun e => by subst e; simp at h, ?_⟩
  · unfold pBlank; simp; omega
  · unfold letR; simp; omega
theorem step_amount (h : digR b.toNat = true) (hr : rdE (ahead (b :: t) (dropA (b :: t))) = 0) : lexStep (b :: t) n = .ok (dropA (b :: t), n, [⟨2, ahead (b :: t) (dropA (b :: t)), n⟩]) := by
  obtain ⟨h1, h2, h3, h4⟩ := dig_ne h
  simp only [lexStep]; rw [if_neg h1, if_neg (by rw [h2]; simp), if_neg h3, if_neg (by rw [h4]; simp), if_pos h, if_pos hr]
theorem step_amountE (h : digR b.toNat = true) (hr : rdE (ahead (b :: t) (dropA (b :: t))) ≠ 0) : lexStep (b :: t) n = .error (rdE (ahead (b :: t) (dropA (b :: t)))) := by
  obtain ⟨h1, h2, h3, h4⟩ := dig_ne h
  simp only [lexStep]; rw [if_neg h1, if_neg (by rw [h2]; simp), if_neg h3, if_neg (by rw [h4]; simp), if_pos h, if_neg hr]
theorem step_string (h : (Lib.hasPrefix (quoD t) [34] && labB (ahead t (quoD t))) = true) : lexStep (34 :: t) n = .ok (Lib.trimPrefix (quoD t) [34], n, [⟨4, ahead t (quoD t), n⟩]) := by
  simp only [lexStep]
  rw [if_neg (by decide), if_neg (by decide), if_neg (by decide), if_neg (by decide), if_neg (by decide), if_pos trivial, if_pos h]
theorem step_stringE (h : (Lib.hasPrefix (quoD t) [34] && labB (ahead t (quoD t))) = false) : lexStep (34 :: t) n = .error 1 := by
  simp only [lexStep]
  rw [if_neg (by decide), if_neg (by decide), if_neg (by decide), if_neg (by decide), if_neg (by decide), if_pos trivial, if_neg (by rw [h]; simp)]
theorem sign_all : ∀ c ∈ signL, c ≠ 10 ∧ pBlank c.toNat = false ∧ c ≠ 35 ∧ letR c.toNat = false ∧ digR c.toNat = false ∧ c ≠ 34 ∧ c.toNat < 128 := by decide
theorem sign_ne (h : signB b = true) : b ≠ 10 ∧ pBlank b.toNat = false ∧ b ≠ 35 ∧ letR b.toNat = false ∧ digR b.toNat = false ∧ b ≠ 34 ∧ b.toNat < 128 := sign_all b (List.contains_iff_mem.1 h)
theorem step_sign (h : signB b = true) : lexStep (b :: t) n = .ok (t, n, [⟨3, [b], n⟩]) := by
  obtain ⟨h1, h2, h3, h4, h5, h6, _⟩ := sign_ne h
  simp only [lexStep]; rw [if_neg h1, if_neg (by rw [h2]; simp), if_neg h3, if_neg (by rw [h4]; simp), if_neg (by rw [h5]; simp), if_neg h6, if_pos h]
theorem step_none (h1 : b ≠ 10) (h2 : pBlank b.toNat = false) (h3 : b ≠ 35) (h4 : letR b.toNat = false) (h5 : digR b.toNat = false) (h6 : b ≠ 34) (h7 : signB b = false) : lexStep (b :: t) n = .error 1 := by
  simp only [lexStep]; rw [if_neg h1, if_neg (by rw [h2]; simp), if_neg h3, if_neg (by rw [h4]; simp), if_neg (by rw [h5]; simp), if_neg h6, if_neg (by rw [h7]; simp)]
theorem high_ne (h : 128 ≤ b.toNat) : b ≠ 10 ∧ pBlank b.toNat = false ∧ b ≠ 35 ∧ letR b.toNat = false ∧ digR b.toNat = false ∧ b ≠ 34 ∧ signB b = false := by
  refine ⟨fun e => by subst e; simp at h, ?_, fun e => by subst e; simp at h, ?_, ?_, fun e => by subst e; simp at h, ?_⟩
  · unfold pBlank; simp; omega
  · unfold letR; simp; omega
  · unfold digR; simp; omega
  · cases hs : signB b with
    | false => rfl
    | true => have := (sign_ne hs).2.2.2.2.2.2; omega
/-- What a byte that is no blank begins. -/
theorem head_ways (b : UInt8) : b = 10 ∨ b = 35 ∨ b = 34 ∨ letR b.toNat = true ∨ digR b.toNat = true ∨ signB b = true ∨
    (b ≠ 10 ∧ b ≠ 35 ∧ b ≠ 34 ∧ letR b.toNat = false ∧ digR b.toNat = false ∧ signB b = false) := by
  by_cases h1 : b = 10
  · exact .inl h1
  by_cases h2 : b = 35
  · exact .inr (.inl h2)
  by_cases h3 : b = 34
  · exact .inr (.inr (.inl h3))
  cases h4 : letR b.toNat with
  | true => simp
  | false =>
    cases h5 : digR b.toNat with
    | true => simp
    | false =>
      cases h6 : signB b with
      | true => simp
      | false => simp [h1, h2, h3]
end
theorem lexW_blanks : ∀ (l : List UInt8) (n : Int) (acc : List Tk), lexW l n acc = lexW (blankD l) n acc
  | [], _, _ => rfl
  | b :: t, n, acc => by
    unfold blankD
    rw [List.dropWhile_cons]
    split
    · rename_i h
      rw [lexW_ok (step_blank h), List.append_nil]
      exact lexW_blanks t n acc
    · rfl
theorem blankD_head {l t : List UInt8} {b : UInt8} (h : blankD l = b :: t) : pBlank b.toNat = false := by
  have := List.head?_dropWhile_not (fun b : UInt8 => pBlank b.toNat) l
  unfold blankD at h
  rw [h] at this
  simpa using this
theorem ib_low : ∀ (l : List UInt8) (b : UInt8), -1 ≤ Lib.indexByte l b
  | [], _ => by simp [Lib.indexByte]
  | a :: l, b => by
    have := ib_low l b
    unfold Lib.indexByte
    split
    · omega
    · split
      · omega
      · omega
theorem ib_mem : ∀ (l : List UInt8) (b : UInt8), 0 ≤ Lib.indexByte l b ↔ b ∈ l
  | [], b => by simp [Lib.indexByte]
  | a :: l, b => by
    have ih := ib_mem l b
    have lo := ib_low l b
    unfold Lib.indexByte
    split
    · rename_i h
      simp at h
      simp [h]
    · rename_i h
      simp at h
      have hba : ¬ b = a := fun e => h e.symm
      split
      · rename_i h2
        simp at h2
        rw [h2] at ih
        simp [hba] at ih ⊢
        exact ih
      · rename_i h2
        simp at h2
        simp only [List.mem_cons, hba, false_or]
        rw [← ih]
        omega
theorem indexByte_sign (l : List UInt8) (b : UInt8) : decide (0 ≤ Lib.indexByte l b) = l.contains b := by
  rw [Bool.eq_iff_iff, decide_eq_true_eq, List.contains_iff_mem]
  exact ib_mem l b
end Go.Proofs.YtpfpfnkagmmanaaGreatDoor
