/- The plain functions of reading a quantity: digits, thousandths, units; no Go in sight. -/
import Derived.Lib.MapU
import Derived.Lib.ItoaNum
import Derived.Lib.Strings
namespace Go.Proofs.YtpfpfnkagmmanaaGreatDoor

/-- Is a byte a digit? -/
def isDig (b : UInt8) : Bool := [48, 49, 50, 51, 52, 53, 54, 55, 56, 57].contains b
/-- A digit's worth. -/
def dg (b : UInt8) : Int := (b.toNat : Int) - 48
/-- One digit more, bounded. -/
def up (n : Int) (b : UInt8) : Int := min (10 * n + dg b) 2000000000
/-- One digit more. -/
def on (n : Int) (b : UInt8) : Int := 10 * n + dg b
def wholeOf (l : List UInt8) : Int := l.foldl up 0
/-- Thousandths of a number, told by its digits ahead of the dot and behind it. -/
def thou (w f : List UInt8) : Int := ((f ++ [48, 48, 48]).take 3).foldl on (wholeOf w)
/-- How the units are called: kind, size, shift. -/
def units : List (List UInt8 × Int × Int × Int) :=
  [([], 0, 1, 0), ([110, 108], 1, 1, 0), ([117, 108], 1, 1000, 0), ([109, 108], 1, 1000000, 0), ([117, 109], 2, 1, 0), ([109, 109], 2, 1000, 0), ([99, 109], 2, 10000, 0), ([109, 75], 3, 1, 0), ([75], 3, 1000, 0), ([67], 3, 1000, 273150), ([109, 115], 4, 1, 0), ([115], 4, 1000, 0), ([109, 105, 110], 4, 60000, 0), ([104], 4, 3600000, 0), ([114, 112, 109], 5, 1, 0)]
/-- The micro sign and the Greek mu are u. -/
def plainF (r : Int) : Int := if r = 181 ∨ r = 956 then 117 else r
def meas (name : List UInt8) : Option (Int × Int × Int) := (units.find? fun u => u.1 == name).map (·.2)

theorem isDig_iff (b : UInt8) : isDig b = true ↔ 48 ≤ b.toNat ∧ b.toNat ≤ 57 := by
  have e : ∀ m : UInt8, (b = m) = (b.toNat = m.toNat) := fun m => propext ⟨fun h => by rw [h], fun h => UInt8.toNat.inj h⟩
  simp only [isDig, List.contains_cons, List.contains_nil, Bool.or_false, Bool.or_eq_true, beq_iff_eq, e]
  have : (48 : UInt8).toNat = 48 ∧ (49 : UInt8).toNat = 49 ∧ (50 : UInt8).toNat = 50 ∧ (51 : UInt8).toNat = 51 ∧ (52 : UInt8).toNat = 52 ∧ (53 : UInt8).toNat = 53 ∧ (54 : UInt8).toNat = 54 ∧ (55 : UInt8).toNat = 55 ∧ (56 : UInt8).toNat = 56 ∧ (57 : UInt8).toNat = 57 := by decide
  omega
theorem dg_in {b : UInt8} (h : isDig b = true) : 0 ≤ dg b ∧ dg b ≤ 9 := by
  have := (isDig_iff b).1 h
  unfold dg; omega
theorem up_in {n : Int} {b : UInt8} (h : isDig b = true) (h0 : 0 ≤ n) : 0 ≤ up n b ∧ up n b ≤ 2000000000 := by
  have := dg_in h
  unfold up; omega
theorem fold_up_in : ∀ (l : List UInt8) (n : Int), (∀ b ∈ l, isDig b = true) → 0 ≤ n → n ≤ 2000000000 → 0 ≤ l.foldl up n ∧ l.foldl up n ≤ 2000000000
  | [], n, _, h0, h1 => ⟨h0, h1⟩
  | b :: l, n, h, h0, _ => by
    have hb := up_in (h b (by simp)) h0
    exact fold_up_in l (up n b) (fun c hc => h c (by simp [hc])) hb.1 hb.2
theorem wholeOf_in (l : List UInt8) (h : ∀ b ∈ l, isDig b = true) : 0 ≤ wholeOf l ∧ wholeOf l ≤ 2000000000 := fold_up_in l 0 h (by decide) (by decide)
theorem thou_in (w f : List UInt8) (hw : ∀ b ∈ w, isDig b = true) (hf : ∀ b ∈ f, isDig b = true) : 0 ≤ thou w f ∧ thou w f ≤ 2000000000999 := by
  have h := wholeOf_in w hw
  unfold thou
  have h3 : ((f ++ [48, 48, 48]).take 3).length = 3 := by rw [List.length_take, List.length_append]; simp
  have hd : ∀ b ∈ (f ++ [48, 48, 48]).take 3, isDig b = true := fun b hb => by
    have := List.mem_of_mem_take hb
    simp only [List.mem_append, List.mem_cons, List.mem_nil_iff, or_false] at this
    rcases this with h | h | h | h
    · exact hf b h
    all_goals (subst h; decide)
  generalize (f ++ [48, 48, 48]).take 3 = l at *
  match l, h3 with
  | [a, b, c], _ =>
    have ha := dg_in (hd a (by simp)); have hb := dg_in (hd b (by simp)); have hc := dg_in (hd c (by simp))
    simp only [List.foldl_cons, List.foldl_nil, on]
    omega

/-! ### the numeral -/
theorem decDigits_dig (u : Nat) : ∀ b ∈ Lib.decDigits u, isDig b = true := by
  induction u using Nat.strongRecOn with
  | _ u ih =>
    intro b hb
    rw [Lib.decDigits] at hb
    have key : ∀ m : Nat, m < 10 → isDig (UInt8.ofNat (48 + m)) = true := fun m hm => by
      rw [isDig_iff, UInt8.toNat_ofNat']
      omega
    split at hb
    · simp only [List.mem_cons, List.mem_nil_iff, or_false] at hb
      subst hb; exact key u (by assumption)
    · rename_i h
      simp only [List.mem_append, List.mem_cons, List.mem_nil_iff, or_false] at hb
      rcases hb with hb | hb
      · exact ih (u / 10) (by omega) b hb
      · subst hb; exact key (u % 10) (by omega)
theorem decDigits_ne (u : Nat) : Lib.decDigits u ≠ [] := by
  rw [Lib.decDigits]; split <;> simp
theorem dg_of (m : Nat) (h : m < 10) : dg (UInt8.ofNat (48 + m)) = m := by
  unfold dg; rw [UInt8.toNat_ofNat']; omega
theorem wholeOf_dec (u : Nat) : u ≤ 2000000000 → wholeOf (Lib.decDigits u) = u := by
  induction u using Nat.strongRecOn with
  | _ u ih =>
    intro hu
    rw [Lib.decDigits]
    split
    · rename_i h
      simp only [wholeOf, List.foldl_cons, List.foldl_nil, up, dg_of u h]; omega
    · rename_i h
      have := ih (u / 10) (by omega) (by omega)
      unfold wholeOf at this ⊢
      rw [List.foldl_append, this]
      simp only [List.foldl_cons, List.foldl_nil, up, dg_of (u % 10) (by omega)]; omega
theorem thou_none (w : List UInt8) : thou w [] = 1000 * wholeOf w := by
  have e : dg 48 = 0 := by decide
  simp only [thou, List.nil_append, List.take, List.foldl_cons, List.foldl_nil, on, e]
  omega

theorem take_digs : ∀ (d r : List UInt8), (∀ b ∈ d, isDig b = true) → (∀ b, r.head? = some b → isDig b = false) → (d ++ r).takeWhile isDig = d ∧ (d ++ r).dropWhile isDig = r
  | [], [], _, _ => ⟨rfl, rfl⟩
  | [], b :: r, _, h => by
    have := h b rfl
    simp [this]
  | a :: d, r, h, hr => by
    have ha := h a (by simp)
    have := take_digs d r (fun b hb => h b (by simp [hb])) hr
    simp [ha, this.1, this.2]
theorem take_all {l : List UInt8} : ∀ b ∈ l.takeWhile isDig, isDig b = true := fun b hb => by
  induction l with
  | nil => simp at hb
  | cons a l ih =>
    rw [List.takeWhile_cons] at hb
    split at hb
    · simp only [List.mem_cons] at hb
      rcases hb with rfl | hb
      · assumption
      · exact ih hb
    · simp at hb

/-- What reading comes to, behind the digits. -/
def fin (neg : Bool) (w f r : List UInt8) (mk : Int → Int → Int × Int × Int) : Int × Int × Int :=
  match meas (Lib.mapD plainF r) with
  | none => (0, 0, 1)
  | some (k, size, shift) => if thou w f * size % 1000 ≠ 0 then (0, 0, 2) else mk k ((if neg then -(thou w f * size) else thou w f * size).tdiv 1000 + shift)
/-- What reading comes to. -/
def readL (l : List UInt8) (mk : Int → Int → Int × Int × Int) : Int × Int × Int :=
  let r0 := Lib.trimPrefix l [45]
  let w := r0.takeWhile isDig
  let r1 := r0.dropWhile isDig
  if w = [] then (0, 0, 1)
  else if Lib.hasPrefix r1 [46] = true then
    (let r2 := Lib.trimPrefix r1 [46]
     let f := r2.takeWhile isDig
     if f = [] ∨ 3 < f.length then (0, 0, 1) else fin (Lib.hasPrefix l [45]) w f (r2.dropWhile isDig) mk)
  else fin (Lib.hasPrefix l [45]) w [] r1 mk
end Go.Proofs.YtpfpfnkagmmanaaGreatDoor
