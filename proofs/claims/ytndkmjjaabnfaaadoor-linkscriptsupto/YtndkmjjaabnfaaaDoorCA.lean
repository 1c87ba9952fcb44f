/- Commands as lines: the plain functions; no Go in sight. -/
import Derived.Lib.ItoaNum
import Derived.Lib.Strings
import Derived.Lib.Atoi
import Derived.Lib.IndexMore
namespace Go.Proofs.YtndkmjjaabnfaaaDoor

/-- Is a byte a digit? -/
def isDig (b : UInt8) : Bool := [48, 49, 50, 51, 52, 53, 54, 55, 56, 57].contains b
theorem isDig_iff (b : UInt8) : isDig b = true ↔ 48 ≤ b.toNat ∧ b.toNat ≤ 57 := by
  have e : ∀ m : UInt8, (b = m) = (b.toNat = m.toNat) := fun m => propext ⟨fun h => by rw [h], fun h => UInt8.toNat.inj h⟩
  simp only [isDig, List.contains_cons, List.contains_nil, Bool.or_false, Bool.or_eq_true, beq_iff_eq, e]
  have : (48 : UInt8).toNat = 48 ∧ (49 : UInt8).toNat = 49 ∧ (50 : UInt8).toNat = 50 ∧ (51 : UInt8).toNat = 51 ∧ (52 : UInt8).toNat = 52 ∧ (53 : UInt8).toNat = 53 ∧ (54 : UInt8).toNat = 54 ∧ (55 : UInt8).toNat = 55 ∧ (56 : UInt8).toNat = 56 ∧ (57 : UInt8).toNat = 57 := by decide
  omega

/-- The first word of each kind. -/
def firstW : Nat → List UInt8
  | 1 => [71, 50, 56]
  | 2 => [71, 49]
  | 3 => [77, 49]
  | 4 => [77, 50]
  | 5 => [77, 51]
  | 6 => [77, 49, 48, 52]
  | 7 => [71, 52]
  | 8 => [77, 49, 48, 54]
  | _ => []
/-- The letter ahead of each of its four numbers, if it has one. -/
def letW : Nat → Nat → List UInt8
  | 2, 0 => [88]
  | 2, 1 => [89]
  | 2, 2 => [90]
  | 3, 3 => [83]
  | 6, 3 => [83]
  | 7, 3 => [80]
  | 8, 3 => [83]
  | _, _ => []
/-- Four numbers in order. -/
def nm (x y z v : Int) : Nat → Int
  | 0 => x
  | 1 => y
  | 2 => z
  | _ => v
/-- A number with its letter, if the kind has it. -/
def partL (k i : Nat) (n : Int) : List UInt8 := if letW k i = [] then [] else (32 :: letW k i) ++ Lib.itoa n
def headL (n : Int) (k : Nat) : List UInt8 := [78] ++ Lib.itoa n ++ [32] ++ firstW k
def upL (n : Int) (k : Nat) (f : Nat → Int) : Nat → List UInt8
  | 0 => headL n k
  | i + 1 => upL n k f i ++ partL k i (f i)
/-- A line without its sum. -/
def bodyL (n : Int) (k : Nat) (x y z v : Int) : List UInt8 := upL n k (nm x y z v) 4
def xorL (l : List UInt8) : UInt8 := l.foldl (fun a b => a ^^^ b) 0
def sumL (l : List UInt8) : Int := ((xorL l).toNat : Int)
/-- A line. -/
def lineL (n : Int) (k : Nat) (x y z v : Int) : List UInt8 := bodyL n k x y z v ++ [42] ++ Lib.itoa (sumL (bodyL n k x y z v))

/-- May the numbers be? -/
def inP (n : Int) : Bool := decide (-10000000 ≤ n) && decide (n ≤ 10000000)
def inRg (x y z v : Int) : Bool := inP x && inP y && inP z && (decide (0 ≤ v) && decide (v ≤ 1000000000))
/-- Is there a letter for each number that is not 0? -/
def usedC (k : Nat) (x y z v : Int) : Bool := (x == 0 || letW k 0 != []) && (y == 0 || letW k 1 != []) && (z == 0 || letW k 2 != []) && (v == 0 || letW k 3 != [])
/-- What is wrong with a command: 6, 2, 1, or nothing. -/
def chkC (k x y z v : Int) : Int := if k < 1 ∨ 8 < k then 6 else if inRg x y z v = false then 2 else if usedC k.toNat x y z v = false then 1 else 0
def refuC (n k x y z v : Int) : Int := if n < 0 ∨ 100000 < n then 7 else chkC k x y z v

theorem inP_iff {n : Int} : inP n = true ↔ -10000000 ≤ n ∧ n ≤ 10000000 := by simp [inP]
theorem inRg_iff {x y z v : Int} : inRg x y z v = true ↔ (-10000000 ≤ x ∧ x ≤ 10000000) ∧ (-10000000 ≤ y ∧ y ≤ 10000000) ∧ (-10000000 ≤ z ∧ z ≤ 10000000) ∧ (0 ≤ v ∧ v ≤ 1000000000) := by
  simp [inRg, inP_iff, and_assoc]
theorem used_iff {k : Nat} {x y z v : Int} : usedC k x y z v = true ↔ ∀ i, i < 4 → letW k i = [] → nm x y z v i = 0 := by
  constructor
  · intro h i hi hl
    simp only [usedC, Bool.and_eq_true, Bool.or_eq_true, beq_iff_eq, bne_iff_ne] at h
    obtain ⟨⟨⟨h0, h1⟩, h2⟩, h3⟩ := h
    rcases (show i = 0 ∨ i = 1 ∨ i = 2 ∨ i = 3 by omega) with e | e | e | e
    all_goals subst e
    · exact h0.elim id fun q => absurd hl q
    · exact h1.elim id fun q => absurd hl q
    · exact h2.elim id fun q => absurd hl q
    · exact h3.elim id fun q => absurd hl q
  · intro h
    have q : ∀ i, i < 4 → (nm x y z v i == 0 || letW k i != []) = true := fun i hi => by
      by_cases e : letW k i = []
      · simp [h i hi e]
      · simp [e]
    have q0 := q 0 (by decide); have q1 := q 1 (by decide); have q2 := q 2 (by decide); have q3 := q 3 (by decide)
    simp only [nm] at q0 q1 q2 q3
    simp [usedC, q0, q1, q2, q3]
/-- What may be printed. -/
theorem refu_ok {n k x y z v : Int} : refuC n k x y z v = 0 ↔ (0 ≤ n ∧ n ≤ 100000) ∧ (1 ≤ k ∧ k ≤ 8) ∧ inRg x y z v = true ∧ usedC k.toNat x y z v = true := by
  unfold refuC chkC
  constructor
  · intro h
    split at h
    · omega
    · split at h
      · omega
      · split at h
        · omega
        · split at h
          · omega
          · rename_i a b c d
            exact ⟨by omega, by omega, by simpa using c, by simpa using d⟩
  · rintro ⟨h1, h2, h3, h4⟩
    rw [if_neg (by omega), if_neg (by omega), if_neg (by simp [h3]), if_neg (by simp [h4])]

/-! ### numerals -/
theorem decFrom_snoc {c : UInt8} {d : Nat} (hd : Lib.digitVal c = some d) : ∀ (l : List UInt8) (a m : Nat), Lib.decFrom a l = some m → Lib.decFrom a (l ++ [c]) = some (m * 10 + d)
  | [], a, m, hm => by
    simp only [Lib.decFrom, Option.some.injEq] at hm
    subst hm
    simp [Lib.decFrom, hd]
  | b :: r, a, m, hm => by
    simp only [List.cons_append, Lib.decFrom] at hm ⊢
    cases hc : Lib.digitVal b with
    | none => simp [hc] at hm
    | some e => simp only [hc] at hm ⊢; exact decFrom_snoc hd r _ _ hm
theorem dec_facts : ∀ u : Nat, (∀ b ∈ Lib.decDigits u, isDig b = true) ∧ Lib.decDigits u ≠ [] ∧ Lib.decFrom 0 (Lib.decDigits u) = some u := by
  intro u
  induction u using Nat.strongRecOn with
  | _ u ih =>
    by_cases h : u < 10
    · rw [Lib.decDigits_one h]
      exact (by decide : ∀ u, u < 10 → (∀ b ∈ [UInt8.ofNat (48 + u)], isDig b = true) ∧ [UInt8.ofNat (48 + u)] ≠ [] ∧ Lib.decFrom 0 [UInt8.ofNat (48 + u)] = some u) u h
    · obtain ⟨i1, i2, i3⟩ := ih (u / 10) (by omega)
      have hd : isDig (UInt8.ofNat (48 + u % 10)) = true ∧ Lib.digitVal (UInt8.ofNat (48 + u % 10)) = some (u % 10) :=
        (by decide : ∀ d, d < 10 → isDig (UInt8.ofNat (48 + d)) = true ∧ Lib.digitVal (UInt8.ofNat (48 + d)) = some d) (u % 10) (by omega)
      rw [Lib.decDigits, dif_neg h]
      refine ⟨fun b hb => ?_, by simp, ?_⟩
      · rcases List.mem_append.1 hb with h | h
        · exact i1 b h
        · rw [List.mem_singleton.1 h]; exact hd.1
      · have key := decFrom_snoc hd.2
        rw [key _ 0 _ i3]
        congr 1
        omega
theorem dec_short : ∀ (n u : Nat), u < 10 ^ (n + 1) → (Lib.decDigits u).length ≤ n + 1 := by
  intro n
  induction n with
  | zero => intro u h; rw [Lib.decDigits_one (by simpa using h)]; simp
  | succ n ih =>
    intro u h
    by_cases h1 : u < 10
    · rw [Lib.decDigits_one h1]; simp
    · rw [Lib.decDigits, dif_neg h1, List.length_append]
      have := ih (u / 10) (by rw [Nat.pow_succ] at h; omega)
      simp only [List.length_singleton]
      omega
theorem itoa_pos {n : Int} (h : ¬ n < 0) : Lib.itoa n = Lib.decDigits n.toNat := by unfold Lib.itoa; rw [if_neg h]
theorem itoa_neg {n : Int} (h : n < 0) : Lib.itoa n = 45 :: Lib.decDigits n.natAbs := by unfold Lib.itoa; rw [if_pos h]
theorem dig_ne {b : UInt8} (h : isDig b = true) {c : UInt8} (hc : isDig c = false) : b ≠ c := fun e => by rw [e, hc] at h; cases h
theorem dec_notin (u : Nat) {c : UInt8} (hc : isDig c = false) : c ∉ Lib.decDigits u := fun h => dig_ne ((dec_facts u).1 c h) hc rfl
theorem itoa_notin (n : Int) {c : UInt8} (hc : isDig c = false) (h45 : c ≠ 45) : c ∉ Lib.itoa n := by
  by_cases h : n < 0
  · rw [itoa_neg h]
    simp only [List.mem_cons, not_or]
    exact ⟨h45, dec_notin _ hc⟩
  · rw [itoa_pos h]; exact dec_notin _ hc
theorem itoa_len {n : Int} (h0 : -9999999999 ≤ n) (h1 : n ≤ 9999999999) : 1 ≤ (Lib.itoa n).length ∧ (Lib.itoa n).length ≤ 11 := by
  have g : ∀ u : Nat, 1 ≤ (Lib.decDigits u).length := fun u => by
    cases e : Lib.decDigits u with
    | nil => exact absurd e (dec_facts u).2.1
    | cons _ _ => simp
  by_cases h : n < 0
  · rw [itoa_neg h]
    have := dec_short 9 n.natAbs (by omega)
    simp only [List.length_cons]; omega
  · rw [itoa_pos h]
    have := dec_short 9 n.toNat (by omega)
    have := g n.toNat
    omega
theorem atoi_itoa (n : Int) : Lib.atoi (Lib.itoa n) = some n := by
  have g : ∀ u : Nat, Lib.decNat (Lib.decDigits u) = some u := fun u => by
    unfold Lib.decNat
    have h := dec_facts u
    rw [if_neg (by simpa using h.2.1)]
    exact h.2.2
  by_cases h : n < 0
  · rw [itoa_neg h]
    simp only [Lib.atoi]
    rw [if_pos (by decide), g]
    simp only [Option.map]
    congr 1; omega
  · rw [itoa_pos h]
    cases e : Lib.decDigits n.toNat with
    | nil => exact absurd e (dec_facts _).2.1
    | cons b r =>
      have hb : isDig b = true := (dec_facts n.toNat).1 b (by rw [e]; simp)
      simp only [Lib.atoi]
      rw [if_neg (by simpa using dig_ne hb (c := 45) (by decide)), if_neg (by simpa using dig_ne hb (c := 43) (by decide)), ← e, g]
      simp only [Option.map]
      congr 1; omega

/-! ### what a reader takes -/
/-- What is left of a text, and whether something was missing. -/
abbrev Rd := List UInt8 × Bool
def takeR (t : List UInt8) (r : Rd) : Rd := (Lib.trimPrefix r.1 t, r.2 || !Lib.hasPrefix r.1 t)
def wordR (r : Rd) : List UInt8 := (Lib.cut r.1 [32]).1
def restR (r : Rd) : Rd := (r.1.drop (wordR r).length, r.2)
def unsg (l : List UInt8) : List UInt8 := Lib.trimPrefix l [45]
def leftN (l : List UInt8) : List UInt8 := (unsg l).dropWhile isDig
def numT (l : List UInt8) : List UInt8 := l.take (l.length - (leftN l).length)
def plainR (t : List UInt8) : Int × Bool := match Lib.atoi t with
  | some v => (v, decide (Lib.itoa v = t))
  | none => (0, false)
def numV (most : Nat) (l : List UInt8) : Int × Bool := if (unsg l).length - (leftN l).length ≤ most then plainR (numT l) else (0, false)
def numR (most : Nat) (r : Rd) : Rd := (leftN r.1, r.2 || !(numV most r.1).2)

theorem drop_le (l : List UInt8) : (l.dropWhile isDig).length ≤ l.length := by
  induction l with
  | nil => simp
  | cons a l ih => simp only [List.dropWhile_cons]; split <;> simp <;> omega
theorem drop_suf (l : List UInt8) : ∃ t, l = t ++ l.dropWhile isDig := ⟨l.takeWhile isDig, (List.takeWhile_append_dropWhile).symm⟩
theorem trim_suf (l p : List UInt8) : ∃ t, l = t ++ Lib.trimPrefix l p := by
  unfold Lib.trimPrefix
  split
  · exact ⟨l.take p.length, (List.take_append_drop _ _).symm⟩
  · exact ⟨[], rfl⟩
theorem unsg_le (l : List UInt8) : (unsg l).length ≤ l.length := Lib.trimPrefix_le _ _
theorem leftN_le (l : List UInt8) : (leftN l).length ≤ (unsg l).length := drop_le _
theorem num_parts (l : List UInt8) : l = numT l ++ leftN l := by
  obtain ⟨a, ha⟩ := trim_suf l [45]
  obtain ⟨b, hb⟩ := drop_suf (unsg l)
  have h : l = (a ++ b) ++ leftN l := by
    rw [List.append_assoc]
    have : b ++ leftN l = unsg l := hb.symm
    rw [this]; exact ha
  unfold numT
  have e : l.length - (leftN l).length = (a ++ b).length := by
    have := congrArg List.length h
    rw [List.length_append] at this
    omega
  rw [e]
  generalize leftN l = r at h
  subst h
  rw [List.take_left]
theorem prefix_eq {l t : List UInt8} (h : Lib.hasPrefix l t = true) : l = t ++ Lib.trimPrefix l t := by
  unfold Lib.trimPrefix
  rw [if_pos h]
  have h2 : t.isPrefixOf l = true := h
  rw [List.isPrefixOf_iff_prefix] at h2
  obtain ⟨s, hs⟩ := h2
  rw [← hs]; simp
theorem take_only {t : List UInt8} {r : Rd} (h : (takeR t r).2 = false) : r.2 = false ∧ r.1 = t ++ (takeR t r).1 := by
  simp only [takeR, Bool.or_eq_false_iff, Bool.not_eq_false'] at h
  exact ⟨h.1, prefix_eq h.2⟩
theorem plain_only {t : List UInt8} (h : (plainR t).2 = true) : t = Lib.itoa (plainR t).1 := by
  unfold plainR at h ⊢
  split at h
  · rename_i v e
    simp only at h ⊢
    exact (of_decide_eq_true h).symm
  · cases h
theorem num_only {m : Nat} {r : Rd} (h : (numR m r).2 = false) : r.2 = false ∧ r.1 = Lib.itoa (numV m r.1).1 ++ (numR m r).1 := by
  simp only [numR, Bool.or_eq_false_iff, Bool.not_eq_false'] at h
  refine ⟨h.1, ?_⟩
  have h2 := h.2
  unfold numV at h2 ⊢
  split at h2
  · rename_i hle
    rw [if_pos hle, ← plain_only h2]
    exact num_parts r.1
  · cases h2
theorem word_parts (r : Rd) : r.1 = wordR r ++ (restR r).1 := by
  have h : ∃ s, r.1 = wordR r ++ s := by
    unfold wordR Lib.cut
    split
    · exact ⟨r.1.drop (Lib.index r.1 [32]).toNat, (List.take_append_drop _ _).symm⟩
    · exact ⟨[], (List.append_nil _).symm⟩
  obtain ⟨s, hs⟩ := h
  unfold restR
  simp only
  generalize wordR r = w at hs
  rw [hs]; simp

/-- What follows a number: nothing, or a sign that is no digit. -/
def ND (r : List UInt8) : Prop := ∀ b, r.head? = some b → isDig b = false
theorem nd_nil : ND [] := fun b h => by cases h
theorem nd_cons {b : UInt8} {r : List UInt8} (h : isDig b = false) : ND (b :: r) := fun c hc => by simp at hc; rw [← hc]; exact h
theorem drop_digs : ∀ (d r : List UInt8), (∀ b ∈ d, isDig b = true) → ND r → (d ++ r).dropWhile isDig = r
  | [], [], _, _ => rfl
  | [], b :: r, _, h => by simp [h b rfl]
  | a :: d, r, h, hr => by
    have ha := h a (by simp)
    simp only [List.cons_append, List.dropWhile_cons, ha, if_true]
    exact drop_digs d r (fun b hb => h b (by simp [hb])) hr
theorem trim_hit (t r : List UInt8) : Lib.hasPrefix (t ++ r) t = true ∧ Lib.trimPrefix (t ++ r) t = r := by
  have h : Lib.hasPrefix (t ++ r) t = true := by
    show t.isPrefixOf (t ++ r) = true
    rw [List.isPrefixOf_iff_prefix]; exact List.prefix_append _ _
  refine ⟨h, ?_⟩
  unfold Lib.trimPrefix
  rw [if_pos h]; simp
theorem trim_no {b c : UInt8} {r : List UInt8} (h : b ≠ c) : Lib.trimPrefix (b :: r) [c] = b :: r := by
  unfold Lib.trimPrefix Lib.hasPrefix
  rw [if_neg]
  simp [List.isPrefixOf]
  exact fun e => h e.symm
theorem take_back (t r : List UInt8) (f : Bool) : takeR t (t ++ r, f) = (r, f) := by
  obtain ⟨h1, h2⟩ := trim_hit t r
  simp [takeR, h1, h2]
theorem plain_back (n : Int) : plainR (Lib.itoa n) = (n, true) := by
  unfold plainR
  rw [atoi_itoa]; simp
/-- How many digits a number has. -/
def digN (n : Int) : Nat := (Lib.decDigits n.natAbs).length
theorem num_back {m : Nat} {n : Int} {r : List UInt8} (hm : digN n ≤ m) (hr : ND r) : numV m (Lib.itoa n ++ r) = (n, true) ∧ leftN (Lib.itoa n ++ r) = r := by
  have hu : unsg (Lib.itoa n ++ r) = Lib.decDigits n.natAbs ++ r := by
    unfold unsg
    by_cases h : n < 0
    · rw [itoa_neg h]
      exact (trim_hit [45] (Lib.decDigits n.natAbs ++ r)).2
    · rw [itoa_pos h, show n.toNat = n.natAbs by omega]
      cases e : Lib.decDigits n.natAbs with
      | nil => exact absurd e (dec_facts _).2.1
      | cons b d =>
        have hb : isDig b = true := (dec_facts n.natAbs).1 b (by rw [e]; simp)
        exact trim_no (dig_ne hb (by decide))
  have hl : leftN (Lib.itoa n ++ r) = r := by
    unfold leftN
    rw [hu]; exact drop_digs _ _ (dec_facts _).1 hr
  refine ⟨?_, hl⟩
  have ht : numT (Lib.itoa n ++ r) = Lib.itoa n := by
    have h := num_parts (Lib.itoa n ++ r)
    rw [hl] at h
    exact (List.append_cancel_right h).symm
  unfold numV
  rw [hl, hu, if_pos (by rw [List.length_append]; unfold digN at hm; omega), ht, plain_back]
theorem numR_back {m : Nat} {n : Int} {r : List UInt8} (hm : digN n ≤ m) (hr : ND r) (f : Bool) : numR m (Lib.itoa n ++ r, f) = (r, f) := by
  obtain ⟨h1, h2⟩ := num_back hm hr
  simp [numR, h1, h2]
theorem digN_le {n : Int} {m : Nat} (h : n.natAbs < 10 ^ (m + 1)) : digN n ≤ m + 1 := dec_short m _ h

/-! ### cut at a sign -/
theorem ix_none {c : UInt8} : ∀ {l : List UInt8}, c ∉ l → Lib.index l [c] = -1
  | [], _ => rfl
  | b :: l, h => by
    have hb : c ≠ b := fun e => h (by simp [e])
    have := ix_none (c := c) (l := l) (fun e => h (List.mem_cons_of_mem _ e))
    simp [Lib.index, List.isPrefixOf, this, hb]
theorem ix_some {c : UInt8} : ∀ {a r : List UInt8}, c ∉ a → Lib.index (a ++ c :: r) [c] = a.length
  | [], r, _ => by simp [Lib.index, List.isPrefixOf]
  | b :: a, r, h => by
    have hb : c ≠ b := fun e => h (by simp [e])
    have := ix_some (c := c) (a := a) (r := r) (fun e => h (List.mem_cons_of_mem _ e))
    simp only [List.cons_append, Lib.index, List.isPrefixOf, this]
    rw [if_neg (by simp [hb]), if_neg (by simp <;> omega)]
    simp
theorem cut_none {c : UInt8} {l : List UInt8} (h : c ∉ l) : Lib.cut l [c] = (l, [], false) := by
  unfold Lib.cut
  rw [ix_none h]; rfl
theorem cut_some {c : UInt8} {a r : List UInt8} (h : c ∉ a) : Lib.cut (a ++ c :: r) [c] = (a, r, true) := by
  unfold Lib.cut
  rw [ix_some h, if_pos (by omega)]
  simp
/-- A list with a sign in it, parted at its first one. -/
theorem split_at {c : UInt8} : ∀ {l : List UInt8}, c ∈ l → ∃ a r, l = a ++ c :: r ∧ c ∉ a
  | b :: l, h => by
    by_cases e : c = b
    · exact ⟨[], l, by simp [e], by simp⟩
    · obtain ⟨a, r, h1, h2⟩ := split_at (l := l) (by simpa [e] using h)
      exact ⟨b :: a, r, by simp [h1], by simp [e, h2]⟩
theorem cut_parts {c : UInt8} (l : List UInt8) : (c ∉ l ∧ Lib.cut l [c] = (l, [], false)) ∨ ∃ a r, l = a ++ c :: r ∧ c ∉ a ∧ Lib.cut l [c] = (a, r, true) := by
  by_cases h : c ∈ l
  · obtain ⟨a, r, h1, h2⟩ := split_at h
    exact .inr ⟨a, r, h1, h2, by rw [h1]; exact cut_some h2⟩
  · exact .inl ⟨h, cut_none h⟩
end Go.Proofs.YtndkmjjaabnfaaaDoor
