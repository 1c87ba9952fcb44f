import Derived.Lib.ItoaNum
import Derived.Lib.Strings
import Derived.Lib.Atoi
import Derived.Lib.IndexMore
import Derived.Test.YtcajifelbldjnaaGreatDoorIg
import Derived.Shelf.Abstract
set_option maxRecDepth 100000
set_option maxHeartbeats 25600000
set_option linter.unusedVariables false
namespace Go.Proofs.YtcajifelbldjnaaGreatDoor.C
def isDig (b : UInt8) : Bool := [48, 49, 50, 51, 52, 53, 54, 55, 56, 57].contains b
theorem isDig_iff (b : UInt8) : isDig b = true ↔ 48 ≤ b.toNat ∧ b.toNat ≤ 57 := by
 have e : ∀ m : UInt8, (b = m) = (b.toNat = m.toNat) := fun m => propext ⟨fun h => by rw [h], fun h => UInt8.toNat.inj h⟩
 simp only [isDig, List.contains_cons, List.contains_nil, Bool.or_false, Bool.or_eq_true, beq_iff_eq, e]
 have : (48 : UInt8).toNat = 48 ∧ (49 : UInt8).toNat = 49 ∧ (50 : UInt8).toNat = 50 ∧ (51 : UInt8).toNat = 51 ∧ (52 : UInt8).toNat = 52 ∧ (53 : UInt8).toNat = 53 ∧ (54 : UInt8).toNat = 54 ∧ (55 : UInt8).toNat = 55 ∧ (56 : UInt8).toNat = 56 ∧ (57 : UInt8).toNat = 57 := by decide
 omega
def firstW : Nat → List UInt8
 | 1 => [71, 50, 56]
 | 2 => [71, 49]
 | 3 => [77, 49]
 | 4 => [77, 50]
 | 5 => [77, 51]
 | 6 => [77, 49, 48, 52]
 | 7 => [71, 52]
 | 8 => [77, 49, 48, 54]
 | _ => []
def letW : Nat → Nat → List UInt8
 | 2, 0 => [88]
 | 2, 1 => [89]
 | 2, 2 => [90]
 | 3, 3 => [83]
 | 6, 3 => [83]
 | 7, 3 => [80]
 | 8, 3 => [83]
 | _, _ => []
def nm (x y z v : Int) : Nat → Int
 | 0 => x
 | 1 => y
 | 2 => z
 | _ => v
def partL (k i : Nat) (n : Int) : List UInt8 := if letW k i = [] then [] else (32 :: letW k i) ++ Lib.itoa n
def headL (n : Int) (k : Nat) : List UInt8 := [78] ++ Lib.itoa n ++ [32] ++ firstW k
def upL (n : Int) (k : Nat) (f : Nat → Int) : Nat → List UInt8
 | 0 => headL n k
 | i + 1 => upL n k f i ++ partL k i (f i)
def bodyL (n : Int) (k : Nat) (x y z v : Int) : List UInt8 := upL n k (nm x y z v) 4
def xorL (l : List UInt8) : UInt8 := l.foldl (fun a b => a ^^^ b) 0
def sumL (l : List UInt8) : Int := ((xorL l).toNat : Int)
def lineL (n : Int) (k : Nat) (x y z v : Int) : List UInt8 := bodyL n k x y z v ++ [42] ++ Lib.itoa (sumL (bodyL n k x y z v))
def inP (n : Int) : Bool := decide (-10000000 ≤ n) && decide (n ≤ 10000000)
def inRg (x y z v : Int) : Bool := inP x && inP y && inP z && (decide (0 ≤ v) && decide (v ≤ 1000000000))
def usedC (k : Nat) (x y z v : Int) : Bool := (x == 0 || letW k 0 != []) && (y == 0 || letW k 1 != []) && (z == 0 || letW k 2 != []) && (v == 0 || letW k 3 != [])
def chkC (k x y z v : Int) : Int := if k < 1 ∨ 8 < k then 6 else if inRg x y z v = false then 2 else if usedC k.toNat x y z v = false then 1 else 0
def refuC (n k x y z v : Int) : Int := if n < 0 ∨ 100000 < n then 7 else chkC k x y z v
theorem inP_iff {n : Int} : inP n = true ↔ -10000000 ≤ n ∧ n ≤ 10000000 := by simp [inP]
theorem inRg_iff {x y z v : Int} : inRg x y z v = true ↔ (-10000000 ≤ x ∧ x ≤ 10000000) ∧ (-10000000 ≤ y ∧ y ≤ 10000000) ∧ (-10000000 ≤ z ∧ z ≤ 10000000) ∧ (0 ≤ v ∧ v ≤ 1000000000) := by
 simp [inRg, inP_iff, and_assoc]
theorem used_iff {k : Nat} {x y z v : Int} : usedC k x y z v = true ↔ ∀ i, i < 4 → letW k i = [] → nm x y z v i = 0 := by
 constructor
 ·intro h i hi hl
  simp only [usedC, Bool.and_eq_true, Bool.or_eq_true, beq_iff_eq, bne_iff_ne] at h
  obtain ⟨⟨⟨h0, h1⟩, h2⟩, h3⟩ := h
  rcases (show i = 0 ∨ i = 1 ∨ i = 2 ∨ i = 3 by omega) with e | e | e | e
  all_goals subst e
  ·exact h0.elim id fun q => absurd hl q
  ·exact h1.elim id fun q => absurd hl q
  ·exact h2.elim id fun q => absurd hl q
  ·exact h3.elim id fun q => absurd hl q
 ·intro h
  have q : ∀ i, i < 4 → (nm x y z v i == 0 || letW k i != []) = true := fun i hi => by
   by_cases e : letW k i = []
   ·simp [h i hi e]
   ·simp [e]
  have q0 := q 0 (by decide); have q1 := q 1 (by decide); have q2 := q 2 (by decide); have q3 := q 3 (by decide)
  simp only [nm] at q0 q1 q2 q3
  simp [usedC, q0, q1, q2, q3]
theorem refu_ok {n k x y z v : Int} : refuC n k x y z v = 0 ↔ (0 ≤ n ∧ n ≤ 100000) ∧ (1 ≤ k ∧ k ≤ 8) ∧ inRg x y z v = true ∧ usedC k.toNat x y z v = true := by
 unfold refuC chkC
 constructor
 ·intro h
  split at h
  ·omega
  ·split at h
   ·omega
   ·split at h
    ·omega
    ·split at h
     ·omega
     ·rename_i a b c d
      exact ⟨by omega, by omega, by simpa using c, by simpa using d⟩
 ·rintro ⟨h1, h2, h3, h4⟩
  rw [if_neg (by omega), if_neg (by omega), if_neg (by simp [h3]), if_neg (by simp [h4])]
theorem decFrom_snoc {c : UInt8} {d : Nat} (hd : Lib.digitVal c = some d) : ∀ (l : List UInt8) (a m : Nat), Lib.decFrom a l = some m → Lib.decFrom a (l ++ [c]) = some (m * 10 + d)
 | [], a, m, hm => by
  simp only [Lib.decFrom, Option.some.injEq] at hm
  subst hm
  simp [Lib.decFrom, hd]
 | b :: r, a, m, hm => by
  simp only [List.cons_append, Lib.decFrom] at hm ⊢
  cases hc : Lib.digitVal b with
  | none => simp [hc] at hm
  | some e => simp only [hc] at hm ⊢; exact decFrom_snoc hd r _ _ hm
theorem dec_facts : ∀ u : Nat, (∀ b ∈ Lib.decDigits u, isDig b = true) ∧ Lib.decDigits u ≠ [] ∧ Lib.decFrom 0 (Lib.decDigits u) = some u := by
 intro u
 induction u using Nat.strongRecOn with
 | _ u ih =>
  by_cases h : u < 10
  ·rw [Lib.decDigits_one h]
   exact (by decide : ∀ u, u < 10 → (∀ b ∈ [UInt8.ofNat (48 + u)], isDig b = true) ∧ [UInt8.ofNat (48 + u)] ≠ [] ∧ Lib.decFrom 0 [UInt8.ofNat (48 + u)] = some u) u h
  ·obtain ⟨i1, i2, i3⟩ := ih (u / 10) (by omega)
   have hd : isDig (UInt8.ofNat (48 + u % 10)) = true ∧ Lib.digitVal (UInt8.ofNat (48 + u % 10)) = some (u % 10) :=
    (by decide : ∀ d, d < 10 → isDig (UInt8.ofNat (48 + d)) = true ∧ Lib.digitVal (UInt8.ofNat (48 + d)) = some d) (u % 10) (by omega)
   rw [Lib.decDigits, dif_neg h]
   refine ⟨fun b hb => ?_, by simp, ?_⟩
   ·rcases List.mem_append.1 hb with h | h
    ·exact i1 b h
    ·rw [List.mem_singleton.1 h]; exact hd.1
   ·have key := decFrom_snoc hd.2
    rw [key _ 0 _ i3]
    congr 1
    omega
theorem dec_short : ∀ (n u : Nat), u < 10 ^ (n + 1) → (Lib.decDigits u).length ≤ n + 1 := by
 intro n
 induction n with
 | zero => intro u h; rw [Lib.decDigits_one (by simpa using h)]; simp
 | succ n ih =>
  intro u h
  by_cases h1 : u < 10
  ·rw [Lib.decDigits_one h1]; simp
  ·rw [Lib.decDigits, dif_neg h1, List.length_append]
   have := ih (u / 10) (by rw [Nat.pow_succ] at h; omega)
   simp only [List.length_singleton]
   omega
theorem itoa_pos {n : Int} (h : ¬ n < 0) : Lib.itoa n = Lib.decDigits n.toNat := by unfold Lib.itoa; rw [if_neg h]
theorem itoa_neg {n : Int} (h : n < 0) : Lib.itoa n = 45 :: Lib.decDigits n.natAbs := by unfold Lib.itoa; rw [if_pos h]
theorem dig_ne {b : UInt8} (h : isDig b = true) {c : UInt8} (hc : isDig c = false) : b ≠ c := fun e => by rw [e, hc] at h; cases h
theorem itoa_len {n : Int} (h0 : -9999999999 ≤ n) (h1 : n ≤ 9999999999) : 1 ≤ (Lib.itoa n).length ∧ (Lib.itoa n).length ≤ 11 := by
 have g : ∀ u : Nat, 1 ≤ (Lib.decDigits u).length := fun u => by
  cases e : Lib.decDigits u with
  | nil => exact absurd e (dec_facts u).2.1
  | cons _ _ => simp
 by_cases h : n < 0
 ·rw [itoa_neg h]
  have := dec_short 9 n.natAbs (by omega)
  simp only [List.length_cons]; omega
 ·rw [itoa_pos h]
  have := dec_short 9 n.toNat (by omega)
  have := g n.toNat
  omega
theorem atoi_itoa (n : Int) : Lib.atoi (Lib.itoa n) = some n := by
 have g : ∀ u : Nat, Lib.decNat (Lib.decDigits u) = some u := fun u => by
  unfold Lib.decNat
  have h := dec_facts u
  rw [if_neg (by simpa using h.2.1)]
  exact h.2.2
 by_cases h : n < 0
 ·rw [itoa_neg h]
  simp only [Lib.atoi]
  rw [if_pos (by decide), g]
  simp only [Option.map]
  congr 1; omega
 ·rw [itoa_pos h]
  cases e : Lib.decDigits n.toNat with
  | nil => exact absurd e (dec_facts _).2.1
  | cons b r =>
   have hb : isDig b = true := (dec_facts n.toNat).1 b (by rw [e]; simp)
   simp only [Lib.atoi]
   rw [if_neg (by simpa using dig_ne hb (c := 45) (by decide)), if_neg (by simpa using dig_ne hb (c := 43) (by decide)), ← e, g]
   simp only [Option.map]
   congr 1; omega
abbrev Rd := List UInt8 × Bool
def takeR (t : List UInt8) (r : Rd) : Rd := (Lib.trimPrefix r.1 t, r.2 || !Lib.hasPrefix r.1 t)
def wordR (r : Rd) : List UInt8 := (Lib.cut r.1 [32]).1
def restR (r : Rd) : Rd := (r.1.drop (wordR r).length, r.2)
def unsg (l : List UInt8) : List UInt8 := Lib.trimPrefix l [45]
def leftN (l : List UInt8) : List UInt8 := (unsg l).dropWhile isDig
def numT (l : List UInt8) : List UInt8 := l.take (l.length - (leftN l).length)
def plainR (t : List UInt8) : Int × Bool := match Lib.atoi t with
 | some v => (v, decide (Lib.itoa v = t))
 | none => (0, false)
def numV (most : Nat) (l : List UInt8) : Int × Bool := if (unsg l).length - (leftN l).length ≤ most then plainR (numT l) else (0, false)
def numR (most : Nat) (r : Rd) : Rd := (leftN r.1, r.2 || !(numV most r.1).2)
theorem drop_le (l : List UInt8) : (l.dropWhile isDig).length ≤ l.length := by
 induction l with
 | nil => simp
 | cons a l ih => simp only [List.dropWhile_cons]; split <;> simp <;> omega
theorem drop_suf (l : List UInt8) : ∃ t, l = t ++ l.dropWhile isDig := ⟨l.takeWhile isDig, (List.takeWhile_append_dropWhile).symm⟩
theorem trim_suf (l p : List UInt8) : ∃ t, l = t ++ Lib.trimPrefix l p := by
 unfold Lib.trimPrefix
 split
 ·exact ⟨l.take p.length, (List.take_append_drop _ _).symm⟩
 ·exact ⟨[], rfl⟩
theorem unsg_le (l : List UInt8) : (unsg l).length ≤ l.length := Lib.trimPrefix_le _ _
theorem leftN_le (l : List UInt8) : (leftN l).length ≤ (unsg l).length := drop_le _
theorem num_parts (l : List UInt8) : l = numT l ++ leftN l := by
 obtain ⟨a, ha⟩ := trim_suf l [45]
 obtain ⟨b, hb⟩ := drop_suf (unsg l)
 have h : l = (a ++ b) ++ leftN l := by
  rw [List.append_assoc]
  have : b ++ leftN l = unsg l := hb.symm
  rw [this]; exact ha
 unfold numT
 have e : l.length - (leftN l).length = (a ++ b).length := by
  have := congrArg List.length h
  rw [List.length_append] at this
  omega
 rw [e]
 generalize leftN l = r at h
 subst h
 rw [List.take_left]
theorem word_parts (r : Rd) : r.1 = wordR r ++ (restR r).1 := by
 have h : ∃ s, r.1 = wordR r ++ s := by
  unfold wordR Lib.cut
  split
  ·exact ⟨r.1.drop (Lib.index r.1 [32]).toNat, (List.take_append_drop _ _).symm⟩
  ·exact ⟨[], (List.append_nil _).symm⟩
 obtain ⟨s, hs⟩ := h
 unfold restR
 simp only
 generalize wordR r = w at hs
 rw [hs]; simp
def ND (r : List UInt8) : Prop := ∀ b, r.head? = some b → isDig b = false
theorem nd_nil : ND [] := fun b h => by cases h
theorem nd_cons {b : UInt8} {r : List UInt8} (h : isDig b = false) : ND (b :: r) := fun c hc => by simp at hc; rw [← hc]; exact h
theorem drop_digs : ∀ (d r : List UInt8), (∀ b ∈ d, isDig b = true) → ND r → (d ++ r).dropWhile isDig = r
 | [], [], _, _ => rfl
 | [], b :: r, _, h => by simp [h b rfl]
 | a :: d, r, h, hr => by
  have ha := h a (by simp)
  simp only [List.cons_append, List.dropWhile_cons, ha, if_true]
  exact drop_digs d r (fun b hb => h b (by simp [hb])) hr
theorem trim_hit (t r : List UInt8) : Lib.hasPrefix (t ++ r) t = true ∧ Lib.trimPrefix (t ++ r) t = r := by
 have h : Lib.hasPrefix (t ++ r) t = true := by
  show t.isPrefixOf (t ++ r) = true
  rw [List.isPrefixOf_iff_prefix]; exact List.prefix_append _ _
 refine ⟨h, ?_⟩
 unfold Lib.trimPrefix
 rw [if_pos h]; simp
theorem trim_no {b c : UInt8} {r : List UInt8} (h : b ≠ c) : Lib.trimPrefix (b :: r) [c] = b :: r := by
 unfold Lib.trimPrefix Lib.hasPrefix
 rw [if_neg]
 simp [List.isPrefixOf]
 exact fun e => h e.symm
theorem take_back (t r : List UInt8) (f : Bool) : takeR t (t ++ r, f) = (r, f) := by
 obtain ⟨h1, h2⟩ := trim_hit t r
 simp [takeR, h1, h2]
theorem plain_back (n : Int) : plainR (Lib.itoa n) = (n, true) := by
 unfold plainR
 rw [atoi_itoa]; simp
def digN (n : Int) : Nat := (Lib.decDigits n.natAbs).length
theorem num_back {m : Nat} {n : Int} {r : List UInt8} (hm : digN n ≤ m) (hr : ND r) : numV m (Lib.itoa n ++ r) = (n, true) ∧ leftN (Lib.itoa n ++ r) = r := by
 have hu : unsg (Lib.itoa n ++ r) = Lib.decDigits n.natAbs ++ r := by
  unfold unsg
  by_cases h : n < 0
  ·rw [itoa_neg h]
   exact (trim_hit [45] (Lib.decDigits n.natAbs ++ r)).2
  ·rw [itoa_pos h, show n.toNat = n.natAbs by omega]
   cases e : Lib.decDigits n.natAbs with
   | nil => exact absurd e (dec_facts _).2.1
   | cons b d =>
    have hb : isDig b = true := (dec_facts n.natAbs).1 b (by rw [e]; simp)
    exact trim_no (dig_ne hb (by decide))
 have hl : leftN (Lib.itoa n ++ r) = r := by
  unfold leftN
  rw [hu]; exact drop_digs _ _ (dec_facts _).1 hr
 refine ⟨?_, hl⟩
 have ht : numT (Lib.itoa n ++ r) = Lib.itoa n := by
  have h := num_parts (Lib.itoa n ++ r)
  rw [hl] at h
  exact (List.append_cancel_right h).symm
 unfold numV
 rw [hl, hu, if_pos (by rw [List.length_append]; unfold digN at hm; omega), ht, plain_back]
theorem numR_back {m : Nat} {n : Int} {r : List UInt8} (hm : digN n ≤ m) (hr : ND r) (f : Bool) : numR m (Lib.itoa n ++ r, f) = (r, f) := by
 obtain ⟨h1, h2⟩ := num_back hm hr
 simp [numR, h1, h2]
theorem digN_le {n : Int} {m : Nat} (h : n.natAbs < 10 ^ (m + 1)) : digN n ≤ m + 1 := dec_short m _ h
theorem ix_none {c : UInt8} : ∀ {l : List UInt8}, c ∉ l → Lib.index l [c] = -1
 | [], _ => rfl
 | b :: l, h => by
  have hb : c ≠ b := fun e => h (by simp [e])
  have := ix_none (c := c) (l := l) (fun e => h (List.mem_cons_of_mem _ e))
  simp [Lib.index, List.isPrefixOf, this, hb]
theorem ix_some {c : UInt8} : ∀ {a r : List UInt8}, c ∉ a → Lib.index (a ++ c :: r) [c] = a.length
 | [], r, _ => by simp [Lib.index, List.isPrefixOf]
 | b :: a, r, h => by
  have hb : c ≠ b := fun e => h (by simp [e])
  have := ix_some (c := c) (a := a) (r := r) (fun e => h (List.mem_cons_of_mem _ e))
  simp only [List.cons_append, Lib.index, List.isPrefixOf, this]
  rw [if_neg (by simp [hb]), if_neg (by simp <;> omega)]
  simp
theorem cut_none {c : UInt8} {l : List UInt8} (h : c ∉ l) : Lib.cut l [c] = (l, [], false) := by
 unfold Lib.cut
 rw [ix_none h]; rfl
theorem cut_some {c : UInt8} {a r : List UInt8} (h : c ∉ a) : Lib.cut (a ++ c :: r) [c] = (a, r, true) := by
 unfold Lib.cut
 rw [ix_some h, if_pos (by omega)]
 simp
theorem split_at {c : UInt8} : ∀ {l : List UInt8}, c ∈ l → ∃ a r, l = a ++ c :: r ∧ c ∉ a
 | b :: l, h => by
  by_cases e : c = b
  ·exact ⟨[], l, by simp [e], by simp⟩
  ·obtain ⟨a, r, h1, h2⟩ := split_at (l := l) (by simpa [e] using h)
   exact ⟨b :: a, r, by simp [h1], by simp [e, h2]⟩
theorem cut_parts {c : UInt8} (l : List UInt8) : (c ∉ l ∧ Lib.cut l [c] = (l, [], false)) ∨ ∃ a r, l = a ++ c :: r ∧ c ∉ a ∧ Lib.cut l [c] = (a, r, true) := by
 by_cases h : c ∈ l
 ·obtain ⟨a, r, h1, h2⟩ := split_at h
  exact .inr ⟨a, r, h1, h2, by rw [h1]; exact cut_some h2⟩
 ·exact .inl ⟨h, cut_none h⟩
def kindR (w : List UInt8) : Nat :=
 if w = firstW 1 then 1 else if w = firstW 2 then 2 else if w = firstW 3 then 3 else if w = firstW 4 then 4 else if w = firstW 5 then 5 else if w = firstW 6 then 6 else if w = firstW 7 then 7 else if w = firstW 8 then 8 else 0
theorem kind_only {w : List UInt8} (h : kindR w ≠ 0) : w = firstW (kindR w) ∧ 1 ≤ kindR w ∧ kindR w ≤ 8 := by
 revert h
 unfold kindR
 repeat' split
 all_goals first
  | (intro h; exact absurd rfl h)
  | (intro _; exact ⟨by assumption, by decide, by decide⟩)
theorem kind_back {k : Nat} (h1 : 1 ≤ k) (h8 : k ≤ 8) : kindR (firstW k) = k := by
 rcases (show k = 1 ∨ k = 2 ∨ k = 3 ∨ k = 4 ∨ k = 5 ∨ k = 6 ∨ k = 7 ∨ k = 8 by omega) with e | e | e | e | e | e | e | e
 all_goals (subst e; decide)
theorem kind_le (w : List UInt8) : kindR w ≤ 8 := by
 by_cases h : kindR w = 0
 ·omega
 ·exact (kind_only h).2.2
def pR (k i : Nat) (r : Rd) : Rd := if letW k i = [] then r else numR 10 (takeR (32 :: letW k i) r)
def pN (k i : Nat) (r : Rd) : Int := if letW k i = [] then 0 else (numV 10 (takeR (32 :: letW k i) r).1).1
def sR (k : Nat) (r : Rd) : Nat → Rd
 | 0 => r
 | i + 1 => pR k i (sR k r i)
def sN (k : Nat) (r : Rd) (i : Nat) : Int := pN k i (sR k r i)
def doneR (r : Rd) : Bool := !r.2 && (r.1 == [])
def aheadR (l : List UInt8) : Rd := takeR [32] (numR 10 (takeR [78] (l, false)))
def bN (l : List UInt8) : Int := (numV 10 (takeR [78] (l, false)).1).1
def bK (l : List UInt8) : Nat := kindR (wordR (aheadR l))
def bR (l : List UInt8) : Rd := restR (aheadR l)
def bX (l : List UInt8) (i : Nat) : Int := sN (bK l) (bR l) i
def bOk (l : List UInt8) : Bool := doneR (sR (bK l) (bR l) 4) && decide (bK l ≠ 0)
def sV (l : List UInt8) : Int := (numV 3 l).1
def sOk (l : List UInt8) : Bool := doneR (numR 3 (l, false)) && decide (0 ≤ sV l)
def pA (l : List UInt8) : List UInt8 := (Lib.cut l [42]).1
def pB (l : List UInt8) : List UInt8 := (Lib.cut l [42]).2.1
def parE (l : List UInt8) : Int :=
 if (bOk (pA l) && sOk (pB l)) = false then 1 else if sV (pB l) ≠ sumL (pA l) then 14 else refuC (bN (pA l)) (bK (pA l)) (bX (pA l) 0) (bX (pA l) 1) (bX (pA l) 2) (bX (pA l) 3)
theorem nd_part {k i : Nat} {n : Int} {r : List UInt8} (h : ND r) : ND (partL k i n ++ r) := by
 unfold partL
 split
 ·exact h
 ·exact nd_cons (by decide)
theorem part_back {k i : Nat} {n : Int} {r : List UInt8} {f : Bool} (hr : ND r) (hn : digN n ≤ 10) (h0 : letW k i = [] → n = 0) : pR k i (partL k i n ++ r, f) = (r, f) ∧ pN k i (partL k i n ++ r, f) = n := by
 unfold pR pN partL
 by_cases e : letW k i = []
 ·simp only [e, if_true]
  exact ⟨rfl, (h0 e).symm⟩
 ·simp only [e, if_false]
  rw [List.append_assoc, take_back]
  exact ⟨numR_back hn hr f, by rw [(num_back hn hr).1]⟩
theorem first_blank : ∀ k, (32 : UInt8) ∉ firstW k := by
 intro k
 unfold firstW
 split <;> decide
def NB (r : List UInt8) : Prop := r = [] ∨ ∃ t, r = 32 :: t
theorem nb_part {k i : Nat} {n : Int} {r : List UInt8} (h : NB r) : NB (partL k i n ++ r) := by
 unfold partL
 split
 ·exact h
 ·exact .inr ⟨_, rfl⟩
theorem word_back {k : Nat} {r : List UInt8} {f : Bool} (h : NB r) : wordR (firstW k ++ r, f) = firstW k ∧ restR (firstW k ++ r, f) = (r, f) := by
 have hw : wordR (firstW k ++ r, f) = firstW k := by
  unfold wordR
  rcases h with h | ⟨t, h⟩
  ·subst h
   rw [List.append_nil, cut_none (first_blank k)]
  ·subst h
   rw [cut_some (first_blank k)]
 refine ⟨hw, ?_⟩
 unfold restR
 rw [hw]; simp
theorem body_back {n : Int} {k : Nat} {x y z v : Int} (hn : digN n ≤ 10) (h1 : 1 ≤ k) (h8 : k ≤ 8) (hx : digN x ≤ 10) (hy : digN y ≤ 10) (hz : digN z ≤ 10) (hv : digN v ≤ 10) (hu : ∀ i, i < 4 → letW k i = [] → nm x y z v i = 0) :
  bN (bodyL n k x y z v) = n ∧ bK (bodyL n k x y z v) = k ∧ bX (bodyL n k x y z v) 0 = x ∧ bX (bodyL n k x y z v) 1 = y ∧ bX (bodyL n k x y z v) 2 = z ∧ bX (bodyL n k x y z v) 3 = v ∧ bOk (bodyL n k x y z v) = true := by
 have hl : bodyL n k x y z v = [78] ++ (Lib.itoa n ++ ([32] ++ (firstW k ++ (partL k 0 x ++ (partL k 1 y ++ (partL k 2 z ++ (partL k 3 v ++ []))))))) := by
  rw [show bodyL n k x y z v = [78] ++ Lib.itoa n ++ [32] ++ firstW k ++ partL k 0 x ++ partL k 1 y ++ partL k 2 z ++ partL k 3 v from rfl]
  simp only [List.append_assoc, List.append_nil]
 obtain ⟨a3, b3⟩ := part_back (k := k) (i := 3) (n := v) (r := []) (f := false) nd_nil hv (hu 3 (by decide))
 obtain ⟨a2, b2⟩ := part_back (k := k) (i := 2) (n := z) (r := partL k 3 v ++ []) (f := false) (nd_part nd_nil) hz (hu 2 (by decide))
 obtain ⟨a1, b1⟩ := part_back (k := k) (i := 1) (n := y) (r := partL k 2 z ++ (partL k 3 v ++ [])) (f := false) (nd_part (nd_part nd_nil)) hy (hu 1 (by decide))
 obtain ⟨a0, b0⟩ := part_back (k := k) (i := 0) (n := x) (r := partL k 1 y ++ (partL k 2 z ++ (partL k 3 v ++ []))) (f := false) (nd_part (nd_part (nd_part nd_nil))) hx (hu 0 (by decide))
 have hnd : ND ([32] ++ (firstW k ++ (partL k 0 x ++ (partL k 1 y ++ (partL k 2 z ++ (partL k 3 v ++ [])))))) := nd_cons (by decide)
 obtain ⟨c1, c2⟩ := word_back (k := k) (r := partL k 0 x ++ (partL k 1 y ++ (partL k 2 z ++ (partL k 3 v ++ [])))) (f := false) (nb_part (nb_part (nb_part (nb_part (.inl rfl)))))
 have eA : aheadR (bodyL n k x y z v) = (firstW k ++ (partL k 0 x ++ (partL k 1 y ++ (partL k 2 z ++ (partL k 3 v ++ [])))), false) := by
  unfold aheadR
  rw [hl, take_back, numR_back hn hnd, take_back]
 have eN : bN (bodyL n k x y z v) = n := by
  unfold bN
  rw [hl, take_back, (num_back hn hnd).1]
 have eK : bK (bodyL n k x y z v) = k := by
  unfold bK
  rw [eA, c1]; exact kind_back h1 h8
 have eR : bR (bodyL n k x y z v) = (partL k 0 x ++ (partL k 1 y ++ (partL k 2 z ++ (partL k 3 v ++ []))), false) := by
  unfold bR
  rw [eA, c2]
 have s1 : sR k (partL k 0 x ++ (partL k 1 y ++ (partL k 2 z ++ (partL k 3 v ++ []))), false) 1 = (partL k 1 y ++ (partL k 2 z ++ (partL k 3 v ++ [])), false) := a0
 have s2 : sR k (partL k 0 x ++ (partL k 1 y ++ (partL k 2 z ++ (partL k 3 v ++ []))), false) 2 = (partL k 2 z ++ (partL k 3 v ++ []), false) := by
  show pR k 1 (sR k _ 1) = _
  rw [s1]; exact a1
 have s3 : sR k (partL k 0 x ++ (partL k 1 y ++ (partL k 2 z ++ (partL k 3 v ++ []))), false) 3 = (partL k 3 v ++ [], false) := by
  show pR k 2 (sR k _ 2) = _
  rw [s2]; exact a2
 have s4 : sR k (partL k 0 x ++ (partL k 1 y ++ (partL k 2 z ++ (partL k 3 v ++ []))), false) 4 = ([], false) := by
  show pR k 3 (sR k _ 3) = _
  rw [s3]; exact a3
 refine ⟨eN, eK, ?_, ?_, ?_, ?_, ?_⟩
 ·unfold bX sN; rw [eK, eR]; exact b0
 ·unfold bX sN; rw [eK, eR, s1]; exact b1
 ·unfold bX sN; rw [eK, eR, s2]; exact b2
 ·unfold bX sN; rw [eK, eR, s3]; exact b3
 ·unfold bOk; rw [eK, eR, s4]
  simp only [Bool.and_eq_true, decide_eq_true_eq]
  exact ⟨rfl, by omega⟩
def AB : List UInt8 := [32, 45, 48, 49, 50, 51, 52, 53, 54, 55, 56, 57, 71, 77, 78, 80, 83, 88, 89, 90]
theorem ab_itoa (n : Int) : ∀ b ∈ Lib.itoa n, b ∈ AB := by
 have g : ∀ b, isDig b = true → b ∈ AB := by
  intro b h
  unfold isDig at h
  rw [List.contains_iff_mem] at h
  exact (by decide : ∀ b ∈ ([48, 49, 50, 51, 52, 53, 54, 55, 56, 57] : List UInt8), b ∈ AB) b h
 intro b hb
 by_cases h : n < 0
 ·rw [itoa_neg h] at hb
  rcases List.mem_cons.1 hb with e | hb
  ·rw [e]; decide
  ·exact g b ((dec_facts _).1 b hb)
 ·rw [itoa_pos h] at hb
  exact g b ((dec_facts _).1 b hb)
theorem ab_first (k : Nat) : ∀ b ∈ firstW k, b ∈ AB := by
 unfold firstW
 split <;> decide
theorem ab_let (k i : Nat) : ∀ b ∈ letW k i, b ∈ AB := by
 unfold letW
 split <;> decide
theorem ab_part (k i : Nat) (n : Int) : ∀ b ∈ partL k i n, b ∈ AB := by
 unfold partL
 split
 ·intro b hb; cases hb
 ·intro b hb
  rcases List.mem_append.1 hb with h | h
  ·rcases List.mem_cons.1 h with e | h
   ·rw [e]; decide
   ·exact ab_let k i b h
  ·exact ab_itoa n b h
theorem ab_body (n : Int) (k : Nat) (x y z v : Int) : ∀ b ∈ bodyL n k x y z v, b ∈ AB := by
 intro b hb
 rw [show bodyL n k x y z v = [78] ++ Lib.itoa n ++ [32] ++ firstW k ++ partL k 0 x ++ partL k 1 y ++ partL k 2 z ++ partL k 3 v from rfl] at hb
 simp only [List.mem_append] at hb
 rcases hb with ((((((h | h) | h) | h) | h) | h) | h) | h
 ·rw [List.mem_singleton.1 h]; decide
 ·exact ab_itoa n b h
 ·rw [List.mem_singleton.1 h]; decide
 ·exact ab_first k b h
 ·exact ab_part k 0 x b h
 ·exact ab_part k 1 y b h
 ·exact ab_part k 2 z b h
 ·exact ab_part k 3 v b h
theorem star_body (n : Int) (k : Nat) (x y z v : Int) : (42 : UInt8) ∉ bodyL n k x y z v := fun h => by
 have := ab_body n k x y z v 42 h
 revert this; decide
theorem line_eq (n : Int) (k : Nat) (x y z v : Int) : lineL n k x y z v = bodyL n k x y z v ++ 42 :: Lib.itoa (sumL (bodyL n k x y z v)) := by
 unfold lineL; simp
theorem feed_line (n : Int) (k : Nat) (x y z v : Int) : (10 : UInt8) ∉ lineL n k x y z v := fun h => by
 rw [line_eq] at h
 rcases List.mem_append.1 h with h | h
 ·have := ab_body n k x y z v 10 h
  revert this; decide
 ·rcases List.mem_cons.1 h with e | h
  ·revert e; decide
  ·have := ab_itoa _ 10 h
   revert this; decide
theorem sum_in (l : List UInt8) : 0 ≤ sumL l ∧ sumL l ≤ 255 := by
 have := (xorL l).toNat_lt
 unfold sumL; omega
theorem sum_back {s : Int} (h0 : 0 ≤ s) (h1 : s ≤ 255) : sV (Lib.itoa s) = s ∧ sOk (Lib.itoa s) = true := by
 have hd : digN s ≤ 3 := digN_le (m := 2) (by omega)
 have e := num_back (m := 3) hd nd_nil
 have r := numR_back (m := 3) hd nd_nil false
 rw [List.append_nil] at e r
 have es : sV (Lib.itoa s) = s := by unfold sV; rw [e.1]
 refine ⟨es, ?_⟩
 unfold sOk
 rw [es, r]
 simp only [Bool.and_eq_true, decide_eq_true_eq]
 exact ⟨rfl, h0⟩
theorem parse_back {n : Int} {k : Nat} {x y z v : Int} (h : refuC n k x y z v = 0) : pA (lineL n k x y z v) = bodyL n k x y z v ∧ bN (bodyL n k x y z v) = n ∧ bK (bodyL n k x y z v) = k ∧ bX (bodyL n k x y z v) 0 = x ∧ bX (bodyL n k x y z v) 1 = y ∧ bX (bodyL n k x y z v) 2 = z ∧ bX (bodyL n k x y z v) 3 = v ∧ parE (lineL n k x y z v) = 0 := by
 have h' := refu_ok.1 h
 obtain ⟨⟨n0, n1⟩, ⟨k1, k8⟩, hr, hu⟩ := h'
 obtain ⟨⟨x0, x1⟩, ⟨y0, y1⟩, ⟨z0, z1⟩, ⟨v0, v1⟩⟩ := inRg_iff.1 hr
 have dn : ∀ m : Int, -9999999999 ≤ m → m ≤ 9999999999 → digN m ≤ 10 := fun m a b => digN_le (m := 9) (by omega)
 obtain ⟨eN, eK, e0, e1, e2, e3, eO⟩ := body_back (n := n) (k := k) (x := x) (y := y) (z := z) (v := v) (dn n (by omega) (by omega)) (by omega) (by omega) (dn x (by omega) (by omega)) (dn y (by omega) (by omega)) (dn z (by omega) (by omega)) (dn v (by omega) (by omega)) (by simpa using used_iff.1 hu)
 have hc : Lib.cut (lineL n k x y z v) [42] = (bodyL n k x y z v, Lib.itoa (sumL (bodyL n k x y z v)), true) := by
  rw [line_eq]; exact cut_some (star_body n k x y z v)
 have hA : pA (lineL n k x y z v) = bodyL n k x y z v := by unfold pA; rw [hc]
 have hB : pB (lineL n k x y z v) = Lib.itoa (sumL (bodyL n k x y z v)) := by unfold pB; rw [hc]
 have hs := sum_in (bodyL n k x y z v)
 have hb := sum_back hs.1 hs.2
 refine ⟨hA, eN, eK, e0, e1, e2, e3, ?_⟩
 unfold parE
 rw [hA, hB, eN, eK, e0, e1, e2, e3, eO, hb.1, hb.2, if_neg (by simp), if_neg (fun q => q rfl)]
 exact h
theorem first_len (k : Nat) : (firstW k).length ≤ 4 := by
 unfold firstW
 split <;> decide
theorem let_len (k i : Nat) : (letW k i).length ≤ 1 := by
 unfold letW
 split <;> decide
theorem part_len {k i : Nat} {n : Int} (h0 : -9999999999 ≤ n) (h1 : n ≤ 9999999999) : (partL k i n).length ≤ 13 := by
 unfold partL
 split
 ·simp
 ·have := let_len k i
  have := itoa_len h0 h1
  simp only [List.length_append, List.length_cons]; omega
def Fit (n x y z v : Int) : Prop := (0 ≤ n ∧ n ≤ 100000) ∧ (-10000000 ≤ x ∧ x ≤ 10000000) ∧ (-10000000 ≤ y ∧ y ≤ 10000000) ∧ (-10000000 ≤ z ∧ z ≤ 10000000) ∧ (0 ≤ v ∧ v ≤ 1000000000)
theorem body_len {n : Int} {k : Nat} {x y z v : Int} (h : Fit n x y z v) : (bodyL n k x y z v).length ≤ 80 := by
 obtain ⟨hn, hx, hy, hz, hv⟩ := h
 have := first_len k
 have := itoa_len (n := n) (by omega) (by omega)
 have := part_len (k := k) (i := 0) (n := x) (by omega) (by omega)
 have := part_len (k := k) (i := 1) (n := y) (by omega) (by omega)
 have := part_len (k := k) (i := 2) (n := z) (by omega) (by omega)
 have := part_len (k := k) (i := 3) (n := v) (by omega) (by omega)
 rw [show bodyL n k x y z v = [78] ++ Lib.itoa n ++ [32] ++ firstW k ++ partL k 0 x ++ partL k 1 y ++ partL k 2 z ++ partL k 3 v from rfl]
 simp only [List.length_append, List.length_cons, List.length_nil]
 omega
theorem line_len {n : Int} {k : Nat} {x y z v : Int} (h : Fit n x y z v) : (lineL n k x y z v).length ≤ 100 := by
 have h1 := body_len (k := k) h
 have h2 := sum_in (bodyL n k x y z v)
 have := itoa_len (n := sumL (bodyL n k x y z v)) (by omega) (by omega)
 rw [line_eq]
 simp only [List.length_append, List.length_cons]
 omega
theorem refu_fit {n k x y z v : Int} (h : refuC n k x y z v = 0) : Fit n x y z v ∧ 1 ≤ k ∧ k ≤ 8 := by
 obtain ⟨hn, hk, hr, _⟩ := refu_ok.1 h
 obtain ⟨hx, hy, hz, hv⟩ := inRg_iff.1 hr
 exact ⟨⟨hn, hx, hy, hz, hv⟩, hk.1, hk.2⟩
end Go.Proofs.YtcajifelbldjnaaGreatDoor.C
namespace Go.Proofs.YtcajifelbldjnaaGreatDoor.C
open Go.RowKit
abbrev ptr (b : Nat) : Value := .pointer (some ⟨b, 0, none⟩)
abbrev cm (k x y z v : Int) : Value := .agg #[.int .i64 k, .int .i64 x, .int .i64 y, .int .i64 z, .int .i64 v]
abbrev o5 (k x y z v : Int) : Obj := .cells #[.int .i64 k, .int .i64 x, .int .i64 y, .int .i64 z, .int .i64 v] 49
abbrev c5 (k x y z v : Int) : List Value := [.int .i64 k, .int .i64 x, .int .i64 y, .int .i64 z, .int .i64 v]
abbrev n4 (x y z v : Int) : Value := .agg #[.int .i64 x, .int .i64 y, .int .i64 z, .int .i64 v]
abbrev o4 (x y z v : Int) : Obj := .cells #[.int .i64 x, .int .i64 y, .int .i64 z, .int .i64 v] 230
abbrev sA (l : List UInt8) : Value := .string ⟨l.toArray⟩
abbrev wd (f a b c d : List UInt8) : Value := .agg #[sA f, sA a, sA b, sA c, sA d]
theorem numbers_any (k x y z v : Int) (w : World) : Calls Tryz.prog 139 #[cm k x y z v] w fun e w' => e = .returned (n4 x y z v) ∧ w' = (w.alloc (o5 k x y z v)).alloc (o4 x y z v) := by
 go_enter Tryz.func139, Tryz.ntmps139
 go_wp2
 refine bodyPost_ret (v := n4 x y z v) (by simp [results, Tryz.results139, go_sem]) rfl ⟨rfl, rfl⟩
theorem numbersB (k x y z v : Int) (w : World) : Calls Tryz.prog 139 #[cm k x y z v] w fun e w' => e = .returned (n4 x y z v) ∧ Below w.heap.size w w' :=
 (numbers_any k x y z v w).mono fun _ _ ⟨he, hw⟩ => ⟨he, by rw [hw]; exact ((brf).alloc (Nat.le_refl _) _).alloc (by simp) _⟩
theorem ix0 (x y z v : Int) (w : World) : (Instr.index 230 (n4 x y z v) (.int .i64 0)).run Tryz.prog w = .ok (.int .i64 x) w := by kernel_rfl
theorem ix1 (x y z v : Int) (w : World) : (Instr.index 230 (n4 x y z v) (.int .i64 1)).run Tryz.prog w = .ok (.int .i64 y) w := by kernel_rfl
theorem ix2 (x y z v : Int) (w : World) : (Instr.index 230 (n4 x y z v) (.int .i64 2)).run Tryz.prog w = .ok (.int .i64 z) w := by kernel_rfl
theorem ix3 (x y z v : Int) (w : World) : (Instr.index 230 (n4 x y z v) (.int .i64 3)).run Tryz.prog w = .ok (.int .i64 v) w := by kernel_rfl
theorem inRg_no {x y z v : Int} (h : ¬ ((-10000000 ≤ x ∧ x ≤ 10000000) ∧ (-10000000 ≤ y ∧ y ≤ 10000000) ∧ (-10000000 ≤ z ∧ z ≤ 10000000) ∧ (0 ≤ v ∧ v ≤ 1000000000))) : inRg x y z v = false := by
 cases e : inRg x y z v with
 | false => rfl
 | true => exact absurd (inRg_iff.1 e) h
theorem isInRange_any (x y z v : Int) (w : World) : Calls Tryz.prog 138 #[n4 x y z v] w fun e w' => e = .returned (.bool (inRg x y z v)) ∧ Below w.heap.size w w' := by
 have HB : Hid (Below w.heap.size w (w.alloc (o4 x y z v))) := (brf).alloc (Nat.le_refl _) _
 go_enter Tryz.func138, Tryz.ntmps138
 go_wp2_with fail
 refine wp_loop_rounds 4 ?_
 rw [rounds_succ]
 go_wp2
 ·go_ret
  exact ⟨ret_bool (inRg_no (by omega)).symm, HB.out⟩
 ·rw [rounds_succ]
  go_wp2
  ·go_ret
   exact ⟨ret_bool (inRg_no (by omega)).symm, HB.out⟩
  ·rw [rounds_succ]
   go_wp2
   ·go_ret
    exact ⟨ret_bool (inRg_no (by omega)).symm, HB.out⟩
   ·rw [rounds_succ]
    go_wp2
    ·go_ret
     refine ⟨ret_bool ?_, HB.out⟩
     by_cases hv : v ≤ 1000000000
     ·rw [decide_eq_true hv]; exact (inRg_iff.2 (by omega)).symm
     ·rw [decide_eq_false hv]; exact (inRg_no (by omega)).symm
    ·go_ret
     exact ⟨ret_bool (inRg_no (by omega)).symm, HB.out⟩
   ·go_ret
    exact ⟨ret_bool (inRg_no (by omega)).symm, HB.out⟩
  ·go_ret
   exact ⟨ret_bool (inRg_no (by omega)).symm, HB.out⟩
 ·go_ret
  exact ⟨ret_bool (inRg_no (by omega)).symm, HB.out⟩
def usedL (a b c d : List UInt8) (x y z v : Int) : Bool := (x == 0 || a != []) && (y == 0 || b != []) && (z == 0 || c != []) && (v == 0 || d != [])
theorem usedL_iff {a b c d : List UInt8} {x y z v : Int} : usedL a b c d x y z v = true ↔ (a = [] → x = 0) ∧ (b = [] → y = 0) ∧ (c = [] → z = 0) ∧ (d = [] → v = 0) := by
 have g : ∀ (n : Int) (l : List UInt8), (n = 0 ∨ ¬ l = []) ↔ (l = [] → n = 0) := fun n l => ⟨fun h e => h.elim id fun q => absurd e q, fun h => (Classical.em (l = [])).elim (fun e => .inl (h e)) .inr⟩
 simp only [usedL, Bool.and_eq_true, Bool.or_eq_true, beq_iff_eq, bne_iff_ne, ne_eq, g, and_assoc]
theorem usedL_no {a b c d : List UInt8} {x y z v : Int} (h : ¬ ((a = [] → x = 0) ∧ (b = [] → y = 0) ∧ (c = [] → z = 0) ∧ (d = [] → v = 0))) : usedL a b c d x y z v = false := by
 cases e : usedL a b c d x y z v with
 | false => rfl
 | true => exact absurd (usedL_iff.1 e) h
def okN (l : List UInt8) (n : Int) : Prop := l = [] → n = 0
theorem isUsed_any (f a b c d : List UInt8) (x y z v : Int) (w : World) : Calls Tryz.prog 140 #[wd f a b c d, n4 x y z v] w fun e w' => e = .returned (.bool (usedL a b c d x y z v)) ∧ Below w.heap.size w w' := by
 have HB : Hid (Below w.heap.size w ((w.alloc (.cells #[sA f, sA a, sA b, sA c, sA d] 235)).alloc (o4 x y z v))) := ((brf).alloc (Nat.le_refl _) _).alloc (by simp) _
 have i0 := ix0 x y z v
 have i1 := ix1 x y z v
 have i2 := ix2 x y z v
 have i3 := ix3 x y z v
 have HS : Hid (okN a x ∧ okN b y ∧ okN c z ∧ okN d v → usedL a b c d x y z v = true) := usedL_iff.2
 have HN : Hid (¬ (okN a x ∧ okN b y ∧ okN c z ∧ okN d v) → usedL a b c d x y z v = false) := usedL_no
 generalize usedL a b c d x y z v = U at *
 go_enter Tryz.func140, Tryz.ntmps140
 go_wp2
 go_loop [8] (fun i => ∃ j : Nat, j ≤ 4 ∧ i = .int .i64 j ∧ Hid ((0 < j → okN a x) ∧ (1 < j → okN b y) ∧ (2 < j → okN c z) ∧ (3 < j → okN d v))) (fun i => 4 - (intOf i).toNat)
 case atStart => exact ⟨0, by omega, rfl, (show Hid _ from ⟨by omega, by omega, by omega, by omega⟩)⟩
 case round =>
  obtain ⟨j, hj4, rfl, HG⟩ := hrel
  rcases (show j = 0 ∨ j = 1 ∨ j = 2 ∨ j = 3 ∨ j = 4 by omega) with e | e | e | e | e
  ·subst e
   by_cases hn : x = 0
   ·have HO : Hid (okN a x) := fun _ => hn
    subst hn
    go_wp2
    go_round
    case rel => exact ⟨1, by omega, by go_num, (show Hid _ from ⟨fun _ => HO.out, by omega, by omega, by omega⟩)⟩
    case measure => simp [intOf]
   ·have q0 : (x == 0) = false := by simp [hn]
    have q1 : (x != 0) = true := by simp [hn]
    by_cases hl : a = []
    ·have HO : Hid (U = false) := HN.out (fun h => hn (h.1 hl))
     clear hn
     subst hl
     go_wp2
     go_ret
     exact ⟨ret_bool HO.out.symm, HB.out⟩
    ·have HO : Hid (okN a x) := fun h => absurd h hl
     have p1 : (([] : List UInt8) == a) = false := by rw [beq_eq_false_iff_ne]; exact fun h => hl h.symm
     have p2 : (a == []) = false := by rw [beq_eq_false_iff_ne]; exact hl
     have p3 : a.isEmpty = false := by simpa using hl
     clear hn hl
     go_wp2
     go_round
     case rel => exact ⟨1, by omega, by go_num, (show Hid _ from ⟨fun _ => HO.out, by omega, by omega, by omega⟩)⟩
     case measure => simp [intOf]
  ·subst e
   by_cases hn : y = 0
   ·have HO : Hid (okN b y) := fun _ => hn
    subst hn
    go_wp2
    go_round
    case rel => exact ⟨2, by omega, by go_num, (show Hid _ from ⟨fun _ => HG.out.1 (by omega), fun _ => HO.out, by omega, by omega⟩)⟩
    case measure => simp [intOf]
   ·have q0 : (y == 0) = false := by simp [hn]
    have q1 : (y != 0) = true := by simp [hn]
    by_cases hl : b = []
    ·have HO : Hid (U = false) := HN.out (fun h => hn (h.2.1 hl))
     clear hn
     subst hl
     go_wp2
     go_ret
     exact ⟨ret_bool HO.out.symm, HB.out⟩
    ·have HO : Hid (okN b y) := fun h => absurd h hl
     have p1 : (([] : List UInt8) == b) = false := by rw [beq_eq_false_iff_ne]; exact fun h => hl h.symm
     have p2 : (b == []) = false := by rw [beq_eq_false_iff_ne]; exact hl
     have p3 : b.isEmpty = false := by simpa using hl
     clear hn hl
     go_wp2
     go_round
     case rel => exact ⟨2, by omega, by go_num, (show Hid _ from ⟨fun _ => HG.out.1 (by omega), fun _ => HO.out, by omega, by omega⟩)⟩
     case measure => simp [intOf]
  ·subst e
   by_cases hn : z = 0
   ·have HO : Hid (okN c z) := fun _ => hn
    subst hn
    go_wp2
    go_round
    case rel => exact ⟨3, by omega, by go_num, (show Hid _ from ⟨fun _ => HG.out.1 (by omega), fun _ => HG.out.2.1 (by omega), fun _ => HO.out, by omega⟩)⟩
    case measure => simp [intOf]
   ·have q0 : (z == 0) = false := by simp [hn]
    have q1 : (z != 0) = true := by simp [hn]
    by_cases hl : c = []
    ·have HO : Hid (U = false) := HN.out (fun h => hn (h.2.2.1 hl))
     clear hn
     subst hl
     go_wp2
     go_ret
     exact ⟨ret_bool HO.out.symm, HB.out⟩
    ·have HO : Hid (okN c z) := fun h => absurd h hl
     have p1 : (([] : List UInt8) == c) = false := by rw [beq_eq_false_iff_ne]; exact fun h => hl h.symm
     have p2 : (c == []) = false := by rw [beq_eq_false_iff_ne]; exact hl
     have p3 : c.isEmpty = false := by simpa using hl
     clear hn hl
     go_wp2
     go_round
     case rel => exact ⟨3, by omega, by go_num, (show Hid _ from ⟨fun _ => HG.out.1 (by omega), fun _ => HG.out.2.1 (by omega), fun _ => HO.out, by omega⟩)⟩
     case measure => simp [intOf]
  ·subst e
   by_cases hn : v = 0
   ·have HO : Hid (okN d v) := fun _ => hn
    subst hn
    go_wp2
    go_round
    case rel => exact ⟨4, by omega, by go_num, (show Hid _ from ⟨fun _ => HG.out.1 (by omega), fun _ => HG.out.2.1 (by omega), fun _ => HG.out.2.2.1 (by omega), fun _ => HO.out⟩)⟩
    case measure => simp [intOf]
   ·have q0 : (v == 0) = false := by simp [hn]
    have q1 : (v != 0) = true := by simp [hn]
    by_cases hl : d = []
    ·have HO : Hid (U = false) := HN.out (fun h => hn (h.2.2.2 hl))
     clear hn
     subst hl
     go_wp2
     go_ret
     exact ⟨ret_bool HO.out.symm, HB.out⟩
    ·have HO : Hid (okN d v) := fun h => absurd h hl
     have p1 : (([] : List UInt8) == d) = false := by rw [beq_eq_false_iff_ne]; exact fun h => hl h.symm
     have p2 : (d == []) = false := by rw [beq_eq_false_iff_ne]; exact hl
     have p3 : d.isEmpty = false := by simpa using hl
     clear hn hl
     go_wp2
     go_round
     case rel => exact ⟨4, by omega, by go_num, (show Hid _ from ⟨fun _ => HG.out.1 (by omega), fun _ => HG.out.2.1 (by omega), fun _ => HG.out.2.2.1 (by omega), fun _ => HO.out⟩)⟩
     case measure => simp [intOf]
  ·subst e
   have HO : Hid (U = true) := HS.out ⟨HG.out.1 (by omega), HG.out.2.1 (by omega), HG.out.2.2.1 (by omega), HG.out.2.2.2 (by omega)⟩
   go_wp2
   go_ret
   exact ⟨ret_bool HO.out.symm, HB.out⟩
structure Kpt (M : Nat → Prop) (W W' : World) : Prop where
 os : W'.os = W.os
 tape : W'.tape = W.tape
 output : W'.output = W.output
 size : W.heap.size ≤ W'.heap.size
 block : ∀ k, k < W.heap.size → ¬ M k → W'.heap[k]? = W.heap[k]?
theorem Kpt.trans {M : Nat → Prop} {X Y Z : World} (h : Kpt M X Y) (k : Kpt M Y Z) : Kpt M X Z :=
 ⟨k.os.trans h.os, k.tape.trans h.tape, k.output.trans h.output, Nat.le_trans h.size k.size, fun i hi hm => (k.block i (Nat.lt_of_lt_of_le hi h.size) hm).trans (h.block i hi hm)⟩
theorem Kpt.of_below {M : Nat → Prop} {X Y : World} (h : Below X.heap.size X Y) : Kpt M X Y := ⟨h.os, h.tape, h.output, h.size, fun k hk _ => h.block k hk⟩
theorem Kpt.below {M : Nat → Prop} {X Y : World} (h : Kpt M X Y) {B : Nat} (hB : B ≤ X.heap.size) (hm : ∀ k, M k → B ≤ k) : Below B X Y :=
 ⟨h.os, h.tape, h.output, h.size, fun k hk => h.block k (Nat.lt_of_lt_of_le hk hB) fun e => absurd (hm k e) (by omega)⟩
theorem bk_kpt {M : Nat → Prop} {b : Nat} {cs : List Value} {w w1 : World} (h : Bk b cs w) (hk : Kpt M w w1) (hM : ¬ M b) : Bk b cs w1 := h.same hk.size (hk.block b h.1 hM)
theorem Kpt.set {M : Nat → Prop} {w : World} {b : Nat} (hM : M b) (j : Nat) (v : Value) : Kpt M w (w.setCell ⟨b, j, none⟩ v) :=
 have h : Below b w (w.setCell ⟨b, j, none⟩ v) := Below.setCell (p := ⟨b, j, none⟩) (brf) (Nat.le_refl b) v
 ⟨h.os, h.tape, h.output, h.size, fun k _ hk => Below.heap_setCell w ⟨b, j, none⟩ v k (fun e => hk (e ▸ hM))⟩
theorem over_eq (a : Act) (m : List Bool) (f : Nat → Value) : over a m f = { tmps := (overL f m 0 a.tmps.toList).toArray, defers := a.defers } := rfl
structure WT (w : World) : Prop where
 first : ∀ k, k < 9 → w.cell? ⟨8, k * 5, none⟩ = some (sA (firstW k))
 letter : ∀ k i, k < 9 → i < 4 → w.cell? ⟨8, k * 5 + 1 + i, none⟩ = some (sA (letW k i))
theorem WT.later {w w' : World} (h : WT w) (hb : Below w.heap.size w w') : WT w' := ⟨fun k hk => cell_later hb (h.first k hk), fun k i hk hi => cell_later hb (h.letter k i hk hi)⟩
theorem xor_u8 (a b : UInt8) : bits BinOp.xor IntKind.u8 (a.toNat : Int) (b.toNat : Int) = ((a ^^^ b).toNat : Int) := by
 have h : bits BinOp.xor IntKind.u8 (a.toNat : Int) (b.toNat : Int) = IntKind.u8.wrap ((BitVec.ofInt 8 (a.toNat : Int) ^^^ BitVec.ofInt 8 (b.toNat : Int)).toNat : Nat) := rfl
 have e : ∀ c : UInt8, BitVec.ofInt 8 (c.toNat : Int) = c.toBitVec := fun c => by
  apply BitVec.eq_of_toNat_eq
  rw [BitVec.toNat_ofInt]
  have := c.toNat_lt
  show _ = c.toNat
  omega
 rw [h, e, e]
 have h2 : (a.toBitVec ^^^ b.toBitVec).toNat = (a ^^^ b).toNat := rfl
 rw [h2]
 have := (a ^^^ b).toNat_lt
 generalize (a ^^^ b).toNat = n at *
 show (let m := (n : Int) % (2 ^ 8 : Int); if (false && decide (m ≥ (2 ^ 7 : Int))) = true then m - (2 ^ 8 : Int) else m) = (n : Int)
 simp
 omega
theorem xor_take {l : List UInt8} {i : Nat} (h : i < l.length) : xorL (l.take (i + 1)) = xorL (l.take i) ^^^ l[i] := by
 unfold xorL
 rw [List.take_succ_eq_append_getElem h, List.foldl_append]
 rfl
theorem sumOf_any (s : ByteArray) (w : World) (hs : s.size ≤ 4294967280) : Calls Tryz.prog 104 #[.string s] w fun e w' => e = .returned (.int .i64 (sumL s.data.toList)) ∧ w' = w := by
 go_enter Tryz.func104, Tryz.ntmps104
 go_wp2
 go_loop [3, 7] (fun u i => ∃ j : Nat, j ≤ s.size ∧ i = .int .i64 j ∧ u = .int .u8 ((xorL (s.data.toList.take j)).toNat : Int)) (fun u i => s.size - (intOf i).toNat)
 case atStart => exact ⟨0, by omega, rfl, rfl⟩
 case round =>
  obtain ⟨j, hj, rfl, rfl⟩ := hrel
  by_cases h : j < s.size
  ·go_wp2
   go_round
   case rel =>
    refine ⟨j + 1, h, by go_num, ?_⟩
    have hl : j < s.data.toList.length := by rw [← Lib.size_eq]; exact h
    have e : s[j] = s.data.toList[j] := rfl
    rw [xor_u8, xor_take hl, e]
   case measure => simp [intOf]; omega
  ·go_wp2
   go_ret
   refine ⟨ret_int ?_, rfl⟩
   have hl : s.data.toList.take j = s.data.toList := List.take_of_length_le (by rw [← Lib.size_eq]; omega)
   have := (xorL s.data.toList).toNat_lt
   rw [hl, IntWalk.wrap64_in _ ⟨by omega, by omega⟩]
   rfl
theorem kind_miss {l : List UInt8} (h : ∀ j, 1 ≤ j → j ≤ 8 → l ≠ firstW j) : kindR l = 0 := by
 unfold kindR
 rw [if_neg (h 1 (by decide) (by decide)), if_neg (h 2 (by decide) (by decide)), if_neg (h 3 (by decide) (by decide)), if_neg (h 4 (by decide) (by decide)), if_neg (h 5 (by decide) (by decide)), if_neg (h 6 (by decide) (by decide)), if_neg (h 7 (by decide) (by decide)), if_neg (h 8 (by decide) (by decide))]
theorem kindOf_any (l : List UInt8) (w : World) (h : WT w) : Calls Tryz.prog 163 #[sA l] w fun e w' => e = .returned (.int .i64 (kindR l : Nat)) ∧ w' = w := by
 have k1 : w.cell? ⟨8, 5, none⟩ = some (.string ⟨#[71, 50, 56]⟩) := h.first 1 (by decide)
 have k2 : w.cell? ⟨8, 10, none⟩ = some (.string ⟨#[71, 49]⟩) := h.first 2 (by decide)
 have k3 : w.cell? ⟨8, 15, none⟩ = some (.string ⟨#[77, 49]⟩) := h.first 3 (by decide)
 have k4 : w.cell? ⟨8, 20, none⟩ = some (.string ⟨#[77, 50]⟩) := h.first 4 (by decide)
 have k5 : w.cell? ⟨8, 25, none⟩ = some (.string ⟨#[77, 51]⟩) := h.first 5 (by decide)
 have k6 : w.cell? ⟨8, 30, none⟩ = some (.string ⟨#[77, 49, 48, 52]⟩) := h.first 6 (by decide)
 have k7 : w.cell? ⟨8, 35, none⟩ = some (.string ⟨#[71, 52]⟩) := h.first 7 (by decide)
 have k8 : w.cell? ⟨8, 40, none⟩ = some (.string ⟨#[77, 49, 48, 54]⟩) := h.first 8 (by decide)
 clear h
 go_enter Tryz.func163, Tryz.ntmps163
 go_wp2
 go_loop [3] (fun i => ∃ k : Nat, 1 ≤ k ∧ k ≤ 9 ∧ i = .int .i64 k ∧ Hid (∀ j, 1 ≤ j → j < k → l ≠ firstW j)) (fun i => 9 - (intOf i).toNat)
 case atStart => exact ⟨1, by omega, by omega, rfl, fun j h1 h2 => absurd h2 (by omega)⟩
 case round =>
  obtain ⟨k, hk1, hk9, rfl, HG⟩ := hrel
  rcases (show k = 1 ∨ k = 2 ∨ k = 3 ∨ k = 4 ∨ k = 5 ∨ k = 6 ∨ k = 7 ∨ k = 8 ∨ k = 9 by omega) with e | e | e | e | e | e | e | e | e
  ·subst e
   by_cases hl : l = [71, 50, 56]
   ·subst hl
    go_wp2
    go_ret
    exact ⟨ret_int (by decide), rfl⟩
   ·have HL : Hid (l ≠ firstW 1) := hl
    have q1 : (([71, 50, 56] : List UInt8) == l) = false := by rw [beq_eq_false_iff_ne]; exact fun h => hl h.symm
    have q2 : (l == [71, 50, 56]) = false := by rw [beq_eq_false_iff_ne]; exact hl
    clear hl
    go_wp2
    go_round
    case rel => exact ⟨2, by omega, by omega, by go_num, fun j h1 hj => (Nat.lt_succ_iff_lt_or_eq.1 hj).elim (HG.out j h1) fun e => by rw [e]; exact HL.out⟩
    case measure => simp [intOf]
  ·subst e
   by_cases hl : l = [71, 49]
   ·subst hl
    go_wp2
    go_ret
    exact ⟨ret_int (by decide), rfl⟩
   ·have HL : Hid (l ≠ firstW 2) := hl
    have q1 : (([71, 49] : List UInt8) == l) = false := by rw [beq_eq_false_iff_ne]; exact fun h => hl h.symm
    have q2 : (l == [71, 49]) = false := by rw [beq_eq_false_iff_ne]; exact hl
    clear hl
    go_wp2
    go_round
    case rel => exact ⟨3, by omega, by omega, by go_num, fun j h1 hj => (Nat.lt_succ_iff_lt_or_eq.1 hj).elim (HG.out j h1) fun e => by rw [e]; exact HL.out⟩
    case measure => simp [intOf]
  ·subst e
   by_cases hl : l = [77, 49]
   ·subst hl
    go_wp2
    go_ret
    exact ⟨ret_int (by decide), rfl⟩
   ·have HL : Hid (l ≠ firstW 3) := hl
    have q1 : (([77, 49] : List UInt8) == l) = false := by rw [beq_eq_false_iff_ne]; exact fun h => hl h.symm
    have q2 : (l == [77, 49]) = false := by rw [beq_eq_false_iff_ne]; exact hl
    clear hl
    go_wp2
    go_round
    case rel => exact ⟨4, by omega, by omega, by go_num, fun j h1 hj => (Nat.lt_succ_iff_lt_or_eq.1 hj).elim (HG.out j h1) fun e => by rw [e]; exact HL.out⟩
    case measure => simp [intOf]
  ·subst e
   by_cases hl : l = [77, 50]
   ·subst hl
    go_wp2
    go_ret
    exact ⟨ret_int (by decide), rfl⟩
   ·have HL : Hid (l ≠ firstW 4) := hl
    have q1 : (([77, 50] : List UInt8) == l) = false := by rw [beq_eq_false_iff_ne]; exact fun h => hl h.symm
    have q2 : (l == [77, 50]) = false := by rw [beq_eq_false_iff_ne]; exact hl
    clear hl
    go_wp2
    go_round
    case rel => exact ⟨5, by omega, by omega, by go_num, fun j h1 hj => (Nat.lt_succ_iff_lt_or_eq.1 hj).elim (HG.out j h1) fun e => by rw [e]; exact HL.out⟩
    case measure => simp [intOf]
  ·subst e
   by_cases hl : l = [77, 51]
   ·subst hl
    go_wp2
    go_ret
    exact ⟨ret_int (by decide), rfl⟩
   ·have HL : Hid (l ≠ firstW 5) := hl
    have q1 : (([77, 51] : List UInt8) == l) = false := by rw [beq_eq_false_iff_ne]; exact fun h => hl h.symm
    have q2 : (l == [77, 51]) = false := by rw [beq_eq_false_iff_ne]; exact hl
    clear hl
    go_wp2
    go_round
    case rel => exact ⟨6, by omega, by omega, by go_num, fun j h1 hj => (Nat.lt_succ_iff_lt_or_eq.1 hj).elim (HG.out j h1) fun e => by rw [e]; exact HL.out⟩
    case measure => simp [intOf]
  ·subst e
   by_cases hl : l = [77, 49, 48, 52]
   ·subst hl
    go_wp2
    go_ret
    exact ⟨ret_int (by decide), rfl⟩
   ·have HL : Hid (l ≠ firstW 6) := hl
    have q1 : (([77, 49, 48, 52] : List UInt8) == l) = false := by rw [beq_eq_false_iff_ne]; exact fun h => hl h.symm
    have q2 : (l == [77, 49, 48, 52]) = false := by rw [beq_eq_false_iff_ne]; exact hl
    clear hl
    go_wp2
    go_round
    case rel => exact ⟨7, by omega, by omega, by go_num, fun j h1 hj => (Nat.lt_succ_iff_lt_or_eq.1 hj).elim (HG.out j h1) fun e => by rw [e]; exact HL.out⟩
    case measure => simp [intOf]
  ·subst e
   by_cases hl : l = [71, 52]
   ·subst hl
    go_wp2
    go_ret
    exact ⟨ret_int (by decide), rfl⟩
   ·have HL : Hid (l ≠ firstW 7) := hl
    have q1 : (([71, 52] : List UInt8) == l) = false := by rw [beq_eq_false_iff_ne]; exact fun h => hl h.symm
    have q2 : (l == [71, 52]) = false := by rw [beq_eq_false_iff_ne]; exact hl
    clear hl
    go_wp2
    go_round
    case rel => exact ⟨8, by omega, by omega, by go_num, fun j h1 hj => (Nat.lt_succ_iff_lt_or_eq.1 hj).elim (HG.out j h1) fun e => by rw [e]; exact HL.out⟩
    case measure => simp [intOf]
  ·subst e
   by_cases hl : l = [77, 49, 48, 54]
   ·subst hl
    go_wp2
    go_ret
    exact ⟨ret_int (by decide), rfl⟩
   ·have HL : Hid (l ≠ firstW 8) := hl
    have q1 : (([77, 49, 48, 54] : List UInt8) == l) = false := by rw [beq_eq_false_iff_ne]; exact fun h => hl h.symm
    have q2 : (l == [77, 49, 48, 54]) = false := by rw [beq_eq_false_iff_ne]; exact hl
    clear hl
    go_wp2
    go_round
    case rel => exact ⟨9, by omega, by omega, by go_num, fun j h1 hj => (Nat.lt_succ_iff_lt_or_eq.1 hj).elim (HG.out j h1) fun e => by rw [e]; exact HL.out⟩
    case measure => simp [intOf]
  ·subst e
   have HZ : Hid (kindR l = 0) := kind_miss fun j h1 h8 => HG.out j h1 (by omega)
   go_wp2
   go_ret
   exact ⟨ret_int (by rw [HZ.out]; rfl), rfl⟩
theorem commandOf_any (k x y z v : Int) (w : World) : Calls Tryz.prog 165 #[.int .i64 k, n4 x y z v] w fun e w' => e = .returned (cm k x y z v) ∧ w' = (w.alloc (o4 x y z v)).alloc (o5 k x y z v) := by
 go_enter Tryz.func165, Tryz.ntmps165
 go_wp2
 refine bodyPost_ret (v := cm k x y z v) (by simp [results, Tryz.results165, go_sem]) rfl ⟨rfl, rfl⟩
abbrev Rb (r : Nat) (s : Rd) (w : World) : Prop := Bk r [sA s.1, .bool s.2] w
theorem isDone_any (r : Nat) (s : Rd) (w : World) (h : Rb r s w) : Calls Tryz.prog 166 #[ptr r] w fun e w' => e = .returned (.bool (doneR s)) ∧ w' = w := by
 obtain ⟨l, f⟩ := s
 have c0 := h.c 0 rfl
 have c1 := h.c 1 rfl
 clear h
 simp only at c0 c1
 cases f with
 | true =>
  go_enter Tryz.func166, Tryz.ntmps166
  go_wp2
  go_ret
  exact ⟨rfl, rfl⟩
 | false =>
  by_cases hl : l = []
  ·subst hl
   go_enter Tryz.func166, Tryz.ntmps166
   go_wp2
   go_ret
   exact ⟨rfl, rfl⟩
  ·have HD : Hid (doneR (l, false) = false) := by show doneR (l, false) = false; simp [doneR, hl]
   have p1 : (([] : List UInt8) == l) = false := by rw [beq_eq_false_iff_ne]; exact fun h => hl h.symm
   have p2 : (l == []) = false := by rw [beq_eq_false_iff_ne]; exact hl
   have p3 : l.isEmpty = false := by simpa using hl
   clear hl
   go_enter Tryz.func166, Tryz.ntmps166
   go_wp2
   go_ret
   exact ⟨ret_bool HD.out.symm, rfl⟩
end Go.Proofs.YtcajifelbldjnaaGreatDoor.C
