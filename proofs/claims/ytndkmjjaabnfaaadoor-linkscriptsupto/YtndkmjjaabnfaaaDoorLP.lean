/- Scripts, plainly: what a text tells; how many numbers behind one another are not 0. -/
import Derived.Test.YtndkmjjaabnfaaaDoorLN
namespace Go.Proofs.YtndkmjjaabnfaaaDoor
open Go.RowKit

/-- The number that digits tell in a script. -/
def turn (d : List UInt8) : Option Int := if d = [] ∨ 5 < d.length ∨ d.head? = some 48 ∨ digs d < 3 then none else some (digs d)
/-- The first sign, or number, of a text that does not begin with a blank; what is behind it. -/
def tok : List UInt8 → Option (Int × List UInt8)
  | [] => none
  | b :: t => if b = 46 then some (0, t) else if b = 120 then some (1, t) else if b = 97 then some (2, t)
    else match turn ((b :: t).takeWhile isDig) with
      | none => none
      | some n => some (n, (b :: t).dropWhile isDig)
def rdF : Nat → List UInt8 → Option (List Int)
  | 0, _ => some []
  | _ + 1, [] => some []
  | n + 1, b :: t => if b = 32 then rdF n t else match tok (b :: t) with
    | none => none
    | some (v, r) => (rdF n r).map (v :: ·)
theorem tok_cons (b : UInt8) (t : List UInt8) : tok (b :: t) = if b = 46 then some (0, t) else if b = 120 then some (1, t) else if b = 97 then some (2, t)
    else match turn ((b :: t).takeWhile isDig) with
      | none => none
      | some n => some (n, (b :: t).dropWhile isDig) := rfl
theorem rdF_cons (n : Nat) (b : UInt8) (t : List UInt8) : rdF (n + 1) (b :: t) = if b = 32 then rdF n t else match tok (b :: t) with
    | none => none
    | some (v, r) => (rdF n r).map (v :: ·) := rfl
/-- The numbers that a text tells. -/
def rd (l : List UInt8) : Option (List Int) := rdF l.length l
theorem turn_ne {d : List UInt8} {n : Int} (h : turn d = some n) : d ≠ [] := by
  intro e
  subst e
  simp [turn] at h
theorem turn_in {d : List UInt8} {n : Int} (h : turn d = some n) : n = digs d ∧ 3 ≤ n ∧ d.length ≤ 5 ∧ d.head? ≠ some 48 := by
  unfold turn at h
  split at h
  · cases h
  · rename_i hc
    obtain rfl := Option.some.inj h
    refine ⟨rfl, ?_, ?_, ?_⟩
    · exact Int.not_lt.1 fun x => hc (.inr (.inr (.inr x)))
    · exact Nat.not_lt.1 fun x => hc (.inr (.inl x))
    · exact fun x => hc (.inr (.inr (.inl x)))
theorem tok_shorter {l : List UInt8} {v : Int} {r : List UInt8} (h : tok l = some (v, r)) : r.length < l.length := by
  cases l with
  | nil => cases h
  | cons b t =>
    rw [tok_cons] at h
    split at h
    · simp only [Option.some.injEq, Prod.mk.injEq] at h; rw [← h.2]; simp
    split at h
    · simp only [Option.some.injEq, Prod.mk.injEq] at h; rw [← h.2]; simp
    split at h
    · simp only [Option.some.injEq, Prod.mk.injEq] at h; rw [← h.2]; simp
    split at h
    · cases h
    · rename_i n hn
      simp only [Option.some.injEq, Prod.mk.injEq] at h
      rw [← h.2]
      have h1 := congrArg List.length (List.takeWhile_append_dropWhile (p := isDig) (l := b :: t))
      rw [List.length_append] at h1
      have h2 := turn_ne hn
      have h3 : 0 < ((b :: t).takeWhile isDig).length := List.length_pos_iff.2 h2
      omega
theorem rdF_eq : ∀ (n m : Nat) (l : List UInt8), l.length ≤ n → l.length ≤ m → rdF n l = rdF m l := by
  intro n
  induction n with
  | zero =>
    intro m l hn _
    have : l = [] := List.eq_nil_of_length_eq_zero (by omega)
    subst this
    cases m <;> rfl
  | succ n ih =>
    intro m l hn hm
    cases l with
    | nil => cases m <;> rfl
    | cons b t =>
      cases m with
      | zero => simp at hm
      | succ m =>
        simp only [List.length_cons] at hn hm
        rw [rdF_cons, rdF_cons]
        split
        · exact ih m t (by omega) (by omega)
        · cases hk : tok (b :: t) with
          | none => rfl
          | some q =>
            obtain ⟨v, r⟩ := q
            have := tok_shorter hk
            simp only [List.length_cons] at this
            simp only
            rw [ih m r (by omega) (by omega)]
theorem rd_nil : rd [] = some [] := rfl
theorem rd_blank (t : List UInt8) : rd (32 :: t) = rd t := by
  show rdF (t.length + 1) (32 :: t) = rdF t.length t
  rw [rdF_cons, if_pos rfl]
theorem rd_none {b : UInt8} {t : List UInt8} (hb : b ≠ 32) (h : tok (b :: t) = none) : rd (b :: t) = none := by
  show rdF (t.length + 1) (b :: t) = none
  rw [rdF_cons, if_neg hb, h]
theorem rd_some {b : UInt8} {t r : List UInt8} {v : Int} (hb : b ≠ 32) (h : tok (b :: t) = some (v, r)) : rd (b :: t) = (rd r).map (v :: ·) := by
  have := tok_shorter h
  simp only [List.length_cons] at this
  show rdF (t.length + 1) (b :: t) = _
  rw [rdF_cons, if_neg hb, h]
  simp only
  rw [rdF_eq t.length r.length r (by omega) (Nat.le_refl _)]
  rfl
/-- Blanks ahead left out. -/
def skp (l : List UInt8) : List UInt8 := l.dropWhile (fun b => b == 32)
theorem rd_skp : ∀ l : List UInt8, rd (skp l) = rd l
  | [] => rfl
  | b :: t => by
    unfold skp
    rw [List.dropWhile_cons]
    by_cases h : b = 32
    · subst h
      rw [if_pos (by decide), rd_blank]
      exact rd_skp t
    · rw [if_neg (by simpa using h)]
theorem skp_le (l : List UInt8) : (skp l).length ≤ l.length := by
  have h1 := congrArg List.length (List.takeWhile_append_dropWhile (p := fun b => b == 32) (l := l))
  rw [List.length_append] at h1
  unfold skp
  omega
theorem skp_head : ∀ (l : List UInt8) {b : UInt8} {t : List UInt8}, skp l = b :: t → b ≠ 32
  | [], _, _, h => by cases h
  | a :: l, b, t, h => by
    unfold skp at h
    rw [List.dropWhile_cons] at h
    by_cases e : a = 32
    · rw [if_pos (by simpa using e)] at h
      exact skp_head l h
    · rw [if_neg (by simpa using e)] at h
      simp only [List.cons.injEq] at h
      rw [← h.1]
      exact e
/-- Numbers so far, and what the rest of a text adds. -/
def More (l : List UInt8) (vs : List Int) (left : List UInt8) : Prop := rd l = (rd left).map (vs ++ ·)
theorem More.start (l : List UInt8) : More l [] (skp l) := by
  unfold More
  rw [rd_skp]
  cases rd l <;> simp
theorem More.zero (l : List UInt8) : More l [] l := by
  unfold More
  cases rd l <;> simp
theorem More.skip {l : List UInt8} {vs : List Int} {r : List UInt8} (h : More l vs r) : More l vs (skp r) := by
  unfold More at *
  rw [rd_skp]
  exact h
theorem More.blank {l : List UInt8} {vs : List Int} {r : List UInt8} (h : More l vs (32 :: r)) : More l vs r := by
  unfold More at *
  rw [rd_blank] at h
  exact h
theorem More.next {l : List UInt8} {vs : List Int} {b : UInt8} {t r : List UInt8} {v : Int} (h : More l vs (b :: t)) (hb : b ≠ 32) (hk : tok (b :: t) = some (v, r)) : More l (vs ++ [v]) r := by
  unfold More at *
  rw [h, rd_some hb hk]
  cases rd r <;> simp
theorem More.bad {l : List UInt8} {vs : List Int} {b : UInt8} {t : List UInt8} (h : More l vs (b :: t)) (hb : b ≠ 32) (hk : tok (b :: t) = none) : rd l = none := by
  unfold More at h
  rw [h, rd_none hb hk]
  rfl
theorem More.done {l : List UInt8} {vs : List Int} (h : More l vs []) : rd l = some vs := by
  unfold More at h
  rw [h, rd_nil]
  simp
/-- What Script answers: the numbers, the error. -/
def scrL (l : List UInt8) : List Int := match rd l with
  | none => []
  | some vs => if 2000 < vs.length then [] else vs
def scrE (l : List UInt8) : Int := match rd l with
  | none => 1
  | some vs => if 2000 < vs.length then 8 else 0
theorem scr_none {l : List UInt8} (h : rd l = none) : scrL l = [] ∧ scrE l = 1 := by simp [scrL, scrE, h]
theorem scr_long {l : List UInt8} {vs : List Int} (h : rd l = some vs) (hn : 2000 < vs.length) : scrL l = [] ∧ scrE l = 8 := by simp [scrL, scrE, h, hn]
theorem scr_ok {l : List UInt8} {vs : List Int} (h : rd l = some vs) (hn : ¬ 2000 < vs.length) : scrL l = vs ∧ scrE l = 0 := by simp [scrL, scrE, h, hn]
theorem scrL_le (l : List UInt8) : (scrL l).length ≤ 2000 := by
  unfold scrL
  split
  · simp
  · split
    · simp
    · omega

/-! ### digits -/
theorem decFrom_digs : ∀ (d : List UInt8) (acc : Nat), (∀ b ∈ d, isDig b = true) → ∃ m : Nat, Lib.decFrom acc d = some m ∧ (m : Int) = d.foldl on (acc : Int)
  | [], acc, _ => ⟨acc, rfl, rfl⟩
  | b :: t, acc, h => by
    have hb := (isDig_iff b).1 (h b (by simp))
    obtain ⟨m, h1, h2⟩ := decFrom_digs t (acc * 10 + (b.toNat - 48)) (fun c hc => h c (by simp [hc]))
    refine ⟨m, ?_, ?_⟩
    · unfold Lib.decFrom
      rw [show Lib.digitVal b = some (b.toNat - 48) by unfold Lib.digitVal; rw [if_pos hb]]
      exact h1
    · rw [h2, List.foldl_cons]
      congr 1
      unfold on
      omega
theorem atoi_digs {d : List UInt8} (hd : ∀ b ∈ d, isDig b = true) (hne : d ≠ []) : Lib.atoi d = some (digs d) := by
  cases d with
  | nil => exact absurd rfl hne
  | cons b t =>
    have hb := (isDig_iff b).1 (hd b (by simp))
    have n45 : (b == 45) = false := by rw [beq_eq_false_iff_ne]; intro e; rw [e] at hb; exact absurd hb (by decide)
    have n43 : (b == 43) = false := by rw [beq_eq_false_iff_ne]; intro e; rw [e] at hb; exact absurd hb (by decide)
    obtain ⟨m, h1, h2⟩ := decFrom_digs (b :: t) 0 hd
    have h3 : Lib.decNat (b :: t) = some m := by unfold Lib.decNat; rw [if_neg (by simp)]; exact h1
    have h4 : Lib.atoi (b :: t) = (if b == 45 then (Lib.decNat t).map fun (m : Nat) => -(m : Int) else if b == 43 then (Lib.decNat t).map fun (m : Nat) => (m : Int) else (Lib.decNat (b :: t)).map fun (m : Nat) => (m : Int)) := rfl
    rw [h4, n45, n43, h3]
    simp only [Bool.false_eq_true, if_false, Option.map_some, Option.some.injEq]
    rw [h2]
    rfl
theorem digs_five {d : List UInt8} (hd : ∀ b ∈ d, isDig b = true) (h5 : d.length ≤ 5) : 0 ≤ digs d ∧ digs d < 100000 := by
  have h := digs_in d hd
  refine ⟨h.1, Int.lt_of_lt_of_le h.2 ?_⟩
  exact (by decide : ∀ k, k < 6 → (10 : Int) ^ k ≤ 100000) d.length (by omega)
theorem tw_digs (l : List UInt8) : ∀ b ∈ l.takeWhile isDig, isDig b = true := by
  intro b hb
  exact List.all_eq_true.1 (List.all_takeWhile) b hb
theorem tok_in {l : List UInt8} {v : Int} {r : List UInt8} (h : tok l = some (v, r)) : 0 ≤ v ∧ v < 100000 := by
  cases l with
  | nil => cases h
  | cons b t =>
    rw [tok_cons] at h
    split at h
    · simp only [Option.some.injEq, Prod.mk.injEq] at h; omega
    split at h
    · simp only [Option.some.injEq, Prod.mk.injEq] at h; omega
    split at h
    · simp only [Option.some.injEq, Prod.mk.injEq] at h; omega
    split at h
    · cases h
    · rename_i n hn
      simp only [Option.some.injEq, Prod.mk.injEq] at h
      obtain ⟨h1, _, h3, _⟩ := turn_in hn
      rw [← h.1, h1]
      exact digs_five (tw_digs _) h3

/-! ### how many behind one another are not 0 -/
/-- How many from the front on are not 0. -/
def runF (l : List Int) : Nat := (l.takeWhile (fun x => x != 0)).length
/-- The most of those, of all that begin at a place below k. -/
def worstN (l : List Int) : Nat → Nat
  | 0 => 0
  | k + 1 => max (worstN l k) (runF (l.drop k))
/-- How many at the end of the first k are not 0. -/
def runB (l : List Int) : Nat → Nat
  | 0 => 0
  | k + 1 => if l[k]? = some 0 then 0 else runB l k + 1
/-- The most of those, so far. -/
def worstB (l : List Int) : Nat → Nat
  | 0 => 0
  | k + 1 => max (worstB l k) (runB l (k + 1))
end Go.Proofs.YtndkmjjaabnfaaaDoor
