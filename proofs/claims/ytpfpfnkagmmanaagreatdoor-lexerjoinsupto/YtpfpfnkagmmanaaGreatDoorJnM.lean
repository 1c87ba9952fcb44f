/- Tokens joined, plainly; what is joined is told again. -/
import Derived.Test.YtpfpfnkagmmanaaGreatDoorRfM
namespace Go.Proofs.YtpfpfnkagmmanaaGreatDoor
open Go.RowKit Go.Shelf

/-- A token as it stands in a source. -/
def spl (p : Tk) : List UInt8 := if p.k = 4 then [34] ++ p.t ++ [34] else p.t
def sepT (first : Bool) (line : Int) (p : Tk) : List UInt8 := if line < p.n then List.replicate (p.n - line).toNat 10 else if first = true then [] else [32]
def joinT : Bool → Int → List Tk → List UInt8
  | _, _, [] => []
  | first, line, p :: ps => sepT first line p ++ (spl p ++ joinT false p.n ps)
/-- The text as it is written: no further once it is too long. -/
def wrT (acc : List UInt8) (first : Bool) (line : Int) : List Tk → List UInt8
  | [] => acc
  | p :: ps => if 20000 < acc.length then acc else wrT (acc ++ (sepT first line p ++ spl p)) false p.n ps
def ordB (a : Int) : List Tk → Bool
  | [] => true
  | p :: ps => if p.n < a ∨ 10000 < p.n then false else ordB p.n ps
theorem wrT_small : ∀ (l : List Tk) (acc : List UInt8) (f : Bool) (n : Int), (acc ++ joinT f n l).length ≤ 20000 → wrT acc f n l = acc ++ joinT f n l
  | [], acc, f, n, _ => by simp [wrT, joinT]
  | p :: ps, acc, f, n, h => by
    have h1 : ¬ 20000 < acc.length := by rw [List.length_append] at h; omega
    have e : acc ++ joinT f n (p :: ps) = (acc ++ (sepT f n p ++ spl p)) ++ joinT false p.n ps := by simp [joinT, List.append_assoc]
    rw [wrT, if_neg h1, e]
    rw [e] at h
    exact wrT_small ps _ _ _ h
theorem wrT_big : ∀ (l : List Tk) (acc : List UInt8) (f : Bool) (n : Int), 20000 < (acc ++ joinT f n l).length → 20000 < (wrT acc f n l).length
  | [], acc, f, n, h => by simpa [wrT, joinT] using h
  | p :: ps, acc, f, n, h => by
    have e : acc ++ joinT f n (p :: ps) = (acc ++ (sepT f n p ++ spl p)) ++ joinT false p.n ps := by simp [joinT, List.append_assoc]
    rw [e] at h
    rw [wrT]
    split
    · assumption
    · exact wrT_big ps _ _ _ h
/-- What Join answers. -/
def Joins (l : List Tk) (s : List UInt8) (e : Int) : Prop :=
  (ordB 1 l = false ∧ s = [] ∧ e = 15) ∨ (ordB 1 l = true ∧ ((((joinT true 1 l).length ≤ 20000 ∧ lexW (joinT true 1 l) 1 [] = (l, 0, 0)) ∧ s = joinT true 1 l ∧ e = 0) ∨ (¬ ((joinT true 1 l).length ≤ 20000 ∧ lexW (joinT true 1 l) 1 [] = (l, 0, 0)) ∧ s = [] ∧ e = 1)))
theorem Joins.one {l : List Tk} {s s' : List UInt8} {e e' : Int} (h : Joins l s e) (h' : Joins l s' e') : s = s' ∧ e = e' := by
  rcases h with ⟨h1, rfl, rfl⟩ | ⟨h1, ⟨h2, rfl, rfl⟩ | ⟨h2, rfl, rfl⟩⟩ <;> rcases h' with ⟨h1', rfl, rfl⟩ | ⟨h1', ⟨h2', rfl, rfl⟩ | ⟨h2', rfl, rfl⟩⟩ <;> simp_all

/-! ### tokens that lex again -/
/-- A token that a source may tell. -/
def GoodT (p : Tk) : Prop :=
  (p.k = 1 ∧ (∃ b r, p.t = b :: r ∧ letR b.toNat = true) ∧ ∀ b ∈ p.t, pWord b.toNat = true) ∨
  (p.k = 2 ∧ (∃ b r, p.t = b :: r ∧ digR b.toNat = true) ∧ dropA p.t = [] ∧ rdE p.t = 0) ∨
  (p.k = 3 ∧ ∃ b, p.t = [b] ∧ signB b = true) ∨ (p.k = 4 ∧ labB p.t = true)
def GoodL (a : Int) : List Tk → Prop
  | [] => True
  | p :: ps => a ≤ p.n ∧ GoodT p ∧ GoodL p.n ps
theorem GoodL.mono {a a' : Int} (h : a ≤ a') : ∀ {l : List Tk}, GoodL a' l → GoodL a l
  | [], _ => trivial
  | _ :: _, ⟨h1, h2, h3⟩ => ⟨Int.le_trans h h1, h2, h3⟩
/-- A rest that begins as what stands between tokens does. -/
def Apart (r : List UInt8) : Prop := r = [] ∨ ∃ c t, r = c :: t ∧ (c = 10 ∨ c = 32)
theorem joinT_apart (n : Int) (l : List Tk) : Apart (joinT false n l) := by
  cases l with
  | nil => exact .inl rfl
  | cons p ps =>
    right
    simp only [joinT, sepT]
    split
    · rename_i h
      obtain ⟨k, hk⟩ : ∃ k, (p.n - n).toNat = k + 1 := ⟨(p.n - n).toNat - 1, by omega⟩
      rw [hk, List.replicate_succ]
      exact ⟨10, _, rfl, .inl rfl⟩
    · rw [if_neg (by simp)]
      exact ⟨32, _, rfl, .inr rfl⟩
theorem dropWhile_all {q : UInt8 → Bool} : ∀ (x r : List UInt8), (∀ b ∈ x, q b = true) → (r = [] ∨ ∃ c t, r = c :: t ∧ q c = false) → (x ++ r).dropWhile q = r
  | [], r, _, h => by
    rcases h with rfl | ⟨c, t, rfl, h⟩
    · rfl
    · simp [h]
  | b :: x, r, hx, h => by
    rw [List.cons_append, List.dropWhile_cons, if_pos (hx b (by simp))]
    exact dropWhile_all x r (fun c hc => hx c (by simp [hc])) h
theorem apart_word {r : List UInt8} (h : Apart r) : r = [] ∨ ∃ c t, r = c :: t ∧ pWord c.toNat = false := by
  rcases h with h | ⟨c, t, h, rfl | rfl⟩
  · exact .inl h
  · exact .inr ⟨_, _, h, by decide⟩
  · exact .inr ⟨_, _, h, by decide⟩
theorem dropA_apart {r : List UInt8} (h : Apart r) : dropA r = r := by
  rcases h with rfl | ⟨c, t, rfl, rfl | rfl⟩
  · rfl
  · cases t with
    | nil => rfl
    | cons d t => rfl
  · cases t with
    | nil => rfl
    | cons d t => rfl
theorem dropA_append : ∀ (x : List UInt8) {r : List UInt8}, dropA x = [] → Apart r → dropA (x ++ r) = r
  | [], r, _, h => dropA_apart h
  | [b], r, hx, h => by
    have hb : amtB b = true := by
      cases hb : amtB b with
      | true => rfl
      | false => simp [dropA, hb] at hx
    rw [List.singleton_append, dropA_step hb, dropA_apart h]
  | b :: c :: t, r, hx, h => by
    cases hb : amtB b with
    | true =>
      rw [dropA_step hb] at hx
      rw [List.cons_append, dropA_step hb]
      exact dropA_append (c :: t) hx h
    | false =>
      cases hm : micB b c with
      | true =>
        rw [dropA_mic hb hm] at hx
        rw [List.cons_append, List.cons_append, dropA_mic hb hm]
        exact dropA_append t hx h
      | false => rw [dropA_stop hb hm] at hx; cases hx
theorem okAt_ne34 {b : UInt8} {k : Nat} (h : F.okAt b k = true) : b ≠ 34 := by
  intro e; subst e
  unfold F.okAt at h
  simp at h
theorem labB_all {x : List UInt8} (h : labB x = true) : ∀ b ∈ x, pQuo b.toNat = true := by
  intro b hm
  obtain ⟨k, hk, he⟩ := List.getElem_of_mem hm
  have hk' : k < (⟨x.toArray⟩ : ByteArray).size := by simpa [ByteArray.size] using hk
  unfold labB F.lab at h
  simp only [Bool.and_eq_true, decide_eq_true_eq] at h
  have h1 := okAt_ne (h.2 k hk')
  have h2 := okAt_ne34 (h.2 k hk')
  have e : (⟨x.toArray⟩ : ByteArray)[k]'hk' = b := he
  rw [e] at h1 h2
  exact pQuo_of h2 h1
theorem labB_ne {x : List UInt8} (h : labB x = true) : x ≠ [] := by
  intro e; subst e
  unfold labB F.lab at h
  simp only [Bool.and_eq_true, decide_eq_true_eq] at h
  exact absurd h.1.1 (by decide)
theorem step_good {p : Tk} (hp : GoodT p) {r : List UInt8} (hr : Apart r) : lexStep (spl p ++ r) p.n = .ok (r, p.n, [p]) := by
  obtain ⟨k, x, n⟩ := p
  rcases hp with ⟨hk, ⟨b, y, hx, hb⟩, hall⟩ | ⟨hk, ⟨b, y, hx, hb⟩, hd, hq⟩ | ⟨hk, b, hx, hb⟩ | ⟨hk, hl⟩
  · simp only at hk hx hall
    subst hk
    have e : spl ⟨1, x, n⟩ = x := rfl
    rw [e]
    have hw : wordD (x ++ r) = r := dropWhile_all x r hall (apart_word hr)
    have hs := step_word (b := b) (t := y ++ r) (n := n) hb
    rw [← List.cons_append, ← hx] at hs
    rw [hs, hw, ahead_append rfl]
  · simp only at hk hx hd hq
    subst hk
    have e : spl ⟨2, x, n⟩ = x := rfl
    rw [e]
    have hw : dropA (x ++ r) = r := dropA_append x hd hr
    have ha : ahead (x ++ r) r = x := ahead_append rfl
    have hs := step_amount (b := b) (t := y ++ r) (n := n) hb (by rw [← List.cons_append, ← hx, hw, ha]; exact hq)
    rw [← List.cons_append, ← hx] at hs
    rw [hs, hw, ha]
  · simp only at hk hx
    subst hk hx
    exact step_sign hb
  · simp only at hk hl
    subst hk
    have e : spl ⟨4, x, n⟩ ++ r = 34 :: (x ++ 34 :: r) := by simp [spl]
    rw [e]
    have hw : quoD (x ++ 34 :: r) = 34 :: r := dropWhile_all x (34 :: r) (labB_all hl) (.inr ⟨34, r, rfl, by decide⟩)
    have ha : ahead (x ++ 34 :: r) (34 :: r) = x := ahead_append rfl
    have hs := step_string (t := x ++ 34 :: r) (n := n) (by rw [hw, ha, hl]; rfl)
    rw [hs, hw, ha]
    rfl
theorem lexW_feeds : ∀ (k : Nat) (x : List UInt8) (a : Int) (acc : List Tk), lexW (List.replicate k 10 ++ x) a acc = lexW x (a + k) acc
  | 0, x, a, acc => by simp
  | k + 1, x, a, acc => by
    rw [List.replicate_succ, List.cons_append, lexW_ok step_feed, List.append_nil, lexW_feeds k x (a + 1) acc]
    congr 1
    omega
theorem lexW_sep (first : Bool) (a : Int) (p : Tk) (h : a ≤ p.n) (x : List UInt8) (acc : List Tk) : lexW (sepT first a p ++ x) a acc = lexW x p.n acc := by
  unfold sepT
  split
  · rw [lexW_feeds]; congr 1; omega
  · obtain rfl : a = p.n := by omega
    split
    · rfl
    · rw [List.singleton_append, lexW_ok (step_blank (by decide)), List.append_nil]
theorem lex_join : ∀ (l : List Tk) (first : Bool) (a : Int) (acc : List Tk), GoodL a l → lexW (joinT first a l) a acc = (acc ++ l, 0, 0)
  | [], first, a, acc, _ => by simp [joinT, lexW_nil]
  | p :: ps, first, a, acc, ⟨h1, h2, h3⟩ => by
    rw [joinT, lexW_sep first a p h1, lexW_ok (step_good h2 (joinT_apart _ _)), lex_join ps false p.n _ h3]
    simp
end Go.Proofs.YtpfpfnkagmmanaaGreatDoor
