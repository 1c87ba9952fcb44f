/- What is told of a source are tokens that lex again, in order; joined they are no more than twice as long. -/
import Derived.Test.YtpfpfnkagmmanaaGreatDoorJnM
namespace Go.Proofs.YtpfpfnkagmmanaaGreatDoor
open Go.RowKit Go.Shelf

theorem take_is (q : UInt8 → Bool) (l : List UInt8) : ahead l (l.dropWhile q) = l.takeWhile q := ahead_append (List.takeWhile_append_dropWhile (p := q) (l := l)).symm
theorem len_ahead {l r : List UInt8} (h : r.length ≤ l.length) : (ahead l r).length + r.length = l.length := by
  unfold ahead; rw [List.length_take]; omega
theorem dropA_split : ∀ (l : List UInt8), ∃ x, l = x ++ dropA l ∧ dropA x = []
  | [] => ⟨[], rfl, rfl⟩
  | [b] => by
    cases hb : amtB b with
    | true => exact ⟨[b], by rw [dropA_step hb]; rfl, by rw [dropA_step hb]; rfl⟩
    | false => exact ⟨[], by rw [dropA_last hb]; rfl, rfl⟩
  | b :: c :: t => by
    cases hb : amtB b with
    | true =>
      obtain ⟨x, h1, h2⟩ := dropA_split (c :: t)
      refine ⟨b :: x, ?_, by rw [dropA_step hb]; exact h2⟩
      rw [dropA_step hb, List.cons_append, ← h1]
    | false =>
      cases hm : micB b c with
      | true =>
        obtain ⟨x, h1, h2⟩ := dropA_split t
        refine ⟨b :: c :: x, ?_, by rw [dropA_mic hb hm]; exact h2⟩
        rw [dropA_mic hb hm, List.cons_append, List.cons_append, ← h1]
      | false => exact ⟨[], by rw [dropA_stop hb hm]; rfl, rfl⟩
theorem prefix_cons {l : List UInt8} (h : Lib.hasPrefix l [34] = true) : l = 34 :: Lib.trimPrefix l [34] := by
  have e : Lib.trimPrefix l [34] = l.drop 1 := by unfold Lib.trimPrefix; rw [h]; rfl
  rw [e]
  cases l with
  | nil => cases h
  | cons b t =>
    unfold Lib.hasPrefix at h
    simp [List.isPrefixOf] at h
    subst h; rfl
theorem lexStep_good {l r : List UInt8} {n n' : Int} {ts : List Tk} (h : lexStep l n = .ok (r, n', ts)) :
    (ts = [] ∧ ((n' = n ∧ r.length + 1 ≤ l.length) ∨ (n' = n + 1 ∧ r.length + 1 ≤ l.length))) ∨ (∃ p, ts = [p] ∧ n' = n ∧ p.n = n ∧ GoodT p ∧ l.length = (spl p).length + r.length ∧ p.t ≠ [] ∧ p.t.length ≤ l.length) := by
  cases l with
  | nil => cases h
  | cons b t =>
    have hlt := lexStep_lt h
    simp only [lexStep] at h
    split at h
    · cases h; exact .inl ⟨rfl, .inr ⟨rfl, hlt⟩⟩
    · split at h
      · cases h; exact .inl ⟨rfl, .inl ⟨rfl, hlt⟩⟩
      · split at h
        · cases h; exact .inl ⟨rfl, .inl ⟨rfl, hlt⟩⟩
        · split at h
          · rename_i hb
            cases h
            have e : ahead (b :: t) (wordD (b :: t)) = b :: t.takeWhile fun c => pWord c.toNat := by
              rw [show wordD (b :: t) = (b :: t).dropWhile fun c => pWord c.toNat from rfl, take_is, List.takeWhile_cons, if_pos (letR_word hb)]
            refine .inr ⟨_, rfl, rfl, rfl, .inl ⟨rfl, ⟨b, _, e, hb⟩, fun c hc => ?_⟩, ?_, ?_, ?_⟩
            · simp only at hc
              rw [show wordD (b :: t) = (b :: t).dropWhile fun c => pWord c.toNat from rfl, take_is] at hc
              have := List.all_takeWhile (p := fun c : UInt8 => pWord c.toNat) (l := b :: t)
              rw [List.all_eq_true] at this
              exact this c hc
            · exact (len_ahead (Nat.le_of_lt hlt)).symm
            · simp only; rw [e]; simp
            · simp only; exact Nat.le_trans (Nat.le_add_right _ _) (Nat.le_of_eq (len_ahead (Nat.le_of_lt hlt)))
          · split at h
            · rename_i hb
              split at h
              · rename_i hq
                cases h
                obtain ⟨x, h1, h2⟩ := dropA_split (b :: t)
                have hx : ahead (b :: t) (dropA (b :: t)) = x := ahead_append h1
                have hxn : x ≠ [] := by
                  intro e; rw [e, List.nil_append] at h1
                  rw [← h1] at hlt; omega
                have hl := len_ahead (Nat.le_of_lt hlt)
                rw [hx] at hl hq ⊢
                refine .inr ⟨_, rfl, rfl, rfl, .inr (.inl ⟨rfl, ?_, h2, hq⟩), hl.symm, hxn, by simp only; omega⟩
                cases x with
                | nil => exact absurd rfl hxn
                | cons c y =>
                  rw [List.cons_append] at h1
                  injection h1 with h1 _
                  exact ⟨c, y, rfl, by rw [← h1]; exact hb⟩
              · cases h
            · split at h
              · rename_i hb
                split at h
                · rename_i hq
                  cases h
                  simp only [Bool.and_eq_true] at hq
                  have hc := prefix_cons hq.1
                  have h2 : (quoD t).length ≤ t.length := dropWhile_len t
                  have hl := len_ahead h2
                  have h3 := congrArg List.length hc
                  simp only [List.length_cons] at h3
                  refine .inr ⟨_, rfl, rfl, rfl, .inr (.inr (.inr ⟨rfl, hq.2⟩)), ?_, labB_ne hq.2, ?_⟩
                  · simp [spl]; omega
                  · simp only [List.length_cons]; omega
                · cases h
              · split at h
                · rename_i hb
                  cases h
                  exact .inr ⟨_, rfl, rfl, rfl, .inr (.inr (.inl ⟨rfl, b, rfl, hb⟩)), by simp [spl]; omega, by simp, by simp⟩
                · cases h
theorem lexStep_bad {l : List UInt8} {n e : Int} (hl : l ≠ []) (h : lexStep l n = .error e) : e ≠ 0 := by
  cases l with
  | nil => exact absurd rfl hl
  | cons b t =>
    simp only [lexStep] at h
    split at h
    · cases h
    · split at h
      · cases h
      · split at h
        · cases h
        · split at h
          · cases h
          · split at h
            · split at h
              · cases h
              · cases h; assumption
            · split at h
              · split at h
                · cases h
                · cases h; decide
              · split at h
                · cases h
                · cases h; decide
theorem joinT_feed (n : Int) : ∀ (l : List Tk), GoodL (n + 1) l → (joinT false n l).length ≤ (joinT false (n + 1) l).length + 1
  | [], _ => by simp [joinT]
  | p :: ps, ⟨h1, _, _⟩ => by
    simp only [joinT, sepT, List.length_append]
    rw [if_pos (by omega)]
    split
    · simp only [List.length_replicate]; omega
    · rw [if_neg (by simp)]
      simp only [List.length_replicate, List.length_cons, List.length_nil]; omega
theorem lex_good : ∀ (f : Nat) (l : List UInt8) (n : Int) (acc ts : List Tk) (N E : Int), l.length ≤ f → lexN f l n acc = (ts, N, E) →
    (E ≠ 0 ∧ ts = []) ∨ (N = 0 ∧ E = 0 ∧ ∃ new, ts = acc ++ new ∧ GoodL n new ∧ (joinT false n new).length ≤ 2 * l.length ∧ new.length ≤ l.length ∧ ∀ p ∈ new, p.t ≠ [] ∧ p.t.length ≤ l.length)
  | 0, l, n, acc, ts, N, E, hl, h => by
    simp only [lexN, Prod.mk.injEq] at h
    obtain ⟨rfl, rfl, rfl⟩ := h
    exact .inr ⟨rfl, rfl, [], by simp, trivial, by simp [joinT], by simp, by simp⟩
  | f + 1, l, n, acc, ts, N, E, hl, h => by
    simp only [lexN] at h
    split at h
    · simp only [Prod.mk.injEq] at h
      obtain ⟨rfl, rfl, rfl⟩ := h
      exact .inr ⟨rfl, rfl, [], by simp, trivial, by simp [joinT], by simp, by simp⟩
    · rename_i hne
      cases hs : lexStep l n with
      | error e =>
        rw [hs] at h
        simp only [Prod.mk.injEq] at h
        obtain ⟨rfl, rfl, rfl⟩ := h
        exact .inl ⟨lexStep_bad hne hs, rfl⟩
      | ok x =>
        obtain ⟨r, n', us⟩ := x
        rw [hs] at h
        simp only at h
        have hlt := lexStep_lt hs
        rcases lex_good f r n' (acc ++ us) ts N E (by omega) h with h1 | ⟨rfl, rfl, new, rfl, hg, hj, hn, ha⟩
        · exact .inl h1
        · right
          refine ⟨rfl, rfl, us ++ new, by simp, ?_⟩
          rcases lexStep_good hs with ⟨rfl, ⟨rfl, hr⟩ | ⟨rfl, hr⟩⟩ | ⟨p, rfl, rfl, hp, hgt, hlen, hpt, hpl⟩
          · exact ⟨hg, by simp only [List.nil_append]; omega, by simp only [List.nil_append]; omega, fun p hp => ⟨(ha p hp).1, by have := (ha p hp).2; omega⟩⟩
          · have := joinT_feed n new hg
            exact ⟨hg.mono (by omega), by simp only [List.nil_append]; omega, by simp only [List.nil_append]; omega, fun p hp => ⟨(ha p hp).1, by have := (ha p hp).2; omega⟩⟩
          · have hsp : 1 ≤ (spl p).length := by
              have h0 : 1 ≤ p.t.length := List.length_pos_iff.2 hpt
              unfold spl; split
              · simp
              · exact h0
            refine ⟨⟨by omega, hgt, by rw [hp]; exact hg⟩, ?_, ?_, ?_⟩
            · simp only [List.singleton_append, joinT, sepT, List.length_append]
              rw [if_neg (by omega), if_neg (by simp), hp]
              simp only [List.length_cons, List.length_nil]
              omega
            · simp only [List.singleton_append, List.length_cons]; omega
            · intro q hq
              rcases List.mem_append.1 hq with h | h
              · rw [List.mem_singleton.1 h]; exact ⟨hpt, hpl⟩
              · exact ⟨(ha q h).1, by have := (ha q h).2; omega⟩
theorem joinT_first (n : Int) (l : List Tk) : (joinT true n l).length ≤ (joinT false n l).length := by
  cases l with
  | nil => exact Nat.le_refl _
  | cons p ps =>
    simp only [joinT, sepT, List.length_append]
    split
    · exact Nat.le_refl _
    · simp
/-- What Lex tells of a source. -/
theorem lexR_good {u : List UInt8} {ts : List Tk} {N E : Int} (h : lexR u = (ts, N, E)) : (E ≠ 0 ∧ ts = []) ∨ (u.length ≤ 20000 ∧ N = 0 ∧ E = 0 ∧ GoodL 1 ts ∧ (joinT true 1 ts).length ≤ 2 * u.length ∧ ts.length ≤ 20000 ∧ ∀ p ∈ ts, p.t ≠ [] ∧ p.t.length ≤ 20000) := by
  unfold lexR at h
  split at h
  · simp only [Prod.mk.injEq] at h
    obtain ⟨rfl, rfl, rfl⟩ := h
    exact .inl ⟨by decide, rfl⟩
  · rcases lex_good _ u 1 [] ts N E (Nat.le_refl _) h with h1 | ⟨rfl, rfl, new, hts, hg, hj, hn, ha⟩
    · exact .inl h1
    · rw [List.nil_append] at hts
      rw [hts]
      have := joinT_first 1 new
      exact .inr ⟨by omega, rfl, rfl, hg, by omega, by omega, fun p hp => ⟨(ha p hp).1, by have := (ha p hp).2; omega⟩⟩
/-- The line of the last token. -/
def lastL (a : Int) : List Tk → Int
  | [] => a
  | p :: ps => lastL p.n ps
theorem lastL_ge : ∀ (l : List Tk) (a : Int), GoodL a l → a ≤ lastL a l
  | [], _, _ => Int.le_refl _
  | p :: ps, _, ⟨h1, _, h3⟩ => Int.le_trans h1 (lastL_ge ps p.n h3)
theorem ord_last : ∀ (l : List Tk) (a : Int), GoodL a l → ordB a l = false → 10000 < lastL a l
  | [], _, _, h => by cases h
  | p :: ps, _, ⟨h1, _, h3⟩, h => by
    simp only [ordB] at h
    split at h
    · rename_i hc
      have := lastL_ge ps p.n h3
      show 10000 < lastL p.n ps
      omega
    · exact ord_last ps p.n h3 h
end Go.Proofs.YtpfpfnkagmmanaaGreatDoor
