/- Lists of boxes, plainly: what is wrong with them, the least height, the first two that meet. -/
import Derived.Test.YtiafcgbohckmmaaMath
namespace Go.Proofs.Ytiafcgbohckmmaa

/-- What is wrong with a list, then with boxes behind it. -/
def rlist (l more : List Bx) : Int := if 40 < l.length then 7 else if badL l = 0 then badL more else badL l
theorem rlist_many {l more : List Bx} (h : 40 < l.length) : rlist l more = 7 := if_pos h
theorem rlist_bad {l more : List Bx} (h : l.length ≤ 40) (hb : badL l ≠ 0) : rlist l more = badL l := by unfold rlist; rw [if_neg (by omega), if_neg hb]
theorem rlist_more {l more : List Bx} (h : l.length ≤ 40) (hb : badL l = 0) : rlist l more = badL more := by unfold rlist; rw [if_neg (by omega), if_pos hb]
theorem rlist_zero {l more : List Bx} : rlist l more = 0 ↔ l.length ≤ 40 ∧ badL l = 0 ∧ badL more = 0 := by
  unfold rlist
  by_cases h : 40 < l.length
  · rw [if_pos h]
    constructor
    · intro e; omega
    · rintro ⟨e, _⟩; omega
  · rw [if_neg h]
    by_cases hb : badL l = 0
    · rw [if_pos hb]; constructor
      · intro e; exact ⟨by omega, hb, e⟩
      · rintro ⟨_, _, e⟩; exact e
    · rw [if_neg hb]; constructor
      · intro e; exact absurd e hb
      · rintro ⟨_, e, _⟩; exact absurd e hb
/-- The number of the first box that meets a box. -/
def firstI (l : List Bx) (a : Bx) : Int := idx (fun b => meet b a) l
def firstR (l : List Bx) (a : Bx) : Int × Int := if rlist l [a] = 0 then (firstI l a, 0) else (0, rlist l [a])
theorem any_one (a : Bx) : (fun b => [a].any (meet b)) = (fun b => meet b a) := by funext b; simp

/-- Both ways, raised, and a box. -/
def hits (x y : Bx) (h : Int) (b : Bx) : Bool := meet b (movB x ⟨0, 0, h⟩) || meet b (movB y ⟨0, 0, h⟩)
theorem any_two (x y : Bx) (h : Int) : (fun b => [movB x ⟨0, 0, h⟩, movB y ⟨0, 0, h⟩].any (meet b)) = hits x y h := by funext b; simp [hits]
/-- The least height at which nothing is met. -/
def Least (l : List Bx) (x y : Bx) (h : Int) : Prop := 0 ≤ h ∧ (∀ b ∈ l, hits x y h b = false) ∧ (∀ k, 0 ≤ k → k < h → ∃ b ∈ l, hits x y k b = true) ∧ (h = 0 ∨ ∃ b ∈ l, h = b.hz - x.lz)
theorem hits_iff {x y b : Bx} {h : Int} : hits x y h b = true ↔ ((b.lx < x.hx ∧ b.ly < x.hy ∧ b.lz < x.hz + h) ∧ (x.lx < b.hx ∧ x.ly < b.hy ∧ x.lz + h < b.hz)) ∨ ((b.lx < y.hx ∧ b.ly < y.hy ∧ b.lz < y.hz + h) ∧ (y.lx < b.hx ∧ y.ly < b.hy ∧ y.lz + h < b.hz)) := by
  unfold hits
  rw [Bool.or_eq_true, meet_iff, meet_iff]
  simp only [movB, Int.add_zero]
theorem hits_top {x y b : Bx} {h : Int} (hz : x.lz = y.lz) (hb : hits x y h b = true) : h < b.hz - x.lz := by
  rw [hits_iff] at hb; omega
theorem hits_up {x y b : Bx} {h k : Int} (hz : x.lz = y.lz) (hb : hits x y h b = true) (h1 : h ≤ k) (h2 : k < b.hz - x.lz) : hits x y k b = true := by
  rw [hits_iff] at *; omega
theorem Least.unique {l : List Bx} {x y : Bx} {h k : Int} (a : Least l x y h) (b : Least l x y k) : h = k := by
  obtain ⟨a0, a1, a2, _⟩ := a
  obtain ⟨b0, b1, b2, _⟩ := b
  by_cases e : h < k
  · obtain ⟨c, hc, hm⟩ := b2 h a0 e
    rw [a1 c hc] at hm; cases hm
  · by_cases e2 : k < h
    · obtain ⟨c, hc, hm⟩ := a2 k b0 e2
      rw [b1 c hc] at hm; cases hm
    · omega
/-- How many boxes end above a height. -/
def above (l : List Bx) (x : Bx) (h : Int) : Nat := l.countP fun b => decide (h < b.hz - x.lz)
theorem above_lt {l : List Bx} {x b : Bx} {h k : Int} (hb : b ∈ l) (h1 : h < b.hz - x.lz) (hk : k = b.hz - x.lz) : above l x k < above l x h := by
  unfold above
  have hle : ∀ m : List Bx, (m.countP fun b => decide (k < b.hz - x.lz)) ≤ m.countP fun b => decide (h < b.hz - x.lz) := fun m => List.countP_mono_left fun c _ hc => by
    simp only [decide_eq_true_eq] at hc ⊢; omega
  obtain ⟨s, t, rfl⟩ := List.append_of_mem hb
  simp only [List.countP_append, List.countP_cons]
  have h2 := hle s
  have h3 := hle t
  rw [if_neg (by simp; omega), if_pos (by simp; omega)]
  omega
theorem least_exists (l : List Bx) (x y : Bx) (hz : x.lz = y.lz) : ∃ h, Least l x y h := by
  have key : ∀ n h, above l x h ≤ n → 0 ≤ h → (∀ k, 0 ≤ k → k < h → ∃ b ∈ l, hits x y k b = true) → (h = 0 ∨ ∃ b ∈ l, h = b.hz - x.lz) → ∃ h, Least l x y h := by
    intro n
    induction n with
    | zero =>
      intro h hn h0 hb ht
      refine ⟨h, h0, fun b hbl => ?_, hb, ht⟩
      cases e : hits x y h b with
      | false => rfl
      | true => have := above_lt hbl (hits_top hz e) rfl; omega
    | succ n ih =>
      intro h hn h0 hb ht
      by_cases hf : ∀ b ∈ l, hits x y h b = false
      · exact ⟨h, h0, hf, hb, ht⟩
      · obtain ⟨b, hf⟩ := Classical.not_forall.1 hf
        obtain ⟨hbl, hf⟩ := Classical.not_imp.1 hf
        have e : hits x y h b = true := by simpa using hf
        have htop := hits_top hz e
        refine ih (b.hz - x.lz) (by have := above_lt hbl htop rfl; omega) (by omega) (fun k hk0 hk => ?_) (.inr ⟨b, hbl, rfl⟩)
        by_cases hkh : k < h
        · exact hb k hk0 hkh
        · exact ⟨b, hbl, hits_up hz e (by omega) hk⟩
  exact key _ 0 (Nat.le_refl _) (Int.le_refl _) (fun k h1 h2 => by omega) (.inl rfl)

/-- The first two that meet. -/
def Apt (l : List Bx) (i j : Int) : Prop :=
  (i = -1 ∧ j = -1 ∧ ∀ p q (hp : p < q) (hq : q < l.length), meet (l[p]'(by omega)) (l[q]'hq) = false) ∨
  ∃ p q : Nat, ∃ (hp : p < q) (hq : q < l.length), i = p ∧ j = q ∧ meet (l[p]'(by omega)) (l[q]'hq) = true ∧ (∀ p' q' (hp' : p' < q') (hq' : q' < l.length), p' < p → meet (l[p']'(by omega)) (l[q']'hq') = false) ∧ (∀ q' (hq' : q' < q), p < q' → meet (l[p]'(by omega)) (l[q']'(by omega)) = false)
theorem Apt.unique {l : List Bx} {i j i' j' : Int} (a : Apt l i j) (b : Apt l i' j') : i = i' ∧ j = j' := by
  rcases a with ⟨rfl, rfl, a⟩ | ⟨p, q, hp, hq, rfl, rfl, am, a1, a2⟩
  · rcases b with ⟨rfl, rfl, _⟩ | ⟨p', q', hp', hq', rfl, rfl, bm, _⟩
    · exact ⟨rfl, rfl⟩
    · rw [a p' q' hp' hq'] at bm; cases bm
  · rcases b with ⟨rfl, rfl, b⟩ | ⟨p', q', hp', hq', rfl, rfl, bm, b1, b2⟩
    · rw [b p q hp hq] at am; cases am
    · by_cases e1 : p < p'
      · rw [b1 p q hp hq e1] at am; cases am
      · by_cases e2 : p' < p
        · rw [a1 p' q' hp' hq' e2] at bm; cases bm
        · have e : p = p' := by omega
          subst e
          by_cases e3 : q < q'
          · rw [b2 q e3 hp] at am; cases am
          · by_cases e4 : q' < q
            · rw [a2 q' e4 hp'] at bm; cases bm
            · exact ⟨rfl, by omega⟩
end Go.Proofs.Ytiafcgbohckmmaa
