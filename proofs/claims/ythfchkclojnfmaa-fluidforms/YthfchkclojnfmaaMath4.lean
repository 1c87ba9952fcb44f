/- The document's sorting, plainly: a parcel laid at its place. -/
import Derived.Test.YthfchkclojnfmaaMath3
namespace Go.Proofs.Ythfchkclojnfmaa
open Go.RowKit Go.Maps Go.WideMaps

/-- What is sorted of the first m parcels' labels. -/
def Part (f : List Pc) (m : Nat) (S : List Pc) : Prop := S.Pairwise (fun p q => lb p < lb q) ∧ ∀ p, p ∈ S ↔ (0 < p.2 ∧ p.2 = sumL f (lb p)) ∧ ∃ q ∈ f.take m, lb q = lb p
theorem part_zero (f : List Pc) : Part f 0 [] := ⟨List.Pairwise.nil, fun p => by simp⟩
theorem part_end {f S : List Pc} (hn : Nn f) {m : Nat} (hm : f.length ≤ m) (h : Part f m S) : Srt f S := by
  refine ⟨h.1, fun p => ?_⟩
  rw [h.2 p, List.take_of_length_le hm]
  constructor
  · exact fun h => h.1
  · intro h1
    refine ⟨h1, ?_⟩
    obtain ⟨q, hq, e, _⟩ := (sumL_pos hn (lb p)).1 (by omega)
    exact ⟨q, hq, e⟩
theorem mem_succ {f : List Pc} {m : Nat} (h : m < f.length) (l : List UInt8) : (∃ q ∈ f.take (m + 1), lb q = l) ↔ (∃ q ∈ f.take m, lb q = l) ∨ lb (f[m]'h) = l := by
  rw [List.take_succ_eq_append_getElem h]
  constructor
  · rintro ⟨q, hq, e⟩
    rcases List.mem_append.1 hq with hq | hq
    · exact .inl ⟨q, hq, e⟩
    · simp at hq; subst hq; exact .inr e
  · rintro (⟨q, hq, e⟩ | e)
    · exact ⟨q, List.mem_append_left _ hq, e⟩
    · exact ⟨_, List.mem_append_right _ (by simp), e⟩
/-- A label that has nothing, or that is there already, changes nothing. -/
theorem part_skip {f S : List Pc} {m : Nat} (h : m < f.length) (hP : Part f m S) (hs : sumL f (lb (f[m]'h)) = 0 ∨ ∃ q ∈ S, lb q = lb (f[m]'h)) : Part f (m + 1) S := by
  refine ⟨hP.1, fun p => ?_⟩
  rw [mem_succ h, hP.2 p]
  constructor
  · rintro ⟨h1, h2⟩; exact ⟨h1, .inl h2⟩
  · rintro ⟨h1, h2 | e⟩
    · exact ⟨h1, h2⟩
    · refine ⟨h1, ?_⟩
      rcases hs with hs | ⟨q, hq, e2⟩
      · rw [e] at hs; omega
      · obtain ⟨q', hq', e'⟩ := ((hP.2 q).1 hq).2
        exact ⟨q', hq', e'.trans (e2.trans e)⟩

/-- Those ahead of a label. -/
def ahead (S : List Pc) (l : List UInt8) : List Pc := S.takeWhile fun q => decide (lb q < l)
def rest (S : List Pc) (l : List UInt8) : List Pc := S.dropWhile fun q => decide (lb q < l)
theorem ahead_rest (S : List Pc) (l : List UInt8) : S = ahead S l ++ rest S l := (List.takeWhile_append_dropWhile ..).symm
theorem ahead_lt {S : List Pc} {l : List UInt8} : ∀ q ∈ ahead S l, lb q < l := by
  intro q hq
  unfold ahead at hq
  induction S with
  | nil => simp at hq
  | cons a S ih =>
    rw [List.takeWhile_cons] at hq
    split at hq
    · rename_i ha
      rcases List.mem_cons.1 hq with rfl | hq
      · simpa using ha
      · exact ih hq
    · simp at hq
theorem rest_head {S : List Pc} {l : List UInt8} {b : Pc} {B : List Pc} (h : rest S l = b :: B) : ¬ lb b < l := by
  unfold rest at h
  induction S with
  | nil => simp at h
  | cons a S ih =>
    rw [List.dropWhile_cons] at h
    split at h
    · exact ih h
    · rename_i ha
      injection h with h1 _
      subst h1
      simpa using ha
theorem not_lt_ne {a b : List UInt8} (h : ¬ a < b) (hne : a ≠ b) : b < a :=
  Decidable.byContradiction fun hn => hne (List.le_antisymm (List.not_lt.1 hn) (List.not_lt.1 h))
theorem part_ins {f S : List Pc} {m : Nat} (h : m < f.length) (hP : Part f m S) (h0 : 0 < sumL f (lb (f[m]'h))) (hne : ∀ b B, rest S (lb (f[m]'h)) = b :: B → lb b ≠ lb (f[m]'h)) :
    Part f (m + 1) (ahead S (lb (f[m]'h)) ++ [((f[m]'h).1, sumL f (lb (f[m]'h)))] ++ rest S (lb (f[m]'h))) := by
  have hpw := hP.1
  rw [ahead_rest S (lb (f[m]'h))] at hpw
  obtain ⟨p1, p2, p3⟩ := List.pairwise_append.1 hpw
  have hB : ∀ b ∈ rest S (lb (f[m]'h)), lb (f[m]'h) < lb b := by
    intro b hb
    cases hr : rest S (lb (f[m]'h)) with
    | nil => rw [hr] at hb; cases hb
    | cons c B =>
      have hc := not_lt_ne (rest_head hr) (hne c B hr)
      rw [hr] at hb p2
      rcases List.mem_cons.1 hb with rfl | hb
      · exact hc
      · exact List.lt_trans hc ((List.pairwise_cons.1 p2).1 b hb)
  refine ⟨?_, fun p => ?_⟩
  · rw [List.append_assoc]
    refine List.pairwise_append.2 ⟨p1, ?_, ?_⟩
    · rw [List.singleton_append]
      exact List.pairwise_cons.2 ⟨fun b hb => hB b hb, p2⟩
    · intro a ha b hb
      rcases List.mem_append.1 hb with hb | hb
      · simp at hb; subst hb; exact ahead_lt a ha
      · exact p3 a ha b hb
  · have hmem : p ∈ ahead S (lb (f[m]'h)) ++ [((f[m]'h).1, sumL f (lb (f[m]'h)))] ++ rest S (lb (f[m]'h)) ↔ p ∈ S ∨ p = ((f[m]'h).1, sumL f (lb (f[m]'h))) := by
      conv => rhs; rw [ahead_rest S (lb (f[m]'h))]
      simp only [List.mem_append, List.mem_singleton]
      constructor
      · rintro ((h | h) | h)
        · exact .inl (.inl h)
        · exact .inr h
        · exact .inl (.inr h)
      · rintro ((h | h) | h)
        · exact .inl (.inl h)
        · exact .inr h
        · exact .inl (.inr h)
    rw [hmem, hP.2 p, mem_succ h]
    constructor
    · rintro (⟨h1, h2⟩ | e)
      · exact ⟨h1, .inl h2⟩
      · subst e; exact ⟨⟨h0, rfl⟩, .inr rfl⟩
    · rintro ⟨h1, h2 | e⟩
      · exact .inl ⟨h1, h2⟩
      · right
        obtain ⟨s, n⟩ := p
        have e2 : (f[m]'h).1 = s := ByteArray.ext (Array.ext' e)
        have e3 : n = sumL f (lb (f[m]'h)) := by rw [e]; exact h1.2
        rw [e3, ← e2]
end Go.Proofs.Ythfchkclojnfmaa
