/- What a deck is; where a well is, plainly. -/
import Derived.Test.YtmmpaaaifdikdaaGreatDoorDE
namespace Go.Proofs.YtmmpaaaifdikdaaGreatDoor
open Go.RowKit

/-- A deck that may be. -/
structure Good (l : List Sit) : Prop where
  len : l.length ≤ 12
  each : ∀ s ∈ l, plc s = 0 ∧ chk s.ware = 0 ∧ s.ware.wid ≤ 132500 ∧ s.ware.len ≤ 90500
  apart : l.Pairwise fun a b => a.slot ≠ b.slot ∧ a.name ≠ b.name
theorem bname_iff {a b : ByteArray} : (a == b) = true ↔ a = b := by
  rw [beq_toListBytes, beq_iff_eq, ByteArray.toList_eq, ByteArray.toList_eq]
  exact ⟨fun h => ByteArray.ext (Array.ext' h), fun h => by rw [h]⟩
theorem fit_zero {l : List Sit} {s : Sit} : fit l s = 0 ↔ (s.ware.wid ≤ 132500 ∧ s.ware.len ≤ 90500) ∧ ∀ a ∈ l, a.slot ≠ s.slot ∧ a.name ≠ s.name := by
  unfold fit
  constructor
  · intro h
    split at h
    · omega
    · split at h
      · omega
      · rename_i h1 h2
        refine ⟨by omega, fun a ha => ⟨fun e => h2 (.inl ?_), fun e => h2 (.inr ?_)⟩⟩
        · rw [List.any_eq_true]; exact ⟨a, ha, by simp [e]⟩
        · rw [List.any_eq_true]; exact ⟨a, ha, bname_iff.2 e⟩
  · rintro ⟨⟨h1, h2⟩, h3⟩
    rw [if_neg (by omega), if_neg]
    rintro (h | h)
    · obtain ⟨a, ha, e⟩ := List.any_eq_true.1 h
      exact (h3 a ha).1 (by simpa using e)
    · obtain ⟨a, ha, e⟩ := List.any_eq_true.1 h
      exact (h3 a ha).2 (bname_iff.1 e)
theorem dchk_zero {l : List Sit} : dchk l = 0 ↔ Good l := by
  constructor
  · intro h
    obtain ⟨h1, h2⟩ := dchk_in h
    refine ⟨h1, fun s hs => ?_, ?_⟩
    · obtain ⟨k, hk, rfl⟩ := List.getElem_of_mem hs
      obtain ⟨a, b, c⟩ := h2 k hk
      exact ⟨a, b, (fit_zero.1 c).1⟩
    · rw [List.pairwise_iff_getElem]
      intro i j hi hj hij
      exact (fit_zero.1 (h2 j hj).2.2).2 _ (by rw [List.mem_take_iff_getElem]; exact ⟨i, by omega, rfl⟩)
  · rintro ⟨h1, h2, h3⟩
    refine dchk_ok h1 fun k hk => ?_
    rw [errAt_lt hk]
    obtain ⟨a, b, c⟩ := h2 _ (List.getElem_mem hk)
    unfold one3
    refine orL_zero fun n hn => ?_
    simp only [List.mem_cons, List.mem_nil_iff, or_false] at hn
    rcases hn with rfl | rfl | rfl
    · exact a
    · exact b
    · refine fit_zero.2 ⟨c, fun s hs => ?_⟩
      obtain ⟨i, hi, rfl⟩ := List.mem_take_iff_getElem.1 hs
      rw [List.pairwise_iff_getElem] at h3
      exact h3 i k (by omega) hk (by omega)
theorem Good.sub {l m : List Sit} (h : Good l) (hs : m.Sublist l) : Good m :=
  ⟨Nat.le_trans hs.length_le h.len, fun s hm => h.each s (hs.subset hm), h.apart.sublist hs⟩
theorem Good.first {l : List Sit} (h : Good l) {s : Sit} (hs : s ∈ l) : ∃ j, ∃ hj : j < l.length, s = l[j]'hj ∧ ∀ b ∈ l.take j, (b.slot == s.slot) = false := by
  obtain ⟨j, hj, rfl⟩ := List.getElem_of_mem hs
  refine ⟨j, hj, rfl, fun b hb => ?_⟩
  obtain ⟨i, hi, rfl⟩ := List.mem_take_iff_getElem.1 hb
  have := List.pairwise_iff_getElem.1 h.apart i j (by omega) hj (by omega)
  simp [this.1]
theorem Good.alone {l : List Sit} (h : Good l) {s t : Sit} (hs : s ∈ l) (ht : t ∈ l) (e : s.slot = t.slot) : s = t := by
  obtain ⟨i, hi, rfl⟩ := List.getElem_of_mem hs
  obtain ⟨j, hj, rfl⟩ := List.getElem_of_mem ht
  have hp := List.pairwise_iff_getElem.1 h.apart
  rcases Nat.lt_trichotomy i j with hl | hl | hl
  · exact absurd e (hp i j hi hj hl).1
  · subst hl; rfl
  · exact absurd e.symm (hp j i hj hi hl).1
theorem SOk_good {s : Sit} (hp : plc s = 0) (h0 : chk s.ware = 0) : SOk s := by
  have h1 := lab_in (plc_in hp).2.2
  have h2 := lab_in (chk_in h0).1
  exact ⟨by unfold maxLen; omega, by unfold maxLen; omega⟩
theorem Good.ok {l : List Sit} (h : Good l) : ∀ s ∈ l, SOk s := fun s hs => SOk_good (h.each s hs).1 (h.each s hs).2.1
/-- Where a well is. -/
def AtIs (l : List Sit) (n r c X Y Z e : Int) : Prop :=
  (dchk l ≠ 0 ∧ X = 0 ∧ Y = 0 ∧ Z = 0 ∧ e = dchk l) ∨
  (Good l ∧ ((e = 5 ∧ X = 0 ∧ Y = 0 ∧ Z = 0 ∧ ∀ s ∈ l, s.slot = n → spotOk r c s.ware.rows s.ware.cols = false) ∨
    (e = 0 ∧ ∃ s ∈ l, s.slot = n ∧ spotOk r c s.ware.rows s.ware.cols = true ∧ X = cx s.slot + (s.ware.x + c * s.ware.pitch) ∧ Y = cy s.slot + (s.ware.y + r * s.ware.pitch) ∧ Z = 0 + (s.ware.hei - s.ware.deep))))
theorem at_is (l : List Sit) (n r c : Int) (hok : ∀ s ∈ l, SOk s) (hl : l.length ≤ 9223372036854775807) : ∃ X Y Z e, AtIs l n r c X Y Z e ∧ ∀ (ao : Option Addr) (cap : Nat) (w : World), Sts w ao l → l.length ≤ cap →
    Calls Tryz.prog 17 #[.slice ao l.length cap, ptv n r c] w fun e' w' => e' = .returned (.tuple #[ptv X Y Z, .int .i64 e]) ∧ Below w.heap.size w w' := by
  by_cases hd : dchk l = 0
  · have hg := dchk_zero.1 hd
    by_cases hx : ∃ s ∈ l, s.slot = n
    · obtain ⟨s, hs, rfl⟩ := hx
      obtain ⟨k, hk, e, hno⟩ := hg.first hs
      cases hsp : spotOk r c s.ware.rows s.ware.cols with
      | false => exact ⟨0, 0, 0, 5, .inr ⟨hg, .inl ⟨rfl, rfl, rfl, rfl, fun t ht et => by rw [hg.alone ht hs et]; exact hsp⟩⟩, fun ao cap w hL hc => at_out ao cap l s.slot r c w hL hc hl hok hd k hk s e rfl hno hsp⟩
      | true => exact ⟨_, _, _, 0, .inr ⟨hg, .inr ⟨rfl, s, hs, rfl, hsp, rfl, rfl, rfl⟩⟩, fun ao cap w hL hc => at_ok ao cap l s.slot r c w hL hc hl hok hd k hk s e rfl hno hsp⟩
    · exact ⟨0, 0, 0, 5, .inr ⟨hg, .inl ⟨rfl, rfl, rfl, rfl, fun t ht et => absurd ⟨t, ht, et⟩ hx⟩⟩, fun ao cap w hL hc => at_none ao cap l n r c w hL hc hl hok hd fun s hs => by simp; exact fun e => hx ⟨s, hs, e⟩⟩
  · exact ⟨0, 0, 0, dchk l, .inl ⟨hd, rfl, rfl, rfl, rfl⟩, fun ao cap w hL hc => at_err ao cap l n r c w hL hc hl hok hd⟩
/-- A seat less. -/
theorem at_less {l : List Sit} {k : Nat} (hk : k < l.length) {n r c X Y Z : Int} (h : AtIs l n r c X Y Z 0) {X' Y' Z' e' : Int} (h' : AtIs (l.take k ++ l.drop (k + 1)) n r c X' Y' Z' e') :
    ((l[k]'hk).slot = n → e' = 5) ∧ ((l[k]'hk).slot ≠ n → e' = 0 ∧ X' = X ∧ Y' = Y ∧ Z' = Z) := by
  have hsub : (l.take k ++ l.drop (k + 1)).Sublist l := by rw [← List.eraseIdx_eq_take_drop_succ]; exact List.eraseIdx_sublist ..
  rcases h with ⟨h1, _, _, _, h2⟩ | ⟨hg, ⟨h1, _⟩ | ⟨_, s, hs, hn, hsp, rfl, rfl, rfl⟩⟩
  · exact absurd h2.symm h1
  · omega
  have hg' := hg.sub hsub
  have hdec : l = l.take k ++ l[k]'hk :: l.drop (k + 1) := by rw [← List.drop_eq_getElem_cons hk, List.take_append_drop]
  rcases h' with ⟨h1, _⟩ | ⟨_, ⟨h1, _, _, _, h2⟩ | ⟨h1, t, ht, hn', hsp', hx, hy, hz⟩⟩
  · exact absurd (dchk_zero.2 hg') h1
  · refine ⟨fun _ => h1, fun hne => ?_⟩
    have hs2 : s ∈ l.take k ++ l.drop (k + 1) := by
      rw [hdec] at hs
      rcases List.mem_append.1 hs with h | h
      · exact List.mem_append.2 (.inl h)
      · rcases List.mem_cons.1 h with h | h
        · rw [h] at hn; exact absurd hn hne
        · exact List.mem_append.2 (.inr h)
    have := h2 s hs2 hn
    rw [hsp] at this
    cases this
  · have hts : t = s := hg.alone (hsub.subset ht) hs (hn'.trans hn.symm)
    refine ⟨fun hkn => ?_, fun _ => ⟨h1, by rw [hx, hts], by rw [hy, hts], by rw [hz, hts]⟩⟩
    exfalso
    have hp := hg.apart
    rw [hdec, List.pairwise_append] at hp
    obtain ⟨_, hp2, hp3⟩ := hp
    rcases List.mem_append.1 ht with h | h
    · exact (hp3 t h (l[k]'hk) (List.mem_cons_self ..)).1 (hn'.trans hkn.symm)
    · exact ((List.pairwise_cons.1 hp2).1 t h).1 (hkn.trans hn'.symm)

end Go.Proofs.YtmmpaaaifdikdaaGreatDoor
