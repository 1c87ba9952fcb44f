/- The document's way through a source: places in it, plainly. -/
import Derived.Test.YtpfpfnkagmmanaaGreatDoorRfA
import Derived.Test.YtpfpfnkagmmanaaGreatDoorFB
namespace Go.Proofs.YtpfpfnkagmmanaaGreatDoor
open Go.RowKit Go.Shelf

theorem lenL (s : ByteArray) : s.data.toList.length = s.size := (Lib.size_eq s).symm
theorem drop_at {s : ByteArray} {k : Nat} (h : k < s.size) : s.data.toList.drop k = (s[k]'h) :: s.data.toList.drop (k + 1) := by
  rw [List.drop_eq_getElem_cons (by rw [lenL]; exact h)]
  rfl
theorem drop_end (s : ByteArray) : s.data.toList.drop s.size = [] := List.drop_eq_nil_of_le (by rw [lenL]; exact Nat.le_refl _)
theorem ahead_drop (L : List UInt8) (i j : Nat) (hij : i ≤ j) (hj : j ≤ L.length) : ahead (L.drop i) (L.drop j) = (L.drop i).take (j - i) := by
  unfold ahead
  rw [List.length_drop, List.length_drop]
  congr 1
  omega
theorem ext_ahead (s : ByteArray) (i j : Nat) (hij : i ≤ j) (hj : j ≤ s.size) : s.extract i j = ⟨(ahead (s.data.toList.drop i) (s.data.toList.drop j)).toArray⟩ := by
  rw [ahead_drop _ i j hij (by rw [lenL]; exact hj)]
  apply ByteArray.ext
  rw [ByteArray.data_extract]
  apply Array.toList_inj.1
  rw [Array.toList_extract, List.extract_eq_take_drop]
theorem slice_at (s : ByteArray) (i j : Nat) (hij : i ≤ j) (hj : j ≤ s.size) (X : List UInt8) (hX : ahead (s.data.toList.drop i) (s.data.toList.drop j) = X) (W : World) :
    (Instr.slice 9 (.string s) (some (.int .i64 (i : Int))) (some (.int .i64 (j : Int))) none).run Tryz.prog W = .ok (.string ⟨X.toArray⟩) W := by
  rw [run_slice_string W 9 s .i64 .i64 (i : Int) (j : Int) Tryz.underlying9 (by omega) (by omega) (by omega), Int.toNat_natCast, Int.toNat_natCast, ext_ahead s i j hij hj, hX]
theorem lineD_step {c : UInt8} {t : List UInt8} (h : c ≠ 10) : lineD (c :: t) = lineD t := by
  have : pLine c.toNat = true := by unfold pLine; have := nat_ne h; simpa using this
  unfold lineD; rw [List.dropWhile_cons, if_pos this]
theorem lineD_stop {t : List UInt8} : lineD (10 :: t) = 10 :: t := rfl
theorem wordD_step {c : UInt8} {t : List UInt8} (h : pWord c.toNat = true) : wordD (c :: t) = wordD t := by
  unfold wordD; rw [List.dropWhile_cons, if_pos h]
theorem wordD_stop {c : UInt8} {t : List UInt8} (h : pWord c.toNat = false) : wordD (c :: t) = c :: t := by
  unfold wordD; rw [List.dropWhile_cons, if_neg (by rw [h]; simp)]
theorem dropA_step {c : UInt8} {t : List UInt8} (h : amtB c = true) : dropA (c :: t) = dropA t := by
  cases t with
  | nil => simp [dropA, h]
  | cons d t => simp [dropA, h]
theorem dropA_mic {c d : UInt8} {t : List UInt8} (h : amtB c = false) (hm : micB c d = true) : dropA (c :: d :: t) = dropA t := by simp [dropA, h, hm]
theorem dropA_stop {c d : UInt8} {t : List UInt8} (h : amtB c = false) (hm : micB c d = false) : dropA (c :: d :: t) = c :: d :: t := by simp [dropA, h, hm]
theorem dropA_last {c : UInt8} (h : amtB c = false) : dropA [c] = [c] := by simp [dropA, h]
/-- All up to a quote. -/
def upQ (l : List UInt8) : List UInt8 := l.dropWhile fun b => b != 34
theorem upQ_step {c : UInt8} {t : List UInt8} (h : c ≠ 34) : upQ (c :: t) = upQ t := by
  unfold upQ; rw [List.dropWhile_cons, if_pos (by simpa using h)]
theorem upQ_stop {t : List UInt8} : upQ (34 :: t) = 34 :: t := rfl
theorem upQ_nil : upQ [] = [] := rfl
theorem pQuo_of {c : UInt8} (h1 : c ≠ 34) (h2 : c ≠ 10) : pQuo c.toNat = true := by
  unfold pQuo
  have a := nat_ne h1
  have b := nat_ne h2
  simp at a b ⊢
  exact ⟨a, b⟩
theorem quoD_step {c : UInt8} {t : List UInt8} (h1 : c ≠ 34) (h2 : c ≠ 10) : quoD (c :: t) = quoD t := by
  unfold quoD; rw [List.dropWhile_cons, if_pos (pQuo_of h1 h2)]
theorem okAt_ne {b : UInt8} {k : Nat} (h : F.okAt b k = true) : b ≠ 10 := by
  intro e; subst e
  unfold F.okAt at h
  simp at h
theorem labB_no10 {x : List UInt8} (h : labB x = true) : (10 : UInt8) ∉ x := by
  intro hm
  obtain ⟨k, hk, he⟩ := List.getElem_of_mem hm
  have hk' : k < (⟨x.toArray⟩ : ByteArray).size := by simpa [ByteArray.size] using hk
  unfold labB F.lab at h
  simp only [Bool.and_eq_true, decide_eq_true_eq] at h
  have := okAt_ne (h.2 k hk')
  exact this he
/-- No quote is to come: no string. -/
theorem no_quote : ∀ (t : List UInt8), upQ t = [] → Lib.hasPrefix (quoD t) [34] = false
  | [], _ => rfl
  | c :: t, h => by
    by_cases h1 : c = 34
    · subst h1; rw [upQ_stop] at h; cases h
    · rw [upQ_step h1] at h
      by_cases h2 : c = 10
      · subst h2; rfl
      · rw [quoD_step h1 h2]; exact no_quote t h
/-- A line feed ahead of the quote, or none. -/
theorem quote_ways : ∀ (t r : List UInt8), upQ t = 34 :: r → (quoD t = 34 :: r) ∨ (Lib.hasPrefix (quoD t) [34] = false ∧ (10 : UInt8) ∈ ahead t (34 :: r))
  | [], r, h => by cases h
  | c :: t, r, h => by
    by_cases h1 : c = 34
    · subst h1
      rw [upQ_stop] at h
      left; rw [← h]; rfl
    · rw [upQ_step h1] at h
      have hlen : (34 :: r).length ≤ t.length := by rw [← h]; exact dropWhile_len t
      have ha : ahead (c :: t) (34 :: r) = c :: ahead t (34 :: r) := by
        unfold ahead
        rw [List.length_cons, show t.length + 1 - (34 :: r).length = (t.length - (34 :: r).length) + 1 by omega, List.take_succ_cons]
      by_cases h2 : c = 10
      · subst h2; right
        exact ⟨rfl, by rw [ha]; simp⟩
      · rcases quote_ways t r h with h3 | ⟨h3, h4⟩
        · left; rw [quoD_step h1 h2]; exact h3
        · right; rw [quoD_step h1 h2, ha]; exact ⟨h3, by simp [h4]⟩
theorem string_none {t : List UInt8} {n : Int} (h : upQ t = []) : lexStep (34 :: t) n = .error 1 := step_stringE (by rw [no_quote t h]; rfl)
theorem string_bad {t r : List UInt8} {n : Int} (h : upQ t = 34 :: r) (hb : labB (ahead t (34 :: r)) = false) : lexStep (34 :: t) n = .error 1 := by
  rcases quote_ways t r h with h3 | ⟨h3, _⟩
  · exact step_stringE (by rw [h3, hb]; simp)
  · exact step_stringE (by rw [h3]; rfl)
theorem string_good {t r : List UInt8} {n : Int} (h : upQ t = 34 :: r) (hb : labB (ahead t (34 :: r)) = true) : lexStep (34 :: t) n = .ok (r, n, [⟨4, ahead t (34 :: r), n⟩]) := by
  rcases quote_ways t r h with h3 | ⟨_, h4⟩
  · have := step_string (t := t) (n := n) (by rw [h3, hb]; rfl)
    rw [this, h3]
    rfl
  · exact absurd h4 (labB_no10 hb)
end Go.Proofs.YtpfpfnkagmmanaaGreatDoor
