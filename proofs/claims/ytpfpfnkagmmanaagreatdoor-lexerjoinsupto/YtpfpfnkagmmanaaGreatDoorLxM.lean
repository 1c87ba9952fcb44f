/- Tokens of a source: plain lists of bytes; runes taken from the front. -/
import Derived.Test.YtpfpfnkagmmanaaGreatDoorFA
import Derived.Test.YtpfpfnkagmmanaaGreatDoorPlain
import Derived.Shelf.GgClosure.StringsTrimFunc
import Derived.Lib.TrimUEq
import Derived.Lib.TrimAscii
namespace Go.Proofs.YtpfpfnkagmmanaaGreatDoor
open Go.RowKit

/-! ### runes -/
def letR (r : Nat) : Bool := decide (97 ≤ r ∧ r ≤ 122) || decide (65 ≤ r ∧ r ≤ 90)
def digR (r : Nat) : Bool := decide (48 ≤ r ∧ r ≤ 57)
def pBlank (r : Nat) : Bool := r == 32 || r == 9 || r == 13
def pLine (r : Nat) : Bool := r != 10
def pWord (r : Nat) : Bool := letR r || digR r
def pAmt (r : Nat) : Bool := letR r || digR r || r == 46 || r == 181 || r == 956
def pQuo (r : Nat) : Bool := r != 34 && r != 10
theorem digR_is (b : UInt8) : digR b.toNat = isDig b := by
  have := isDig_iff b
  unfold digR
  cases h : isDig b with
  | true => rw [h] at this; simpa using this
  | false => rw [h] at this; simp at this ⊢; omega
/-- Bytes. -/
def amtB (b : UInt8) : Bool := letR b.toNat || digR b.toNat || b.toNat == 46
def micB (b c : UInt8) : Bool := (b == 194 && c == 181) || (b == 206 && c == 188)
def dropA : List UInt8 → List UInt8
  | [] => []
  | [b] => if amtB b = true then [] else [b]
  | b :: c :: t => if amtB b = true then dropA (c :: t) else if micB b c = true then dropA t else b :: c :: t
theorem dropA_len : ∀ l, (dropA l).length ≤ l.length
  | [] => by simp [dropA]
  | [b] => by simp only [dropA]; split <;> simp
  | b :: c :: t => by
    have h1 := dropA_len (c :: t)
    have h2 := dropA_len t
    simp only [dropA]
    split
    · simp at h1 ⊢; omega
    · split
      · simp at h2 ⊢; omega
      · simp

/-- A byte from 128 on begins no rune below 128; all its bytes are from 128 on. -/
theorem high_rune (b : UInt8) (t : List UInt8) (h : 128 ≤ b.toNat) : 128 ≤ (Lib.decodeL (b :: t)).1 := by
  rw [Lib.decodeL_N]
  have h0 : ((b :: t).getD 0 0).toNat = b.toNat := rfl
  rw [h0]
  unfold Lib.decodeN
  rw [if_neg (by omega)]
  repeat' split
  all_goals (simp only; omega)
theorem getD_of {t : List UInt8} {k : Nat} (h : k < t.length) : t.getD k 0 = t[k]'h := by simp [List.getD, h]
theorem getD_high {l : List UInt8} {k : Nat} (h : (l.getD k 0).toNat / 64 = 2) : 128 ≤ (l.getD k 0).toNat := by omega
theorem high_all (b : UInt8) (t : List UInt8) (h : 128 ≤ b.toNat) : (Lib.decodeL (b :: t)).2 ≤ (b :: t).length ∧ ∀ k, k < (Lib.decodeL (b :: t)).2 → 128 ≤ ((b :: t).getD k 0).toNat := by
  obtain ⟨l, hl⟩ : ∃ l, l = b :: t := ⟨_, rfl⟩
  have h0 : 128 ≤ (l.getD 0 0).toNat := by rw [hl]; exact h
  have hn : 1 ≤ l.length := by rw [hl]; simp
  rw [← hl, Lib.decodeL_N]
  unfold Lib.decodeN
  rw [if_neg (by omega)]
  have one : ∀ k, k < 1 → 128 ≤ (l.getD k 0).toNat := fun k hk => by
    obtain rfl : k = 0 := by omega
    exact h0
  split
  · rename_i hc
    have e1 := getD_high hc.2.2
    split
    · refine ⟨by simp only; omega, fun k hk => ?_⟩
      simp only at hk
      rcases (show k = 0 ∨ k = 1 by omega) with rfl | rfl <;> assumption
    · exact ⟨hn, one⟩
  · split
    · rename_i hc
      have e1 := getD_high hc.2.1.2
      have e2 := getD_high hc.2.2.2
      split
      · refine ⟨by simp only; omega, fun k hk => ?_⟩
        simp only at hk
        rcases (show k = 0 ∨ k = 1 ∨ k = 2 by omega) with rfl | rfl | rfl <;> assumption
      · exact ⟨hn, one⟩
    · split
      · rename_i hc
        have e1 := getD_high hc.2.1.2
        have e2 := getD_high hc.2.2.1.2
        have e3 := getD_high hc.2.2.2.2
        split
        · refine ⟨by simp only; omega, fun k hk => ?_⟩
          simp only at hk
          rcases (show k = 0 ∨ k = 1 ∨ k = 2 ∨ k = 3 by omega) with rfl | rfl | rfl | rfl <;> assumption
        · exact ⟨hn, one⟩
      · exact ⟨hn, one⟩
theorem mic_rune (b c : UInt8) (t : List UInt8) (h : 128 ≤ b.toNat) : (micB b c = true ∧ Lib.decodeL (b :: c :: t) = (if b = 194 then 181 else 956, 2)) ∨ (micB b c = false ∧ (Lib.decodeL (b :: c :: t)).1 ≠ 181 ∧ (Lib.decodeL (b :: c :: t)).1 ≠ 956) := by
  rw [Lib.decodeL_N]
  have h0 : ((b :: c :: t).getD 0 0).toNat = b.toNat := rfl
  have h1 : ((b :: c :: t).getD 1 0).toNat = c.toNat := rfl
  have hn : 1 < (b :: c :: t).length := by simp
  rw [h0, h1]
  have hb := UInt8.toNat_lt b
  have hc := UInt8.toNat_lt c
  by_cases hm : micB b c = true
  · left
    refine ⟨hm, ?_⟩
    unfold micB at hm
    simp only [Bool.or_eq_true, Bool.and_eq_true, beq_iff_eq] at hm
    rcases hm with ⟨rfl, rfl⟩ | ⟨rfl, rfl⟩
    · unfold Lib.decodeN; simp
    · unfold Lib.decodeN; simp
  · right
    have hm' : micB b c = false := by simpa using hm
    refine ⟨hm', ?_⟩
    have e : ¬ ((b.toNat = 194 ∧ c.toNat = 181) ∨ (b.toNat = 206 ∧ c.toNat = 188)) := by
      rintro (⟨x, y⟩ | ⟨x, y⟩)
      · obtain rfl : b = 194 := UInt8.toNat.inj x
        obtain rfl : c = 181 := UInt8.toNat.inj y
        exact hm rfl
      · obtain rfl : b = 206 := UInt8.toNat.inj x
        obtain rfl : c = 188 := UInt8.toNat.inj y
        exact hm rfl
    unfold Lib.decodeN
    rw [if_neg (by omega)]
    repeat' split
    all_goals (simp only; omega)
theorem lone_rune (b : UInt8) (h : 128 ≤ b.toNat) : (Lib.decodeL [b]).1 = 65533 := by
  rw [Lib.decodeL_N]
  unfold Lib.decodeN
  have h0 : (([b] : List UInt8).getD 0 0).toNat = b.toNat := rfl
  have hn : ([b] : List UInt8).length = 1 := rfl
  rw [h0, hn, if_neg (by omega), if_neg (by omega), if_neg (by omega), if_neg (by omega)]

/-- Runes of a kind, dropped from the front. -/
def dropR (p : Nat → Bool) : Nat → List UInt8 → List UInt8
  | 0, l => l
  | f + 1, l => if l = [] then [] else if p (Lib.decodeL l).1 = true then dropR p f (l.drop (Lib.decodeL l).2) else l
theorem dropR_nil (p : Nat → Bool) : ∀ f, dropR p f [] = []
  | 0 => rfl
  | f + 1 => by simp [dropR]
theorem dropR_idx (p : Nat → Bool) (s : ByteArray) : ∀ (f pos : Nat), s.size ≤ pos + f →
    dropR p f (s.data.toList.drop pos) = if Lib.idxFuncFrom p false s f pos = -1 then [] else s.data.toList.drop (Lib.idxFuncFrom p false s f pos).toNat
  | 0, pos, h => by
    have : s.data.toList.drop pos = [] := List.drop_eq_nil_of_le (by rw [← Lib.size_eq]; omega)
    simp [dropR, Lib.idxFuncFrom, this]
  | f + 1, pos, h => by
    by_cases hp : pos < s.size
    · have hne : s.data.toList.drop pos ≠ [] := by
        intro h0
        have := congrArg List.length h0
        rw [List.length_drop, ← Lib.size_eq] at this
        simp at this
        omega
      have hw := Lib.width_pos s pos
      simp only [dropR, Lib.idxFuncFrom, if_neg hne, if_pos hp, Lib.decodeL_drop]
      cases hsp : p (Utf8.decode s pos).1 with
      | true =>
        simp only [if_true, List.drop_drop, Bool.true_eq_false, if_false]
        exact dropR_idx p s f _ (by omega)
      | false =>
        simp only [Bool.false_eq_true, if_false, if_true]
        rw [if_neg (by omega), Int.toNat_natCast]
    · have : s.data.toList.drop pos = [] := List.drop_eq_nil_of_le (by rw [← Lib.size_eq]; omega)
      rw [this, dropR_nil, Lib.idxFuncFrom_end p false s _ _ hp, if_pos rfl]
theorem trimF_is (p : Nat → Bool) (l : List UInt8) : Lib.trimLeftF p ⟨l.toArray⟩ = ⟨(dropR p l.length l).toArray⟩ := by
  have h := dropR_idx p ⟨l.toArray⟩ l.length 0 (by simp [ByteArray.size])
  rw [List.drop_zero, show (⟨l.toArray⟩ : ByteArray).data.toList = l from rfl] at h
  rw [h]
  unfold Lib.trimLeftF
  rw [show Lib.idxFunc p false ⟨l.toArray⟩ = Lib.idxFuncFrom p false ⟨l.toArray⟩ l.length 0 from rfl]
  split
  · rfl
  · apply ByteArray.ext
    rw [ByteArray.data_extract]
    apply Array.toList_inj.1
    rw [Array.toList_extract, List.extract_eq_take_drop]
    show List.take (l.length - _) (List.drop _ l) = List.drop _ l
    rw [List.take_of_length_le (by rw [List.length_drop]; exact Nat.le_refl _)]
theorem dropR_ascii {p : Nat → Bool} (h : ∀ r, 128 ≤ r → p r = false) : ∀ (f : Nat) (l : List UInt8), l.length ≤ f → dropR p f l = l.dropWhile fun b => p b.toNat
  | 0, [], _ => rfl
  | f + 1, [], _ => by simp [dropR]
  | f + 1, b :: t, hl => by
    simp only [dropR, List.dropWhile_cons]
    rw [if_neg (by simp)]
    by_cases hb : b.toNat < 128
    · rw [Lib.decodeL_ascii b t hb]
      simp only [List.drop_succ_cons, List.drop_zero]
      rw [dropR_ascii h f t (by simp at hl; omega)]
    · rw [h _ (high_rune b t (by omega)), h b.toNat (by omega)]
      simp
theorem dropWhile_drop {q : UInt8 → Bool} : ∀ (k : Nat) (l : List UInt8), k ≤ l.length → (∀ i, i < k → q (l.getD i 0) = true) → (l.drop k).dropWhile q = l.dropWhile q
  | 0, l, _, _ => by simp
  | k + 1, [], h, _ => by simp at h
  | k + 1, b :: t, h, hq => by
    have h0 := hq 0 (by omega)
    rw [List.drop_succ_cons, List.dropWhile_cons, show (b :: t).getD 0 0 = b from rfl] at *
    rw [if_pos h0]
    exact dropWhile_drop k t (by simp at h; omega) (fun i hi => by have := hq (i + 1) (by omega); simpa using this)
theorem dropR_high {p : Nat → Bool} (h : ∀ r, 128 ≤ r → p r = true) : ∀ (f : Nat) (l : List UInt8), l.length ≤ f → dropR p f l = l.dropWhile fun b => p b.toNat
  | 0, [], _ => rfl
  | f + 1, [], _ => by simp [dropR]
  | f + 1, b :: t, hl => by
    rw [dropR, if_neg (by simp)]
    by_cases hb : b.toNat < 128
    · rw [Lib.decodeL_ascii b t hb]
      simp only [List.drop_succ_cons, List.drop_zero, List.dropWhile_cons]
      rw [dropR_high h f t (by simp at hl; omega)]
    · obtain ⟨h1, h2⟩ := high_all b t (by omega)
      have hw := Lib.decodeL_width (b :: t)
      rw [if_pos (h _ (high_rune b t (by omega)))]
      rw [dropR_high h f _ (by rw [List.length_drop]; omega)]
      exact dropWhile_drop _ _ h1 fun i hi => h _ (h2 i hi)
theorem pAmt_low {r : Nat} (h : r < 128) : pAmt r = (letR r || digR r || r == 46) := by
  unfold pAmt
  rw [show (r == 181) = false by simp; omega, show (r == 956) = false by simp; omega]
  simp
theorem pAmt_high {r : Nat} (h : 128 ≤ r) : pAmt r = (r == 181 || r == 956) := by
  unfold pAmt letR digR
  rw [decide_eq_false (by omega), decide_eq_false (by omega), decide_eq_false (by omega), show (r == 46) = false by simp; omega]
  simp
theorem amtB_high {b : UInt8} (h : 128 ≤ b.toNat) : amtB b = false := by
  unfold amtB letR digR
  rw [decide_eq_false (by omega), decide_eq_false (by omega), decide_eq_false (by omega), show (b.toNat == 46) = false by simp; omega]
  rfl
theorem dropR_amt : ∀ (f : Nat) (l : List UInt8), l.length ≤ f → dropR pAmt f l = dropA l
  | 0, [], _ => rfl
  | f + 1, [], _ => by simp [dropR, dropA]
  | f + 1, [b], hl => by
    rw [dropR, if_neg (by simp)]
    by_cases hb : b.toNat < 128
    · rw [Lib.decodeL_ascii b [] hb]
      simp only [List.drop_succ_cons, List.drop_zero, dropA]
      rw [dropR_nil, pAmt_low hb]
      rfl
    · rw [lone_rune b (by omega)]
      rw [if_neg (by decide)]
      simp only [dropA]
      rw [if_neg (by rw [amtB_high (by omega)]; simp)]
  | f + 1, b :: c :: t, hl => by
    rw [dropR, if_neg (by simp)]
    by_cases hb : b.toNat < 128
    · rw [Lib.decodeL_ascii b (c :: t) hb]
      simp only [List.drop_succ_cons, List.drop_zero, dropA]
      rw [dropR_amt f (c :: t) (by simp at hl ⊢; omega), pAmt_low hb]
      have hm : micB b c = false := by
        cases h : micB b c with
        | false => rfl
        | true =>
          unfold micB at h
          simp only [Bool.or_eq_true, Bool.and_eq_true, beq_iff_eq] at h
          rcases h with ⟨rfl, _⟩ | ⟨rfl, _⟩
          · exact absurd hb (by decide)
          · exact absurd hb (by decide)
      rw [hm]
      rfl
    · have hb' : 128 ≤ b.toNat := by omega
      simp only [dropA]
      rw [if_neg (show ¬ amtB b = true by rw [amtB_high hb']; simp)]
      rcases mic_rune b c t hb' with ⟨hm, hd⟩ | ⟨hm, h1, h2⟩
      · rw [hd, hm]
        have hp : pAmt (if b = 194 then 181 else 956) = true := by split <;> rfl
        simp only [hp, if_true, List.drop_succ_cons, List.drop_zero]
        exact dropR_amt f t (by simp at hl ⊢; omega)
      · rw [hm, pAmt_high (high_rune b (c :: t) hb')]
        rw [if_neg (by simp [h1, h2]), if_neg (by simp)]
theorem drop_blank (l : List UInt8) : dropR pBlank l.length l = l.dropWhile fun b => pBlank b.toNat := dropR_ascii (fun r h => by unfold pBlank; simp; omega) _ _ (Nat.le_refl _)
theorem drop_word (l : List UInt8) : dropR pWord l.length l = l.dropWhile fun b => pWord b.toNat := dropR_ascii (fun r h => by unfold pWord letR digR; simp; omega) _ _ (Nat.le_refl _)
theorem drop_line (l : List UInt8) : dropR pLine l.length l = l.dropWhile fun b => pLine b.toNat := dropR_high (fun r h => by unfold pLine; simp; omega) _ _ (Nat.le_refl _)
theorem drop_quo (l : List UInt8) : dropR pQuo l.length l = l.dropWhile fun b => pQuo b.toNat := dropR_high (fun r h => by unfold pQuo; simp; omega) _ _ (Nat.le_refl _)
theorem drop_amt (l : List UInt8) : dropR pAmt l.length l = dropA l := dropR_amt _ _ (Nat.le_refl _)
end Go.Proofs.YtpfpfnkagmmanaaGreatDoor
