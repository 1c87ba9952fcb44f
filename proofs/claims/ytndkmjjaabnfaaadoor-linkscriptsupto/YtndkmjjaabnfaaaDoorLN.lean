/- Numbers, the document's way: within, digit, digitsOf walked. -/
import Derived.Test.YtndkmjjaabnfaaaDoorSpotA
import Derived.Test.YtndkmjjaabnfaaaDoorCA
namespace Go.Proofs.YtndkmjjaabnfaaaDoor
open Go.RowKit

def on (n : Int) (b : UInt8) : Int := 10 * n + ((b.toNat : Int) - 48)
/-- The number that some digits tell. -/
def digs (l : List UInt8) : Int := l.foldl on 0
/-- Is it a number of one digit to ten, with no 0 ahead? -/
def numOk (l : List UInt8) : Bool := decide (1 ≤ l.length) && decide (l.length ≤ 10) && (decide (l.length ≤ 1) || !(l.head? == some 48)) && l.all isDig
theorem digs_snoc (l : List UInt8) (b : UInt8) : digs (l ++ [b]) = 10 * digs l + ((b.toNat : Int) - 48) := by simp [digs, on]
theorem digs_in (l : List UInt8) (h : ∀ b ∈ l, isDig b = true) : 0 ≤ digs l ∧ digs l < (10 : Int) ^ l.length := by
  have : ∀ n (l : List UInt8), l.length = n → (∀ b ∈ l, isDig b = true) → 0 ≤ digs l ∧ digs l < (10 : Int) ^ n := by
    intro n
    induction n with
    | zero => intro l hl _; have : l = [] := List.eq_nil_of_length_eq_zero hl; subst this; decide
    | succ n ih =>
      intro l hl hd
      obtain ⟨a, b, rfl⟩ : ∃ a b, l = a ++ [b] := by
        have hne : l ≠ [] := by intro e; subst e; simp at hl
        exact ⟨l.dropLast, l.getLast hne, (List.dropLast_concat_getLast hne).symm⟩
      have h1 := ih a (by simpa using hl) fun b hb => hd b (by simp [hb])
      have h2 := (isDig_iff b).1 (hd b (by simp))
      rw [digs_snoc, Int.pow_succ]
      omega
  exact this l.length l rfl h
theorem numOk_len {l : List UInt8} (h : l.length < 1 ∨ 10 < l.length) : numOk l = false := by
  unfold numOk
  rcases h with h | h
  · rw [decide_eq_false (by omega : ¬ 1 ≤ l.length)]; rfl
  · rw [decide_eq_false (by omega : ¬ l.length ≤ 10)]; simp
theorem numOk_zero {l : List UInt8} (h : 1 < l.length) (h0 : l.head? = some 48) : numOk l = false := by
  unfold numOk; rw [decide_eq_false (by omega : ¬ l.length ≤ 1), h0]; simp
theorem numOk_bad {l : List UInt8} {b : UInt8} (h : b ∈ l) (hb : isDig b = false) : numOk l = false := by
  unfold numOk
  have : l.all isDig = false := List.all_eq_false.2 ⟨b, h, by simp [hb]⟩
  rw [this]; simp
theorem numOk_good {l : List UInt8} (h1 : 1 ≤ l.length) (h2 : l.length ≤ 10) (h0 : l.length ≤ 1 ∨ l.head? ≠ some 48) (hd : ∀ b ∈ l, isDig b = true) : numOk l = true := by
  unfold numOk
  rw [decide_eq_true h1, decide_eq_true h2, List.all_eq_true.2 hd]
  rcases h0 with h | h
  · rw [decide_eq_true h]; rfl
  · simp [h]

theorem getL {s : ByteArray} {k : Nat} (h : k < s.size) : s.data.toList[k]? = some (s[k]'h) := by
  have : k < s.data.toList.length := by simpa using h
  rw [List.getElem?_eq_getElem this]; rfl
theorem lenL (s : ByteArray) : s.data.toList.length = s.size := by simp
theorem take_succL {s : ByteArray} {k : Nat} (h : k < s.size) : s.data.toList.take (k + 1) = s.data.toList.take k ++ [s[k]'h] := by
  rw [List.take_add_one, getL h]; rfl
theorem digs_take_in {s : ByteArray} {k : Nat} (hk : k < s.size) (h10 : s.size ≤ 10) (hd : ∀ b ∈ s.data.toList.take k, isDig b = true) : 0 ≤ digs (s.data.toList.take k) ∧ digs (s.data.toList.take k) < 1000000000 := by
  have h := digs_in _ hd
  refine ⟨h.1, Int.lt_of_lt_of_le h.2 ?_⟩
  have hl : (s.data.toList.take k).length = k := by rw [List.length_take, lenL]; omega
  rw [hl]
  exact (by decide : ∀ k, k < 10 → (10 : Int) ^ k ≤ 1000000000) k (by omega)

set_option maxHeartbeats 400000 in
theorem within_any (n low high : Int) (w : World) :
    Calls Tryd.prog 31 #[.int .i64 n, .int .i64 low, .int .i64 high] w fun e w' => e = .returned (.bool (decide (low ≤ n) && decide (n ≤ high))) ∧ w' = w := by
  by_cases h1 : low ≤ n
  · by_cases h2 : n ≤ high
    · go_enter Tryd.func31, Tryd.ntmps31
      go_wp2
      go_ret
      exact ⟨by simp [h1, h2], rfl⟩
    · go_enter Tryd.func31, Tryd.ntmps31
      go_wp2
      go_ret
      exact ⟨by simp [h2], rfl⟩
  · go_enter Tryd.func31, Tryd.ntmps31
    go_wp2
    go_ret
    exact ⟨by simp; intro _; omega, rfl⟩
theorem within_yes (n low high : Int) (w : World) (h1 : low ≤ n) (h2 : n ≤ high) :
    Calls Tryd.prog 31 #[.int .i64 n, .int .i64 low, .int .i64 high] w fun e w' => e = .returned (.bool true) ∧ w' = w :=
  (within_any n low high w).mono fun e w' ⟨he, hw⟩ => ⟨by rw [he]; simp [h1, h2], hw⟩
theorem within_no (n low high : Int) (w : World) (h : n < low ∨ high < n) :
    Calls Tryd.prog 31 #[.int .i64 n, .int .i64 low, .int .i64 high] w fun e w' => e = .returned (.bool false) ∧ w' = w :=
  (within_any n low high w).mono fun e w' ⟨he, hw⟩ => ⟨by rw [he]; simp; omega, hw⟩

set_option maxHeartbeats 400000 in
theorem digit_yes (c : Int) (w : World) (h1 : 48 ≤ c) (h2 : c ≤ 57) : Calls Tryd.prog 19 #[.int .u8 c] w fun e w' => e = .returned (.bool true) ∧ w' = w := by
  go_enter Tryd.func19, Tryd.ntmps19
  go_wp2
  go_ret
  exact ⟨rfl, rfl⟩
set_option maxHeartbeats 400000 in
theorem digit_no (c : Int) (w : World) (h : c < 48 ∨ 57 < c) : Calls Tryd.prog 19 #[.int .u8 c] w fun e w' => e = .returned (.bool false) ∧ w' = w := by
  by_cases h1 : 48 ≤ c
  · have h2 : ¬ c ≤ 57 := by omega
    go_enter Tryd.func19, Tryd.ntmps19
    go_wp2
    go_ret
    exact ⟨rfl, rfl⟩
  · go_enter Tryd.func19, Tryd.ntmps19
    go_wp2
    go_ret
    exact ⟨rfl, rfl⟩

/-- A word's number; -1: it tells none. -/
def numD (l : List UInt8) : Int := if numOk l = true then digs l else -1
theorem numD_no {l : List UInt8} (h : numOk l = false) : numD l = -1 := by simp [numD, h]

set_option maxHeartbeats 3200000 in
theorem digitsOf_any (s : ByteArray) (w : World) (hs : s.size ≤ maxLen) :
    Calls Tryd.prog 20 #[.string s] w fun e w' => e = .returned (.int .i64 (numD s.data.toList)) ∧ w' = w := by
  unfold maxLen at hs
  by_cases h1 : s.size < 1 ∨ 10 < s.size
  · have HN : Hid (numOk s.data.toList = false) := numOk_len (by rw [lenL]; exact h1)
    go_enter Tryd.func20, Tryd.ntmps20
    go_wp2_with (go_at_call 31; refine (within_no _ _ _ _ (by omega)).mono ?_; rintro e w' ⟨rfl, rfl⟩)
    go_ret
    exact ⟨ret_int (numD_no HN.out).symm, rfl⟩
  have h1' : 1 ≤ s.size := by omega
  have h2' : s.size ≤ 10 := by omega
  clear h1
  by_cases h0 : 1 < s.size ∧ s.data.toList.head? = some 48
  · obtain ⟨h3, h4⟩ := h0
    have HN : Hid (numOk s.data.toList = false) := numOk_zero (by rw [lenL]; exact h3) h4
    have hz : s[0]'(by omega) = 48 := by
      have e := getL (s := s) (k := 0) (by omega)
      rw [List.head?_eq_getElem?, e] at h4
      exact Option.some.inj h4
    clear h4
    go_enter Tryd.func20, Tryd.ntmps20
    go_wp2_with (go_at_call 31; refine (within_yes _ _ _ _ (by omega) (by omega)).mono ?_; rintro e w' ⟨rfl, rfl⟩)
    go_ret
    exact ⟨ret_int (numD_no HN.out).symm, rfl⟩
  have HZ : Hid (s.data.toList.length ≤ 1 ∨ s.data.toList.head? ≠ some 48) := by
    rw [lenL]
    by_cases e : s.size ≤ 1
    · exact .inl e
    · exact .inr fun h => h0 ⟨by omega, h⟩
  have hz : s.size ≤ 1 ∨ (1 < s.size ∧ ∃ h : 0 < s.size, (((s[0]'h).toNat : Int) == 48) = false) := by
    by_cases h3 : 1 < s.size
    · refine .inr ⟨h3, by omega, ?_⟩
      have e := getL (s := s) (k := 0) (by omega)
      by_cases h : s[0]'(by omega) = 48
      · exact absurd ⟨h3, by rw [List.head?_eq_getElem?, e, h]⟩ h0
      · have : (s[0]'(by omega)).toNat ≠ 48 := fun e => h (UInt8.toNat.inj e)
        simp; omega
    · exact .inl (by omega)
  clear h0
  have H1 : Hid (1 ≤ s.size ∧ s.size ≤ 10) := ⟨by omega, by omega⟩
  rcases hz with hz1 | ⟨hz1, hz0, hz2⟩
  all_goals
    go_enter Tryd.func20, Tryd.ntmps20
    go_wp2_with (go_at_call 31; refine (within_yes _ _ _ _ (by omega) (by omega)).mono ?_; rintro e w' ⟨rfl, rfl⟩)
    go_loop [3, 4] (fun v i => ∃ pos : Nat, pos ≤ s.size ∧ v = .int .i64 (digs (s.data.toList.take pos)) ∧ i = .int .i64 pos ∧ ∀ b ∈ s.data.toList.take pos, isDig b = true) (fun _ i => s.size - (intOf i).toNat)
    case atStart => exact ⟨0, Nat.zero_le _, by simp [digs], rfl, by simp⟩
    case round =>
      obtain ⟨pos, hpos, rfl, rfl, hgood⟩ := hrel
      have HG : Hid (∀ b ∈ s.data.toList.take pos, isDig b = true) := hgood
      clear hgood
      by_cases hp : pos < s.size
      · have hn := digs_take_in hp H1.out.2 HG.out
        obtain ⟨n, hne⟩ : ∃ n, n = digs (s.data.toList.take pos) := ⟨_, rfl⟩
        have HE : Hid (n = digs (s.data.toList.take pos)) := hne
        rw [← hne] at hn ⊢
        clear hne
        obtain ⟨n0, n9⟩ := hn
        obtain ⟨c, hc⟩ : ∃ c : UInt8, s[pos]'hp = c := ⟨_, rfl⟩
        have HC : Hid (c = s[pos]'hp) := hc.symm
        by_cases hd : 48 ≤ c.toNat ∧ c.toNat ≤ 57
        · obtain ⟨l1, l2⟩ := hd
          go_wp2_with (go_at_call 19; refine (digit_yes _ _ (by omega) (by omega)).mono ?_; rintro e w' ⟨rfl, rfl⟩)
          go_round
          case rel =>
            refine ⟨pos + 1, by omega, ?_, by go_num, ?_⟩
            · rw [take_succL hp, digs_snoc, ← HE.out, ← HC.out]
            · rw [take_succL hp]
              intro b hb
              rcases List.mem_append.1 hb with h | h
              · exact HG.out b h
              · rw [List.mem_singleton.1 h, ← HC.out]; exact (isDig_iff c).2 ⟨l1, l2⟩
          case measure => simp [intOf]; omega
        · have HB : Hid (numOk s.data.toList = false) := by
            refine numOk_bad (b := c) (by rw [HC.out]; exact List.mem_of_getElem? (getL hp)) ?_
            have : ¬ isDig c = true := fun h => hd ((isDig_iff c).1 h)
            simpa using this
          go_wp2_with (go_at_call 19; refine (digit_no _ _ (by omega)).mono ?_; rintro e w' ⟨rfl, rfl⟩)
          go_ret
          exact ⟨ret_int (numD_no HB.out).symm, rfl⟩
      · have HT : Hid (s.data.toList.take pos = s.data.toList) := by
          refine List.take_of_length_le ?_
          rw [lenL]; omega
        have HO : Hid (numOk s.data.toList = true) := numOk_good (by rw [lenL]; exact H1.out.1) (by rw [lenL]; exact H1.out.2) HZ.out (by have := HG.out; rwa [HT.out] at this)
        rw [HT.out]
        go_wp2
        go_ret
        exact ⟨ret_int (by simp [numD, HO.out]), rfl⟩
end Go.Proofs.YtndkmjjaabnfaaaDoor
