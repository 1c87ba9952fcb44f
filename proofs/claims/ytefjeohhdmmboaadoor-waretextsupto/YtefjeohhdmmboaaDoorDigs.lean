/- A number, the document's way: digitsOf, walked. -/
import Derived.Test.YtefjeohhdmmboaaDoorLab2
namespace Go.Proofs.YtefjeohhdmmboaaDoor
open Go.RowKit

/-- A word's number; -1: it tells none. -/
def numD (l : List UInt8) : Int := if numOk l = true then digs l else -1
theorem numD_yes {l : List UInt8} (h : numOk l = true) : numD l = numV l := by rw [numD, numV, if_pos h, if_pos h]
theorem numD_no {l : List UInt8} (h : numOk l = false) : numD l = -1 := by simp [numD, h]

set_option maxHeartbeats 3200000 in
theorem digitsOf_any (s : ByteArray) (w : World) (hs : s.size ≤ maxLen) :
    Calls Tryd.prog 34 #[.string s] w fun e w' => e = .returned (.int .i64 (numD s.data.toList)) ∧ w' = w := by
  unfold maxLen at hs
  by_cases h1 : s.size < 1 ∨ 10 < s.size
  · have HN : Hid (numOk s.data.toList = false) := numOk_len (by rw [lenL]; exact h1)
    go_enter Tryd.func34, Tryd.ntmps34
    go_wp2_with (go_at_call 35; refine (within_no _ _ _ _ (by omega)).mono ?_; rintro e w' ⟨rfl, rfl⟩)
    go_ret
    exact ⟨ret_int (numD_no HN.out).symm, rfl⟩
  have h1' : 1 ≤ s.size := by omega
  have h2' : s.size ≤ 10 := by omega
  clear h1
  by_cases h0 : 1 < s.size ∧ s.data.toList.head? = some 48
  · obtain ⟨h3, h4⟩ := h0
    have HN : Hid (numOk s.data.toList = false) := numOk_zero (by rw [lenL]; exact h3) h4
    have hz : s[0]'(by omega) = 48 := by
      have e := getL (s := s) (k := 0) (by omega)
      rw [List.head?_eq_getElem?, e] at h4
      exact Option.some.inj h4
    clear h4
    go_enter Tryd.func34, Tryd.ntmps34
    go_wp2_with (go_at_call 35; refine (within_yes _ _ _ _ (by omega) (by omega)).mono ?_; rintro e w' ⟨rfl, rfl⟩)
    go_ret
    exact ⟨ret_int (numD_no HN.out).symm, rfl⟩
  have HZ : Hid (s.data.toList.length ≤ 1 ∨ s.data.toList.head? ≠ some 48) := by
    rw [lenL]
    by_cases e : s.size ≤ 1
    · exact .inl e
    · exact .inr fun h => h0 ⟨by omega, h⟩
  have hz : s.size ≤ 1 ∨ (1 < s.size ∧ ∃ h : 0 < s.size, (((s[0]'h).toNat : Int) == 48) = false) := by
    by_cases h3 : 1 < s.size
    · refine .inr ⟨h3, by omega, ?_⟩
      have e := getL (s := s) (k := 0) (by omega)
      by_cases h : s[0]'(by omega) = 48
      · exact absurd ⟨h3, by rw [List.head?_eq_getElem?, e, h]⟩ h0
      · have : (s[0]'(by omega)).toNat ≠ 48 := fun e => h (UInt8.toNat.inj e)
        simp; omega
    · exact .inl (by omega)
  clear h0
  have H1 : Hid (1 ≤ s.size ∧ s.size ≤ 10) := ⟨by omega, by omega⟩
  rcases hz with hz1 | ⟨hz1, hz0, hz2⟩
  all_goals
    go_enter Tryd.func34, Tryd.ntmps34
    go_wp2_with (go_at_call 35; refine (within_yes _ _ _ _ (by omega) (by omega)).mono ?_; rintro e w' ⟨rfl, rfl⟩)
    go_loop [3, 4] (fun v i => ∃ pos : Nat, pos ≤ s.size ∧ v = .int .i64 (digs (s.data.toList.take pos)) ∧ i = .int .i64 pos ∧ ∀ b ∈ s.data.toList.take pos, isDig b = true) (fun _ i => s.size - (intOf i).toNat)
    case atStart => exact ⟨0, Nat.zero_le _, by simp [digs], rfl, by simp⟩
    case round =>
      obtain ⟨pos, hpos, rfl, rfl, hgood⟩ := hrel
      have HG : Hid (∀ b ∈ s.data.toList.take pos, isDig b = true) := hgood
      clear hgood
      by_cases hp : pos < s.size
      · have hn := digs_take_in hp H1.out.2 HG.out
        obtain ⟨n, hne⟩ : ∃ n, n = digs (s.data.toList.take pos) := ⟨_, rfl⟩
        have HE : Hid (n = digs (s.data.toList.take pos)) := hne
        rw [← hne] at hn ⊢
        clear hne
        obtain ⟨n0, n9⟩ := hn
        obtain ⟨c, hc⟩ : ∃ c : UInt8, s[pos]'hp = c := ⟨_, rfl⟩
        have HC : Hid (c = s[pos]'hp) := hc.symm
        by_cases hd : 48 ≤ c.toNat ∧ c.toNat ≤ 57
        · obtain ⟨l1, l2⟩ := hd
          go_wp2_with (go_at_call 48; refine (digit_yes _ _ (by omega) (by omega)).mono ?_; rintro e w' ⟨rfl, rfl⟩)
          go_round
          case rel =>
            refine ⟨pos + 1, by omega, ?_, by go_num, ?_⟩
            · rw [take_succL hp, digs_snoc, ← HE.out, ← HC.out]
            · rw [take_succL hp]
              intro b hb
              rcases List.mem_append.1 hb with h | h
              · exact HG.out b h
              · rw [List.mem_singleton.1 h, ← HC.out]; exact (isDig_iff c).2 ⟨l1, l2⟩
          case measure => simp [intOf]; omega
        · have HB : Hid (numOk s.data.toList = false) := by
            refine numOk_bad (b := c) (by rw [HC.out]; exact List.mem_of_getElem? (getL hp)) ?_
            have : ¬ isDig c = true := fun h => hd ((isDig_iff c).1 h)
            simpa using this
          go_wp2_with (go_at_call 48; refine (digit_no _ _ (by omega)).mono ?_; rintro e w' ⟨rfl, rfl⟩)
          go_ret
          exact ⟨ret_int (numD_no HB.out).symm, rfl⟩
      · have HT : Hid (s.data.toList.take pos = s.data.toList) := by
          refine List.take_of_length_le ?_
          rw [lenL]; omega
        have HO : Hid (numOk s.data.toList = true) := numOk_good (by rw [lenL]; exact H1.out.1) (by rw [lenL]; exact H1.out.2) HZ.out (by have := HG.out; rwa [HT.out] at this)
        rw [HT.out]
        go_wp2
        go_ret
        exact ⟨ret_int (by simp [numD, HO.out]), rfl⟩
end Go.Proofs.YtefjeohhdmmboaaDoor
