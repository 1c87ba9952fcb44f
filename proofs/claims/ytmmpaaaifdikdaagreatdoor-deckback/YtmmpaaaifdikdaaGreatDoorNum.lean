/- Numbers: ware.number walked. -/
import Derived.Test.YtmmpaaaifdikdaaGreatDoorSpotA
namespace Go.Proofs.YtmmpaaaifdikdaaGreatDoor
open Go.RowKit

def isDig (b : UInt8) : Bool := decide (48 ≤ b.toNat) && decide (b.toNat ≤ 57)
def on (n : Int) (b : UInt8) : Int := 10 * n + ((b.toNat : Int) - 48)
/-- The number that some digits tell. -/
def digs (l : List UInt8) : Int := l.foldl on 0
/-- Is it a number of one digit to ten, with no 0 ahead? -/
def numOk (l : List UInt8) : Bool := decide (1 ≤ l.length) && decide (l.length ≤ 10) && (decide (l.length ≤ 1) || !(l.head? == some 48)) && l.all isDig
def numV (l : List UInt8) : Int := if numOk l = true then digs l else 0
theorem isDig_iff (b : UInt8) : isDig b = true ↔ 48 ≤ b.toNat ∧ b.toNat ≤ 57 := by simp [isDig]
theorem digs_snoc (l : List UInt8) (b : UInt8) : digs (l ++ [b]) = 10 * digs l + ((b.toNat : Int) - 48) := by simp [digs, on]
theorem digs_in (l : List UInt8) (h : ∀ b ∈ l, isDig b = true) : 0 ≤ digs l ∧ digs l < (10 : Int) ^ l.length := by
  have : ∀ n (l : List UInt8), l.length = n → (∀ b ∈ l, isDig b = true) → 0 ≤ digs l ∧ digs l < (10 : Int) ^ n := by
    intro n
    induction n with
    | zero => intro l hl _; have : l = [] := List.eq_nil_of_length_eq_zero hl; subst this; decide
    | succ n ih =>
      intro l hl hd
      obtain ⟨a, b, rfl⟩ : ∃ a b, l = a ++ [b] := by
        have hne : l ≠ [] := by intro e; subst e; simp at hl
        exact ⟨l.dropLast, l.getLast hne, (List.dropLast_concat_getLast hne).symm⟩
      have h1 := ih a (by simpa using hl) fun b hb => hd b (by simp [hb])
      have h2 := (isDig_iff b).1 (hd b (by simp))
      rw [digs_snoc, Int.pow_succ]
      omega
  exact this l.length l rfl h
theorem numOk_len {l : List UInt8} (h : l.length < 1 ∨ 10 < l.length) : numOk l = false := by
  unfold numOk
  rcases h with h | h
  · rw [decide_eq_false (by omega : ¬ 1 ≤ l.length)]; rfl
  · rw [decide_eq_false (by omega : ¬ l.length ≤ 10)]; simp
theorem numOk_zero {l : List UInt8} (h : 1 < l.length) (h0 : l.head? = some 48) : numOk l = false := by
  unfold numOk; rw [decide_eq_false (by omega : ¬ l.length ≤ 1), h0]; simp
theorem numOk_bad {l : List UInt8} {b : UInt8} (h : b ∈ l) (hb : isDig b = false) : numOk l = false := by
  unfold numOk
  have : l.all isDig = false := List.all_eq_false.2 ⟨b, h, by simp [hb]⟩
  rw [this]; simp
theorem numOk_good {l : List UInt8} (h1 : 1 ≤ l.length) (h2 : l.length ≤ 10) (h0 : l.length ≤ 1 ∨ l.head? ≠ some 48) (hd : ∀ b ∈ l, isDig b = true) : numOk l = true := by
  unfold numOk
  rw [decide_eq_true h1, decide_eq_true h2, List.all_eq_true.2 hd]
  rcases h0 with h | h
  · rw [decide_eq_true h]; rfl
  · simp [h]

theorem in_rune' (x lo hi : Int) (v : Bool) (hv : inR lo hi x = v) (p q : Nat) (w : World) (hp : w.cell? ⟨p, 0, none⟩ = some (.int .i32 lo)) (hq : w.cell? ⟨q, 0, none⟩ = some (.int .i32 hi)) :
    Calls Tryz.prog 89 #[.int .i32 x, .pointer (some ⟨p, 0, none⟩), .pointer (some ⟨q, 0, none⟩)] w fun e w' => e = .returned (.bool v) ∧ w' = w := by
  subst hv; exact in_rune x lo hi p q w hp hq

theorem getL {s : ByteArray} {k : Nat} (h : k < s.size) : s.data.toList[k]? = some (s[k]'h) := by
  have : k < s.data.toList.length := by simpa using h
  rw [List.getElem?_eq_getElem this]; rfl
theorem lenL (s : ByteArray) : s.data.toList.length = s.size := by simp
theorem take_succL {s : ByteArray} {k : Nat} (h : k < s.size) : s.data.toList.take (k + 1) = s.data.toList.take k ++ [s[k]'h] := by
  rw [List.take_add_one, getL h]; rfl
theorem digs_take_in {s : ByteArray} {k : Nat} (hk : k < s.size) (h10 : s.size ≤ 10) (hd : ∀ b ∈ s.data.toList.take k, isDig b = true) : 0 ≤ digs (s.data.toList.take k) ∧ digs (s.data.toList.take k) < 1000000000 := by
  have h := digs_in _ hd
  refine ⟨h.1, Int.lt_of_lt_of_le h.2 ?_⟩
  have hl : (s.data.toList.take k).length = k := by rw [List.length_take, lenL]; omega
  rw [hl]
  exact (by decide : ∀ k, k < 10 → (10 : Int) ^ k ≤ 1000000000) k (by omega)

theorem ret_num {n m : Int} {a b : Bool} (h : n = m) (h2 : a = b) : Ending.returned (.tuple #[.int .i64 n, .bool a]) = .returned (.tuple #[.int .i64 m, .bool b]) := by rw [h, h2]

set_option maxHeartbeats 3200000 in
theorem number_any (s : ByteArray) (w : World) (hs : s.size ≤ maxLen) :
    Calls Tryz.prog 116 #[.string s] w fun e w' => e = .returned (.tuple #[.int .i64 (numV s.data.toList), .bool (numOk s.data.toList)]) ∧ Below w.heap.size w w' := by
  unfold maxLen at hs
  by_cases h1 : s.size < 1
  · have HN : Hid (numOk s.data.toList = false) := numOk_len (.inl (by rw [lenL]; exact h1))
    go_enter Tryz.func116, Tryz.ntmps116
    go_wp2
    refine bodyPost_ret (v := .tuple #[.int .i64 0, .bool false]) (by simp [results, Tryz.results116, go_sem]) rfl ⟨ret_num (by simp [numV, HN.out]) HN.out.symm, Below.refl _ _⟩
  by_cases h2 : 10 < s.size
  · have HN : Hid (numOk s.data.toList = false) := numOk_len (.inr (by rw [lenL]; exact h2))
    go_enter Tryz.func116, Tryz.ntmps116
    go_wp2
    refine bodyPost_ret (v := .tuple #[.int .i64 0, .bool false]) (by simp [results, Tryz.results116, go_sem]) rfl ⟨ret_num (by simp [numV, HN.out]) HN.out.symm, Below.refl _ _⟩
  by_cases h0 : 1 < s.size ∧ s.data.toList.head? = some 48
  · obtain ⟨h3, h4⟩ := h0
    have HN : Hid (numOk s.data.toList = false) := numOk_zero (by rw [lenL]; exact h3) h4
    have hz : s[0]'(by omega) = 48 := by
      have e := getL (s := s) (k := 0) (by omega)
      rw [List.head?_eq_getElem?, e] at h4
      exact Option.some.inj h4
    clear h4
    go_enter Tryz.func116, Tryz.ntmps116
    go_wp2
    refine bodyPost_ret (v := .tuple #[.int .i64 0, .bool false]) (by simp [results, Tryz.results116, go_sem]) rfl ⟨ret_num (by simp [numV, HN.out]) HN.out.symm, Below.refl _ _⟩
  have HZ : Hid (s.data.toList.length ≤ 1 ∨ s.data.toList.head? ≠ some 48) := by
    rw [lenL]
    by_cases e : s.size ≤ 1
    · exact .inl e
    · exact .inr fun h => h0 ⟨by omega, h⟩
  have hz : s.size ≤ 1 ∨ (1 < s.size ∧ ∃ h : 0 < s.size, (((s[0]'h).toNat : Int) == 48) = false) := by
    by_cases h3 : 1 < s.size
    · refine .inr ⟨h3, by omega, ?_⟩
      have e := getL (s := s) (k := 0) (by omega)
      by_cases h : s[0]'(by omega) = 48
      · exact absurd ⟨h3, by rw [List.head?_eq_getElem?, e, h]⟩ h0
      · have : (s[0]'(by omega)).toNat ≠ 48 := fun e => h (UInt8.toNat.inj e)
        simp; omega
    · exact .inl (by omega)
  clear h0
  have H1 : Hid (1 ≤ s.size ∧ s.size ≤ 10) := ⟨by omega, by omega⟩
  rcases hz with hz1 | ⟨hz1, hz0, hz2⟩
  all_goals
    go_enter Tryz.func116, Tryz.ntmps116
    go_wp2_with (go_at_call 73; refine (within_rune _ _ _).mono ?_; rintro e w1 ⟨rfl, rfl⟩)
    obtain ⟨W, hW⟩ : ∃ W, W = (w.alloc (.cells #[.int .i32 48] 21)).alloc (.cells #[.int .i32 57] 21) := ⟨_, rfl⟩
    have hB : Below w.heap.size w W := by rw [hW]; exact ((Below.refl _ _).alloc (Nat.le_refl _) _).alloc (by simp) _
    have hc0 : ∀ pos, (W.iter s pos).cell? ⟨w.heap.size, 0, none⟩ = some (.int .i32 48) := fun pos => by
      refine cell_later ((Below.refl W.heap.size W).alloc (Nat.le_refl _) _) ?_
      rw [hW]; simp [go_sem]
    have hc1 : ∀ pos, (W.iter s pos).cell? ⟨w.heap.size + 1, 0, none⟩ = some (.int .i32 57) := fun pos => by
      refine cell_later ((Below.refl W.heap.size W).alloc (Nat.le_refl _) _) ?_
      rw [hW]; simp [go_sem]
    have hWs : w.heap.size + 1 + 1 = W.heap.size := by rw [hW]; simp
    rw [← hW, hWs]
    clear hW hWs
    go_loopw [5] (fun v wr => ∃ pos : Nat, pos ≤ s.size ∧ v = .int .i64 (digs (s.data.toList.take pos)) ∧ wr = W.iter s pos ∧ ∀ b ∈ s.data.toList.take pos, isDig b = true) (fun _ wr => s.size - wr.iterPos W.heap.size)
    case atStart => exact ⟨0, Nat.zero_le _, by simp [digs], rfl, by simp⟩
    case round =>
      obtain ⟨pos, hpos, rfl, rfl, hgood⟩ := hrel
      have HG : Hid (∀ b ∈ s.data.toList.take pos, isDig b = true) := hgood
      clear hgood
      by_cases hp : pos < s.size
      · have hn := digs_take_in hp H1.out.2 HG.out
        obtain ⟨n, hne⟩ : ∃ n, n = digs (s.data.toList.take pos) := ⟨_, rfl⟩
        have HE : Hid (n = digs (s.data.toList.take pos)) := hne
        rw [← hne] at hn ⊢
        clear hne
        obtain ⟨n0, n9⟩ := hn
        by_cases ha : (s[pos]'hp).toNat < 128
        · have hnx : ∀ ty, (Instr.next (.pointer (some ⟨W.heap.size, 0, none⟩)) true ty).run Tryz.prog (W.iter s pos) = _ := fun ty => run_next_ascii W s pos ty hp ha
          obtain ⟨c, hc⟩ : ∃ c : UInt8, c = s[pos]'hp := ⟨_, rfl⟩
          have HC : Hid (c = s[pos]'hp) := hc
          rw [← hc] at hnx ha
          clear hc
          cases hd : inR 48 57 (c.toNat : Int) with
          | true =>
            have l1 : 48 ≤ c.toNat := by have := (inR_iff.1 hd).1; omega
            have l2 : c.toNat ≤ 57 := by have := (inR_iff.1 hd).2; omega
            go_wp2_with (go_at_call 89; refine (in_rune' (c.toNat : Int) 48 57 true hd _ _ _ (hc0 _) (hc1 _)).mono ?_; rintro e w2 ⟨rfl, rfl⟩)
            go_roundw
            case rel =>
              refine ⟨pos + 1, by omega, ?_, rfl, ?_⟩
              · rw [take_succL hp, digs_snoc, ← HE.out, ← HC.out]
              · rw [take_succL hp]
                intro b hb
                rcases List.mem_append.1 hb with h | h
                · exact HG.out b h
                · rw [List.mem_singleton.1 h, ← HC.out]; exact (isDig_iff c).2 ⟨l1, l2⟩
            case measure => simp; omega
          | false =>
            have HB : Hid (numOk s.data.toList = false) := by
              refine numOk_bad (b := c) (by rw [HC.out]; exact List.mem_of_getElem? (getL hp)) ?_
              have : ¬ isDig c = true := fun h => by
                have h := (isDig_iff c).1 h
                rw [inR_yes (by omega) (by omega)] at hd; exact absurd hd (by decide)
              simpa using this
            go_wp2_with (go_at_call 89; refine (in_rune' (c.toNat : Int) 48 57 false hd _ _ _ (hc0 _) (hc1 _)).mono ?_; rintro e w2 ⟨rfl, rfl⟩)
            refine bodyPost_ret (v := .tuple #[.int .i64 0, .bool false]) (by simp [results, Tryz.results116, go_sem]) rfl ⟨ret_num (by simp [numV, HB.out]) HB.out.symm, hB.alloc hB.size _⟩
        · have hnx : ∀ ty, (Instr.next (.pointer (some ⟨W.heap.size, 0, none⟩)) true ty).run Tryz.prog (W.iter s pos) = _ := fun ty => run_next_any W s pos ty hp
          have HB : Hid (numOk s.data.toList = false) := by
            refine numOk_bad (b := s[pos]'hp) (List.mem_of_getElem? (getL hp)) ?_
            have : ¬ isDig (s[pos]'hp) = true := fun h => by
              have h := (isDig_iff _).1 h
              omega
            simpa using this
          have hd := (decode_high s pos hp (by omega)).1
          generalize (Utf8.decode s pos).1 = c at *
          generalize (Utf8.decode s pos).2 = d at *
          have hf : inR 48 57 (c : Int) = false := inR_no (.inr (by omega))
          go_wp2_with (go_at_call 89; refine (in_rune' (c : Int) 48 57 false hf _ _ _ (hc0 _) (hc1 _)).mono ?_; rintro e w2 ⟨rfl, rfl⟩)
          refine bodyPost_ret (v := .tuple #[.int .i64 0, .bool false]) (by simp [results, Tryz.results116, go_sem]) rfl ⟨ret_num (by simp [numV, HB.out]) HB.out.symm, hB.alloc hB.size _⟩
      · have hnx : ∀ ty, (Instr.next (.pointer (some ⟨W.heap.size, 0, none⟩)) true ty).run Tryz.prog (W.iter s pos) = _ := fun ty => run_next_end W s pos ty hp
        have HT : Hid (s.data.toList.take pos = s.data.toList) := by
          refine List.take_of_length_le ?_
          rw [lenL]; omega
        have HO : Hid (numOk s.data.toList = true) := numOk_good (by rw [lenL]; exact H1.out.1) (by rw [lenL]; exact H1.out.2) HZ.out (by have := HG.out; rwa [HT.out] at this)
        rw [HT.out]
        go_wp2
        refine bodyPost_ret (v := .tuple #[.int .i64 (digs s.data.toList), .bool true]) (by simp [results, Tryz.results116, go_sem]) rfl ⟨ret_num (by simp [numV, HO.out]) HO.out.symm, hB.alloc hB.size _⟩
end Go.Proofs.YtmmpaaaifdikdaaGreatDoor
