/- ware.isLabel walked. -/
import Derived.Test.YtjappkfhballhaaGreatNum
import Derived.Deep.RegionWith
namespace Go.Proofs.YtjappkfhballhaaGreat
open Go.RowKit


/-- May this byte stand at place k of a label? -/
def okAt (b : UInt8) (k : Nat) : Bool :=
  decide (97 ≤ b.toNat ∧ b.toNat ≤ 122) || (decide (0 < k) && decide (48 ≤ b.toNat ∧ b.toNat ≤ 57))
/-- May a text be a label? -/
def lab (s : ByteArray) : Bool := decide (1 ≤ s.size) && decide (s.size ≤ 16) && decide (∀ k (h : k < s.size), okAt (s[k]'h) k = true)

theorem lab_short {s : ByteArray} (h : s.size < 1) : lab s = false := by
  unfold lab; rw [decide_eq_false (by omega : ¬ 1 ≤ s.size)]; simp
theorem lab_long {s : ByteArray} (h : 16 < s.size) : lab s = false := by
  unfold lab; rw [decide_eq_false (by omega : ¬ s.size ≤ 16)]; simp
theorem lab_bad {s : ByteArray} {k : Nat} (h : k < s.size) (hb : okAt (s[k]'h) k = false) : lab s = false := by
  unfold lab
  rw [decide_eq_false (p := ∀ k (h : k < s.size), okAt (s[k]'h) k = true) (fun hh => by rw [hh k h] at hb; cases hb)]; simp
theorem lab_good {s : ByteArray} (h1 : 1 ≤ s.size) (h2 : s.size ≤ 16) (h : ∀ k (h : k < s.size), okAt (s[k]'h) k = true) : lab s = true := by
  unfold lab; rw [decide_eq_true h1, decide_eq_true h2, decide_eq_true h]; rfl
theorem lab_in {s : ByteArray} (h : lab s = true) : 1 ≤ s.size ∧ s.size ≤ 16 := by
  unfold lab at h
  simp only [Bool.and_eq_true, decide_eq_true_eq] at h
  exact h.1

theorem okAt_letter {b : UInt8} {k : Nat} (h1 : 97 ≤ b.toNat) (h2 : b.toNat ≤ 122) : okAt b k = true := by
  unfold okAt; rw [decide_eq_true (⟨h1, h2⟩ : 97 ≤ b.toNat ∧ b.toNat ≤ 122)]; rfl
theorem okAt_digit {b : UInt8} {k : Nat} (h0 : 0 < k) (h1 : 48 ≤ b.toNat) (h2 : b.toNat ≤ 57) : okAt b k = true := by
  unfold okAt; rw [decide_eq_true (⟨h1, h2⟩ : 48 ≤ b.toNat ∧ b.toNat ≤ 57), decide_eq_true h0]; simp
theorem okAt_zero {b : UInt8} {k : Nat} (h0 : k = 0) (h : b.toNat < 97 ∨ 122 < b.toNat) : okAt b k = false := by
  unfold okAt; rw [decide_eq_false (by omega : ¬ (97 ≤ b.toNat ∧ b.toNat ≤ 122)), decide_eq_false (by omega : ¬ 0 < k)]; rfl
theorem okAt_no {b : UInt8} {k : Nat} (h : b.toNat < 97 ∨ 122 < b.toNat) (h2 : b.toNat < 48 ∨ 57 < b.toNat) : okAt b k = false := by
  unfold okAt; rw [decide_eq_false (by omega : ¬ (97 ≤ b.toNat ∧ b.toNat ≤ 122)), decide_eq_false (by omega : ¬ (48 ≤ b.toNat ∧ b.toNat ≤ 57))]; simp

/-- One byte more is good. -/
theorem good_succ {s : ByteArray} {pos : Nat} (hp : pos < s.size) (h : ∀ k (h : k < s.size), k < pos → okAt (s[k]'h) k = true) (hb : okAt (s[pos]'hp) pos = true) :
    ∀ k (h : k < s.size), k < pos + 1 → okAt (s[k]'h) k = true := fun k hk hlt => by
  by_cases e : k = pos
  · subst e; exact hb
  · exact h k hk (by omega)


theorem okAt_in {b : UInt8} {k : Nat} (h : inR 97 122 (b.toNat : Int) = true) : okAt b k = true := okAt_letter (by have := (inR_iff.1 h).1; omega) (by have := (inR_iff.1 h).2; omega)
theorem inR_out {lo hi x : Int} (h : inR lo hi x = false) : x < lo ∨ hi < x := by
  by_cases h1 : lo ≤ x
  · by_cases h2 : x ≤ hi
    · rw [inR_yes h1 h2] at h; cases h
    · omega
  · omega

set_option maxHeartbeats 3200000 in
theorem isLabel_any (s : ByteArray) (w : World) (hs : s.size ≤ maxLen) :
    Calls Tryz.prog 83 #[.string s] w fun e w' => e = .returned (.bool (lab s)) ∧ Below w.heap.size w w' := by
  unfold maxLen at hs
  by_cases h1 : s.size < 1
  · rw [lab_short h1]
    go_enter Tryz.func83, Tryz.ntmps83
    go_wp2
    go_ret
    exact ⟨rfl, Below.refl _ _⟩
  by_cases h2 : 16 < s.size
  · rw [lab_long h2]
    go_enter Tryz.func83, Tryz.ntmps83
    go_wp2
    go_ret
    exact ⟨rfl, Below.refl _ _⟩
  go_enter Tryz.func83, Tryz.ntmps83
  go_wp2_with (go_at_call 109; refine (within_rune _ _ _).mono ?_; rintro e w1 ⟨rfl, rfl⟩)
  obtain ⟨W, hW⟩ : ∃ W, W = (((w.alloc (.cells #[.int .i32 97] 21)).alloc (.cells #[.int .i32 122] 21)).alloc (.cells #[.int .i32 48] 21)).alloc (.cells #[.int .i32 57] 21) := ⟨_, rfl⟩
  have hB : Below w.heap.size w W := by rw [hW]; exact ((((Below.refl _ _).alloc (Nat.le_refl _) _).alloc (by simp) _).alloc (by simp; omega) _).alloc (by simp; omega) _
  have hc0 : ∀ pos, (W.iter s pos).cell? ⟨w.heap.size, 0, none⟩ = some (.int .i32 97) := fun pos => by
    refine cell_later ((Below.refl W.heap.size W).alloc (Nat.le_refl _) _) ?_
    rw [hW]; go_simp
  have hc1 : ∀ pos, (W.iter s pos).cell? ⟨w.heap.size + 1, 0, none⟩ = some (.int .i32 122) := fun pos => by
    refine cell_later ((Below.refl W.heap.size W).alloc (Nat.le_refl _) _) ?_
    rw [hW]; go_simp
  have hd0 : ∀ pos, (W.iter s pos).cell? ⟨w.heap.size + 1 + 1, 0, none⟩ = some (.int .i32 48) := fun pos => by
    refine cell_later ((Below.refl W.heap.size W).alloc (Nat.le_refl _) _) ?_
    rw [hW]; go_simp
  have hd1 : ∀ pos, (W.iter s pos).cell? ⟨w.heap.size + 1 + 1 + 1, 0, none⟩ = some (.int .i32 57) := fun pos => by
    refine cell_later ((Below.refl W.heap.size W).alloc (Nat.le_refl _) _) ?_
    rw [hW]; go_simp
  have hWs : w.heap.size + 1 + 1 + 1 + 1 = W.heap.size := by rw [hW]; simp
  rw [← hW, hWs]
  clear hW hWs
  go_loopw [5] (fun _ wr => ∃ pos : Nat, pos ≤ s.size ∧ wr = W.iter s pos ∧ ∀ k (h : k < s.size), k < pos → okAt (s[k]'h) k = true) (fun _ wr => s.size - wr.iterPos W.heap.size)
  case atStart => exact ⟨0, Nat.zero_le _, rfl, fun k _ h => absurd h (Nat.not_lt_zero _)⟩
  case round =>
    obtain ⟨pos, hpos, rfl, hgood⟩ := hrel
    have HG : Hid (∀ k (h : k < s.size), k < pos → okAt (s[k]'h) k = true) := hgood
    clear hgood
    by_cases hp : pos < s.size
    · by_cases ha : (s[pos]'hp).toNat < 128
      · have hnx : ∀ ty, (Instr.next (.pointer (some ⟨W.heap.size, 0, none⟩)) true ty).run Tryz.prog (W.iter s pos) = _ := fun ty => run_next_ascii W s pos ty hp ha
        obtain ⟨c, hc⟩ : ∃ c : UInt8, c = s[pos]'hp := ⟨_, rfl⟩
        have HC : Hid (c = s[pos]'hp) := hc
        rw [← hc] at hnx ha
        clear hc
        cases hl : inR 97 122 (c.toNat : Int) with
        | true =>
          go_wp2_with (go_at_call 135; refine (in_rune' (c.toNat : Int) 97 122 true hl _ _ _ (hc0 _) (hc1 _)).mono ?_; rintro e w2 ⟨rfl, rfl⟩)
          go_roundw
          case rel => exact ⟨pos + 1, by omega, rfl, good_succ hp HG.out (by rw [← HC.out]; exact okAt_in hl)⟩
          case measure => simp; omega
        | false =>
          by_cases h0 : pos = 0
          · have HB : Hid (lab s = false) := lab_bad hp (by rw [← HC.out]; exact okAt_zero h0 (by have := inR_out hl; omega))
            have h00 : ((pos : Int) == 0) = true := by simp; omega
            clear h0
            go_wp2_with (go_at_call 135; refine (in_rune' (c.toNat : Int) 97 122 false hl _ _ _ (hc0 _) (hc1 _)).mono ?_; rintro e w2 ⟨rfl, rfl⟩)
            go_ret
            exact ⟨ret_bool HB.out.symm, hB.alloc hB.size _⟩
          · have h00 : ((pos : Int) == 0) = false := by simp; omega
            have h01 : 0 < pos := by omega
            clear h0
            cases hd : inR 48 57 (c.toNat : Int) with
            | true =>
              go_wp2_with fail
              refine (in_rune' (c.toNat : Int) 97 122 false hl _ _ _ (hc0 _) (hc1 _)).mono ?_
              rintro e w2 ⟨rfl, rfl⟩
              go_wp2_with fail
              refine (in_rune' (c.toNat : Int) 48 57 true hd _ _ _ (hd0 _) (hd1 _)).mono ?_
              rintro e w2 ⟨rfl, rfl⟩
              go_wp2
              go_roundw
              case rel => exact ⟨pos + 1, by omega, rfl, good_succ hp HG.out (by rw [← HC.out]; exact okAt_digit h01 (by have := (inR_iff.1 hd).1; omega) (by have := (inR_iff.1 hd).2; omega))⟩
              case measure => simp; omega
            | false =>
              have HB : Hid (lab s = false) := lab_bad hp (by rw [← HC.out]; exact okAt_no (by have := inR_out hl; omega) (by have := inR_out hd; omega))
              go_wp2_with fail
              refine (in_rune' (c.toNat : Int) 97 122 false hl _ _ _ (hc0 _) (hc1 _)).mono ?_
              rintro e w2 ⟨rfl, rfl⟩
              go_wp2_with fail
              refine (in_rune' (c.toNat : Int) 48 57 false hd _ _ _ (hd0 _) (hd1 _)).mono ?_
              rintro e w2 ⟨rfl, rfl⟩
              go_wp2
              go_ret
              exact ⟨ret_bool HB.out.symm, hB.alloc hB.size _⟩
      · have hnx : ∀ ty, (Instr.next (.pointer (some ⟨W.heap.size, 0, none⟩)) true ty).run Tryz.prog (W.iter s pos) = _ := fun ty => run_next_any W s pos ty hp
        have HB : Hid (lab s = false) := lab_bad hp (okAt_no (by omega) (by omega))
        have hd := (decode_high s pos hp (by omega)).1
        generalize (Utf8.decode s pos).1 = c at *
        generalize (Utf8.decode s pos).2 = d at *
        have hl : inR 97 122 (c : Int) = false := inR_no (.inr (by omega))
        have hd2 : inR 48 57 (c : Int) = false := inR_no (.inr (by omega))
        by_cases h0 : pos = 0
        · have h00 : ((pos : Int) == 0) = true := by simp; omega
          clear h0
          go_wp2_with (go_at_call 135; refine (in_rune' (c : Int) 97 122 false hl _ _ _ (hc0 _) (hc1 _)).mono ?_; rintro e w2 ⟨rfl, rfl⟩)
          go_ret
          exact ⟨ret_bool HB.out.symm, hB.alloc hB.size _⟩
        · have h00 : ((pos : Int) == 0) = false := by simp; omega
          clear h0
          go_wp2_with fail
          refine (in_rune' (c : Int) 97 122 false hl _ _ _ (hc0 _) (hc1 _)).mono ?_
          rintro e w2 ⟨rfl, rfl⟩
          go_wp2_with fail
          refine (in_rune' (c : Int) 48 57 false hd2 _ _ _ (hd0 _) (hd1 _)).mono ?_
          rintro e w2 ⟨rfl, rfl⟩
          go_wp2
          go_ret
          exact ⟨ret_bool HB.out.symm, hB.alloc hB.size _⟩
    · have hnx : ∀ ty, (Instr.next (.pointer (some ⟨W.heap.size, 0, none⟩)) true ty).run Tryz.prog (W.iter s pos) = _ := fun ty => run_next_end W s pos ty hp
      go_wp2
      go_ret
      exact ⟨ret_bool (lab_good (by omega) (by omega) (fun k h => HG.out k h (by omega))).symm, hB.alloc hB.size _⟩

end Go.Proofs.YtjappkfhballhaaGreat
