/- sumOf, kindOf, commandOf, isDone walked. -/
import Derived.Test.YtiafppmpjmpdmaaDoorCC
import Derived.Test.YtiafppmpjmpdmaaDoorKA
namespace Go.Proofs.YtiafppmpjmpdmaaDoor
open Go.RowKit

/-- The words of all kinds, as they are laid. -/
structure WT (w : World) : Prop where
  first : ∀ k, k < 9 → w.cell? ⟨0, k * 5, none⟩ = some (sA (firstW k))
  letter : ∀ k i, k < 9 → i < 4 → w.cell? ⟨0, k * 5 + 1 + i, none⟩ = some (sA (letW k i))
theorem WT.later {w w' : World} (h : WT w) (hb : Below w.heap.size w w') : WT w' := ⟨fun k hk => cell_later hb (h.first k hk), fun k i hk hi => cell_later hb (h.letter k i hk hi)⟩
theorem WT.kept {M : Nat → Prop} {w w' : World} (h : WT w) (hk : Kpt M w w') (hM : ¬ M 0) : WT w' := by
  have hl : 0 < w.heap.size := World.block_lt_of_cell? _ _ (h.first 0 (by decide))
  exact ⟨fun k hj => (World.cell?_of_block (hk.block 0 hl hM)).trans (h.first k hj), fun k i hj hi => (World.cell?_of_block (hk.block 0 hl hM)).trans (h.letter k i hj hi)⟩

/-! ### the sum -/
theorem xor_u8 (a b : UInt8) : bits BinOp.xor IntKind.u8 (a.toNat : Int) (b.toNat : Int) = ((a ^^^ b).toNat : Int) := by
  have h : bits BinOp.xor IntKind.u8 (a.toNat : Int) (b.toNat : Int) = IntKind.u8.wrap ((BitVec.ofInt 8 (a.toNat : Int) ^^^ BitVec.ofInt 8 (b.toNat : Int)).toNat : Nat) := rfl
  have e : ∀ c : UInt8, BitVec.ofInt 8 (c.toNat : Int) = c.toBitVec := fun c => by
    apply BitVec.eq_of_toNat_eq
    rw [BitVec.toNat_ofInt]
    have := c.toNat_lt
    show _ = c.toNat
    omega
  rw [h, e, e]
  have h2 : (a.toBitVec ^^^ b.toBitVec).toNat = (a ^^^ b).toNat := rfl
  rw [h2]
  have := (a ^^^ b).toNat_lt
  generalize (a ^^^ b).toNat = n at *
  show (let m := (n : Int) % (2 ^ 8 : Int); if (false && decide (m ≥ (2 ^ 7 : Int))) = true then m - (2 ^ 8 : Int) else m) = (n : Int)
  simp
  omega
theorem xor_take {l : List UInt8} {i : Nat} (h : i < l.length) : xorL (l.take (i + 1)) = xorL (l.take i) ^^^ l[i] := by
  unfold xorL
  rw [List.take_succ_eq_append_getElem h, List.foldl_append]
  rfl
set_option maxHeartbeats 6400000 in
set_option maxRecDepth 100000 in
theorem sumOf_any (s : ByteArray) (w : World) (hs : s.size ≤ 4294967280) : Calls Tryd.prog 24 #[.string s] w fun e w' => e = .returned (.int .i64 (sumL s.data.toList)) ∧ w' = w := by
  go_enter Tryd.func24, Tryd.ntmps24
  go_wp2
  go_loop [3, 7] (fun u i => ∃ j : Nat, j ≤ s.size ∧ i = .int .i64 j ∧ u = .int .u8 ((xorL (s.data.toList.take j)).toNat : Int)) (fun u i => s.size - (intOf i).toNat)
  case atStart => exact ⟨0, by omega, rfl, rfl⟩
  case round =>
    obtain ⟨j, hj, rfl, rfl⟩ := hrel
    by_cases h : j < s.size
    · go_wp2
      go_round
      case rel =>
        refine ⟨j + 1, h, by go_num, ?_⟩
        have hl : j < s.data.toList.length := by rw [← Lib.size_eq]; exact h
        have e : s[j] = s.data.toList[j] := rfl
        rw [xor_u8, xor_take hl, e]
      case measure => simp [intOf]; omega
    · go_wp2
      go_ret
      refine ⟨ret_int ?_, rfl⟩
      have hl : s.data.toList.take j = s.data.toList := List.take_of_length_le (by rw [← Lib.size_eq]; omega)
      have := (xorL s.data.toList).toNat_lt
      rw [hl, IntWalk.wrap64_in _ ⟨by omega, by omega⟩]
      rfl

/-! ### the kind -/
theorem kind_miss {l : List UInt8} (h : ∀ j, 1 ≤ j → j ≤ 8 → l ≠ firstW j) : kindR l = 0 := by
  unfold kindR
  rw [if_neg (h 1 (by decide) (by decide)), if_neg (h 2 (by decide) (by decide)), if_neg (h 3 (by decide) (by decide)), if_neg (h 4 (by decide) (by decide)), if_neg (h 5 (by decide) (by decide)), if_neg (h 6 (by decide) (by decide)), if_neg (h 7 (by decide) (by decide)), if_neg (h 8 (by decide) (by decide))]
set_option maxHeartbeats 6400000 in
set_option maxRecDepth 100000 in
theorem kindOf_any (l : List UInt8) (w : World) (h : WT w) : Calls Tryd.prog 42 #[sA l] w fun e w' => e = .returned (.int .i64 (kindR l : Nat)) ∧ w' = w := by
  have k1 : w.cell? ⟨0, 5, none⟩ = some (.string ⟨#[71, 50, 56]⟩) := h.first 1 (by decide)
  have k2 : w.cell? ⟨0, 10, none⟩ = some (.string ⟨#[71, 49]⟩) := h.first 2 (by decide)
  have k3 : w.cell? ⟨0, 15, none⟩ = some (.string ⟨#[77, 49]⟩) := h.first 3 (by decide)
  have k4 : w.cell? ⟨0, 20, none⟩ = some (.string ⟨#[77, 50]⟩) := h.first 4 (by decide)
  have k5 : w.cell? ⟨0, 25, none⟩ = some (.string ⟨#[77, 51]⟩) := h.first 5 (by decide)
  have k6 : w.cell? ⟨0, 30, none⟩ = some (.string ⟨#[77, 49, 48, 52]⟩) := h.first 6 (by decide)
  have k7 : w.cell? ⟨0, 35, none⟩ = some (.string ⟨#[71, 52]⟩) := h.first 7 (by decide)
  have k8 : w.cell? ⟨0, 40, none⟩ = some (.string ⟨#[77, 49, 48, 54]⟩) := h.first 8 (by decide)
  clear h
  go_enter Tryd.func42, Tryd.ntmps42
  go_wp2
  go_loop [3] (fun i => ∃ k : Nat, 1 ≤ k ∧ k ≤ 9 ∧ i = .int .i64 k ∧ Hid (∀ j, 1 ≤ j → j < k → l ≠ firstW j)) (fun i => 9 - (intOf i).toNat)
  case atStart => exact ⟨1, by omega, by omega, rfl, fun j h1 h2 => absurd h2 (by omega)⟩
  case round =>
    obtain ⟨k, hk1, hk9, rfl, HG⟩ := hrel
    rcases (show k = 1 ∨ k = 2 ∨ k = 3 ∨ k = 4 ∨ k = 5 ∨ k = 6 ∨ k = 7 ∨ k = 8 ∨ k = 9 by omega) with e | e | e | e | e | e | e | e | e
    · subst e
      by_cases hl : l = [71, 50, 56]
      · subst hl
        go_wp2
        go_ret
        exact ⟨ret_int (by decide), rfl⟩
      · have HL : Hid (l ≠ firstW 1) := hl
        have q1 : (([71, 50, 56] : List UInt8) == l) = false := by rw [beq_eq_false_iff_ne]; exact fun h => hl h.symm
        have q2 : (l == [71, 50, 56]) = false := by rw [beq_eq_false_iff_ne]; exact hl
        clear hl
        go_wp2
        go_round
        case rel => exact ⟨2, by omega, by omega, by go_num, fun j h1 hj => (Nat.lt_succ_iff_lt_or_eq.1 hj).elim (HG.out j h1) fun e => by rw [e]; exact HL.out⟩
        case measure => simp [intOf]
    · subst e
      by_cases hl : l = [71, 49]
      · subst hl
        go_wp2
        go_ret
        exact ⟨ret_int (by decide), rfl⟩
      · have HL : Hid (l ≠ firstW 2) := hl
        have q1 : (([71, 49] : List UInt8) == l) = false := by rw [beq_eq_false_iff_ne]; exact fun h => hl h.symm
        have q2 : (l == [71, 49]) = false := by rw [beq_eq_false_iff_ne]; exact hl
        clear hl
        go_wp2
        go_round
        case rel => exact ⟨3, by omega, by omega, by go_num, fun j h1 hj => (Nat.lt_succ_iff_lt_or_eq.1 hj).elim (HG.out j h1) fun e => by rw [e]; exact HL.out⟩
        case measure => simp [intOf]
    · subst e
      by_cases hl : l = [77, 49]
      · subst hl
        go_wp2
        go_ret
        exact ⟨ret_int (by decide), rfl⟩
      · have HL : Hid (l ≠ firstW 3) := hl
        have q1 : (([77, 49] : List UInt8) == l) = false := by rw [beq_eq_false_iff_ne]; exact fun h => hl h.symm
        have q2 : (l == [77, 49]) = false := by rw [beq_eq_false_iff_ne]; exact hl
        clear hl
        go_wp2
        go_round
        case rel => exact ⟨4, by omega, by omega, by go_num, fun j h1 hj => (Nat.lt_succ_iff_lt_or_eq.1 hj).elim (HG.out j h1) fun e => by rw [e]; exact HL.out⟩
        case measure => simp [intOf]
    · subst e
      by_cases hl : l = [77, 50]
      · subst hl
        go_wp2
        go_ret
        exact ⟨ret_int (by decide), rfl⟩
      · have HL : Hid (l ≠ firstW 4) := hl
        have q1 : (([77, 50] : List UInt8) == l) = false := by rw [beq_eq_false_iff_ne]; exact fun h => hl h.symm
        have q2 : (l == [77, 50]) = false := by rw [beq_eq_false_iff_ne]; exact hl
        clear hl
        go_wp2
        go_round
        case rel => exact ⟨5, by omega, by omega, by go_num, fun j h1 hj => (Nat.lt_succ_iff_lt_or_eq.1 hj).elim (HG.out j h1) fun e => by rw [e]; exact HL.out⟩
        case measure => simp [intOf]
    · subst e
      by_cases hl : l = [77, 51]
      · subst hl
        go_wp2
        go_ret
        exact ⟨ret_int (by decide), rfl⟩
      · have HL : Hid (l ≠ firstW 5) := hl
        have q1 : (([77, 51] : List UInt8) == l) = false := by rw [beq_eq_false_iff_ne]; exact fun h => hl h.symm
        have q2 : (l == [77, 51]) = false := by rw [beq_eq_false_iff_ne]; exact hl
        clear hl
        go_wp2
        go_round
        case rel => exact ⟨6, by omega, by omega, by go_num, fun j h1 hj => (Nat.lt_succ_iff_lt_or_eq.1 hj).elim (HG.out j h1) fun e => by rw [e]; exact HL.out⟩
        case measure => simp [intOf]
    · subst e
      by_cases hl : l = [77, 49, 48, 52]
      · subst hl
        go_wp2
        go_ret
        exact ⟨ret_int (by decide), rfl⟩
      · have HL : Hid (l ≠ firstW 6) := hl
        have q1 : (([77, 49, 48, 52] : List UInt8) == l) = false := by rw [beq_eq_false_iff_ne]; exact fun h => hl h.symm
        have q2 : (l == [77, 49, 48, 52]) = false := by rw [beq_eq_false_iff_ne]; exact hl
        clear hl
        go_wp2
        go_round
        case rel => exact ⟨7, by omega, by omega, by go_num, fun j h1 hj => (Nat.lt_succ_iff_lt_or_eq.1 hj).elim (HG.out j h1) fun e => by rw [e]; exact HL.out⟩
        case measure => simp [intOf]
    · subst e
      by_cases hl : l = [71, 52]
      · subst hl
        go_wp2
        go_ret
        exact ⟨ret_int (by decide), rfl⟩
      · have HL : Hid (l ≠ firstW 7) := hl
        have q1 : (([71, 52] : List UInt8) == l) = false := by rw [beq_eq_false_iff_ne]; exact fun h => hl h.symm
        have q2 : (l == [71, 52]) = false := by rw [beq_eq_false_iff_ne]; exact hl
        clear hl
        go_wp2
        go_round
        case rel => exact ⟨8, by omega, by omega, by go_num, fun j h1 hj => (Nat.lt_succ_iff_lt_or_eq.1 hj).elim (HG.out j h1) fun e => by rw [e]; exact HL.out⟩
        case measure => simp [intOf]
    · subst e
      by_cases hl : l = [77, 49, 48, 54]
      · subst hl
        go_wp2
        go_ret
        exact ⟨ret_int (by decide), rfl⟩
      · have HL : Hid (l ≠ firstW 8) := hl
        have q1 : (([77, 49, 48, 54] : List UInt8) == l) = false := by rw [beq_eq_false_iff_ne]; exact fun h => hl h.symm
        have q2 : (l == [77, 49, 48, 54]) = false := by rw [beq_eq_false_iff_ne]; exact hl
        clear hl
        go_wp2
        go_round
        case rel => exact ⟨9, by omega, by omega, by go_num, fun j h1 hj => (Nat.lt_succ_iff_lt_or_eq.1 hj).elim (HG.out j h1) fun e => by rw [e]; exact HL.out⟩
        case measure => simp [intOf]
    · subst e
      have HZ : Hid (kindR l = 0) := kind_miss fun j h1 h8 => HG.out j h1 (by omega)
      go_wp2
      go_ret
      exact ⟨ret_int (by rw [HZ.out]; rfl), rfl⟩

theorem commandOf_any (k x y z v : Int) (w : World) : Calls Tryd.prog 44 #[.int .i64 k, n4 x y z v] w fun e w' => e = .returned (cm k x y z v) ∧ w' = (w.alloc (o4 x y z v)).alloc (o5 k x y z v) := by
  go_enter Tryd.func44, Tryd.ntmps44
  go_wp2
  refine bodyPost_ret (v := cm k x y z v) (by simp [results, Tryd.results44, go_sem]) rfl ⟨rfl, rfl⟩

/-! ### the reader -/
/-- A reader in its block. -/
abbrev Rb (r : Nat) (s : Rd) (w : World) : Prop := Bk r [sA s.1, .bool s.2] w
theorem isDone_any (r : Nat) (s : Rd) (w : World) (h : Rb r s w) : Calls Tryd.prog 45 #[ptr r] w fun e w' => e = .returned (.bool (doneR s)) ∧ w' = w := by
  obtain ⟨l, f⟩ := s
  have c0 := h.c 0 rfl
  have c1 := h.c 1 rfl
  clear h
  simp only at c0 c1
  cases f with
  | true =>
    go_enter Tryd.func45, Tryd.ntmps45
    go_wp2
    go_ret
    exact ⟨rfl, rfl⟩
  | false =>
    by_cases hl : l = []
    · subst hl
      go_enter Tryd.func45, Tryd.ntmps45
      go_wp2
      go_ret
      exact ⟨rfl, rfl⟩
    · have HD : Hid (doneR (l, false) = false) := by show doneR (l, false) = false; simp [doneR, hl]
      have p1 : (([] : List UInt8) == l) = false := by rw [beq_eq_false_iff_ne]; exact fun h => hl h.symm
      have p2 : (l == []) = false := by rw [beq_eq_false_iff_ne]; exact hl
      have p3 : l.isEmpty = false := by simpa using hl
      clear hl
      go_enter Tryd.func45, Tryd.ntmps45
      go_wp2
      go_ret
      exact ⟨ret_bool HD.out.symm, rfl⟩
end Go.Proofs.YtiafppmpjmpdmaaDoor
