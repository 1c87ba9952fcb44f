import Derived.Test.YtgelbndbkmedlaaGf
import Derived.Deep.RegionWith

/- ware.isLabel walked. -/
namespace Go.Proofs.Ytgelbndbkmedlaa
open Go.RowKit
/-- May this byte stand at place k of a label? -/
def okAt (b : UInt8) (k : Nat) : Bool :=
  decide (97 ≤ b.toNat ∧ b.toNat ≤ 122) || (decide (0 < k) && decide (48 ≤ b.toNat ∧ b.toNat ≤ 57))
/-- May a text be a label? -/
def lab (s : ByteArray) : Bool := decide (1 ≤ s.size) && decide (s.size ≤ 16) && decide (∀ k (h : k < s.size), okAt (s[k]'h) k = true)

theorem lab_short {s : ByteArray} (h : s.size < 1) : lab s = false := by
  unfold lab; rw [decide_eq_false (by omega : ¬ 1 ≤ s.size)]; simp
theorem lab_long {s : ByteArray} (h : 16 < s.size) : lab s = false := by
  unfold lab; rw [decide_eq_false (by omega : ¬ s.size ≤ 16)]; simp
theorem lab_bad {s : ByteArray} {k : Nat} (h : k < s.size) (hb : okAt (s[k]'h) k = false) : lab s = false := by
  unfold lab
  rw [decide_eq_false (p := ∀ k (h : k < s.size), okAt (s[k]'h) k = true) (fun hh => by rw [hh k h] at hb; cases hb)]; simp
theorem lab_good {s : ByteArray} (h1 : 1 ≤ s.size) (h2 : s.size ≤ 16) (h : ∀ k (h : k < s.size), okAt (s[k]'h) k = true) : lab s = true := by
  unfold lab; rw [decide_eq_true h1, decide_eq_true h2, decide_eq_true h]; rfl
theorem lab_in {s : ByteArray} (h : lab s = true) : 1 ≤ s.size ∧ s.size ≤ 16 := by
  unfold lab at h
  simp only [Bool.and_eq_true, decide_eq_true_eq] at h
  exact h.1

theorem okAt_letter {b : UInt8} {k : Nat} (h1 : 97 ≤ b.toNat) (h2 : b.toNat ≤ 122) : okAt b k = true := by
  unfold okAt; rw [decide_eq_true (⟨h1, h2⟩ : 97 ≤ b.toNat ∧ b.toNat ≤ 122)]; rfl
theorem okAt_digit {b : UInt8} {k : Nat} (h0 : 0 < k) (h1 : 48 ≤ b.toNat) (h2 : b.toNat ≤ 57) : okAt b k = true := by
  unfold okAt; rw [decide_eq_true (⟨h1, h2⟩ : 48 ≤ b.toNat ∧ b.toNat ≤ 57), decide_eq_true h0]; simp
theorem okAt_zero {b : UInt8} {k : Nat} (h0 : k = 0) (h : b.toNat < 97 ∨ 122 < b.toNat) : okAt b k = false := by
  unfold okAt; rw [decide_eq_false (by omega : ¬ (97 ≤ b.toNat ∧ b.toNat ≤ 122)), decide_eq_false (by omega : ¬ 0 < k)]; rfl
theorem okAt_no {b : UInt8} {k : Nat} (h : b.toNat < 97 ∨ 122 < b.toNat) (h2 : b.toNat < 48 ∨ 57 < b.toNat) : okAt b k = false := by
  unfold okAt; rw [decide_eq_false (by omega : ¬ (97 ≤ b.toNat ∧ b.toNat ≤ 122)), decide_eq_false (by omega : ¬ (48 ≤ b.toNat ∧ b.toNat ≤ 57))]; simp

/-- One byte more is good. -/
theorem good_succ {s : ByteArray} {pos : Nat} (hp : pos < s.size) (h : ∀ k (h : k < s.size), k < pos → okAt (s[k]'h) k = true) (hb : okAt (s[pos]'hp) pos = true) :
    ∀ k (h : k < s.size), k < pos + 1 → okAt (s[k]'h) k = true := fun k hk hlt => by
  by_cases e : k = pos
  · subst e; exact hb
  · exact h k hk (by omega)


theorem okAt_in {b : UInt8} {k : Nat} (h : inR 97 122 (b.toNat : Int) = true) : okAt b k = true := okAt_letter (by have := (inR_iff.1 h).1; omega) (by have := (inR_iff.1 h).2; omega)
theorem inR_out {lo hi x : Int} (h : inR lo hi x = false) : x < lo ∨ hi < x := by
  by_cases h1 : lo ≤ x
  · by_cases h2 : x ≤ hi
    · rw [inR_yes h1 h2] at h; cases h
    · omega
  · omega

set_option maxHeartbeats 3200000 in
theorem isLabel_any (s : ByteArray) (w : World) (hs : s.size ≤ maxLen) :
    Calls Try.prog 78 #[.string s] w fun e w' => e = .returned (.bool (lab s)) ∧ Below w.heap.size w w' := by
  unfold maxLen at hs
  by_cases h1 : s.size < 1
  · rw [lab_short h1]
    go_enter Try.func78, Try.ntmps78
    go_wp2
    go_ret
    exact ⟨rfl, Below.refl _ _⟩
  by_cases h2 : 16 < s.size
  · rw [lab_long h2]
    go_enter Try.func78, Try.ntmps78
    go_wp2
    go_ret
    exact ⟨rfl, Below.refl _ _⟩
  go_enter Try.func78, Try.ntmps78
  go_wp2_with (go_at_call 99; refine (within_rune _ _ _).mono ?_; rintro e w1 ⟨rfl, rfl⟩)
  obtain ⟨W, hW⟩ : ∃ W, W = (((w.alloc (.cells #[.int .i32 97] 21)).alloc (.cells #[.int .i32 122] 21)).alloc (.cells #[.int .i32 48] 21)).alloc (.cells #[.int .i32 57] 21) := ⟨_, rfl⟩
  have hB : Below w.heap.size w W := by rw [hW]; exact ((((Below.refl _ _).alloc (Nat.le_refl _) _).alloc (by simp) _).alloc (by simp; omega) _).alloc (by simp; omega) _
  have hc0 : ∀ pos, (W.iter s pos).cell? ⟨w.heap.size, 0, none⟩ = some (.int .i32 97) := fun pos => by
    refine cell_later ((Below.refl W.heap.size W).alloc (Nat.le_refl _) _) ?_
    rw [hW]; go_simp
  have hc1 : ∀ pos, (W.iter s pos).cell? ⟨w.heap.size + 1, 0, none⟩ = some (.int .i32 122) := fun pos => by
    refine cell_later ((Below.refl W.heap.size W).alloc (Nat.le_refl _) _) ?_
    rw [hW]; go_simp
  have hd0 : ∀ pos, (W.iter s pos).cell? ⟨w.heap.size + 1 + 1, 0, none⟩ = some (.int .i32 48) := fun pos => by
    refine cell_later ((Below.refl W.heap.size W).alloc (Nat.le_refl _) _) ?_
    rw [hW]; go_simp
  have hd1 : ∀ pos, (W.iter s pos).cell? ⟨w.heap.size + 1 + 1 + 1, 0, none⟩ = some (.int .i32 57) := fun pos => by
    refine cell_later ((Below.refl W.heap.size W).alloc (Nat.le_refl _) _) ?_
    rw [hW]; go_simp
  have hWs : w.heap.size + 1 + 1 + 1 + 1 = W.heap.size := by rw [hW]; simp
  rw [← hW, hWs]
  clear hW hWs
  go_loopw [5] (fun _ wr => ∃ pos : Nat, pos ≤ s.size ∧ wr = W.iter s pos ∧ ∀ k (h : k < s.size), k < pos → okAt (s[k]'h) k = true) (fun _ wr => s.size - wr.iterPos W.heap.size)
  case atStart => exact ⟨0, Nat.zero_le _, rfl, fun k _ h => absurd h (Nat.not_lt_zero _)⟩
  case round =>
    obtain ⟨pos, hpos, rfl, hgood⟩ := hrel
    have HG : Hid (∀ k (h : k < s.size), k < pos → okAt (s[k]'h) k = true) := hgood
    clear hgood
    by_cases hp : pos < s.size
    · by_cases ha : (s[pos]'hp).toNat < 128
      · have hnx : ∀ ty, (Instr.next (.pointer (some ⟨W.heap.size, 0, none⟩)) true ty).run Try.prog (W.iter s pos) = _ := fun ty => run_next_ascii W s pos ty hp ha
        obtain ⟨c, hc⟩ : ∃ c : UInt8, c = s[pos]'hp := ⟨_, rfl⟩
        have HC : Hid (c = s[pos]'hp) := hc
        rw [← hc] at hnx ha
        clear hc
        cases hl : inR 97 122 (c.toNat : Int) with
        | true =>
          go_wp2_with (go_at_call 114; refine (in_rune' (c.toNat : Int) 97 122 true hl _ _ _ (hc0 _) (hc1 _)).mono ?_; rintro e w2 ⟨rfl, rfl⟩)
          go_roundw
          case rel => exact ⟨pos + 1, by omega, rfl, good_succ hp HG.out (by rw [← HC.out]; exact okAt_in hl)⟩
          case measure => simp; omega
        | false =>
          by_cases h0 : pos = 0
          · have HB : Hid (lab s = false) := lab_bad hp (by rw [← HC.out]; exact okAt_zero h0 (by have := inR_out hl; omega))
            have h00 : ((pos : Int) == 0) = true := by simp; omega
            clear h0
            go_wp2_with (go_at_call 114; refine (in_rune' (c.toNat : Int) 97 122 false hl _ _ _ (hc0 _) (hc1 _)).mono ?_; rintro e w2 ⟨rfl, rfl⟩)
            go_ret
            exact ⟨ret_bool HB.out.symm, hB.alloc hB.size _⟩
          · have h00 : ((pos : Int) == 0) = false := by simp; omega
            have h01 : 0 < pos := by omega
            clear h0
            cases hd : inR 48 57 (c.toNat : Int) with
            | true =>
              go_wp2_with fail
              refine (in_rune' (c.toNat : Int) 97 122 false hl _ _ _ (hc0 _) (hc1 _)).mono ?_
              rintro e w2 ⟨rfl, rfl⟩
              go_wp2_with fail
              refine (in_rune' (c.toNat : Int) 48 57 true hd _ _ _ (hd0 _) (hd1 _)).mono ?_
              rintro e w2 ⟨rfl, rfl⟩
              go_wp2
              go_roundw
              case rel => exact ⟨pos + 1, by omega, rfl, good_succ hp HG.out (by rw [← HC.out]; exact okAt_digit h01 (by have := (inR_iff.1 hd).1; omega) (by have := (inR_iff.1 hd).2; omega))⟩
              case measure => simp; omega
            | false =>
              have HB : Hid (lab s = false) := lab_bad hp (by rw [← HC.out]; exact okAt_no (by have := inR_out hl; omega) (by have := inR_out hd; omega))
              go_wp2_with fail
              refine (in_rune' (c.toNat : Int) 97 122 false hl _ _ _ (hc0 _) (hc1 _)).mono ?_
              rintro e w2 ⟨rfl, rfl⟩
              go_wp2_with fail
              refine (in_rune' (c.toNat : Int) 48 57 false hd _ _ _ (hd0 _) (hd1 _)).mono ?_
              rintro e w2 ⟨rfl, rfl⟩
              go_wp2
              go_ret
              exact ⟨ret_bool HB.out.symm, hB.alloc hB.size _⟩
      · have hnx : ∀ ty, (Instr.next (.pointer (some ⟨W.heap.size, 0, none⟩)) true ty).run Try.prog (W.iter s pos) = _ := fun ty => run_next_any W s pos ty hp
        have HB : Hid (lab s = false) := lab_bad hp (okAt_no (by omega) (by omega))
        have hd := (decode_high s pos hp (by omega)).1
        generalize (Utf8.decode s pos).1 = c at *
        generalize (Utf8.decode s pos).2 = d at *
        have hl : inR 97 122 (c : Int) = false := inR_no (.inr (by omega))
        have hd2 : inR 48 57 (c : Int) = false := inR_no (.inr (by omega))
        by_cases h0 : pos = 0
        · have h00 : ((pos : Int) == 0) = true := by simp; omega
          clear h0
          go_wp2_with (go_at_call 114; refine (in_rune' (c : Int) 97 122 false hl _ _ _ (hc0 _) (hc1 _)).mono ?_; rintro e w2 ⟨rfl, rfl⟩)
          go_ret
          exact ⟨ret_bool HB.out.symm, hB.alloc hB.size _⟩
        · have h00 : ((pos : Int) == 0) = false := by simp; omega
          clear h0
          go_wp2_with fail
          refine (in_rune' (c : Int) 97 122 false hl _ _ _ (hc0 _) (hc1 _)).mono ?_
          rintro e w2 ⟨rfl, rfl⟩
          go_wp2_with fail
          refine (in_rune' (c : Int) 48 57 false hd2 _ _ _ (hd0 _) (hd1 _)).mono ?_
          rintro e w2 ⟨rfl, rfl⟩
          go_wp2
          go_ret
          exact ⟨ret_bool HB.out.symm, hB.alloc hB.size _⟩
    · have hnx : ∀ ty, (Instr.next (.pointer (some ⟨W.heap.size, 0, none⟩)) true ty).run Try.prog (W.iter s pos) = _ := fun ty => run_next_end W s pos ty hp
      go_wp2
      go_ret
      exact ⟨ret_bool (lab_good (by omega) (by omega) (fun k h => HG.out k h (by omega))).symm, hB.alloc hB.size _⟩

end Go.Proofs.Ytgelbndbkmedlaa

/- Wares. -/
namespace Go.Proofs.Ytgelbndbkmedlaa
open Go.RowKit
/-- A ware. -/
structure Wr where
  name : ByteArray
  kind : Int
  rows : Int
  cols : Int
  x : Int
  y : Int
  pitch : Int
  wid : Int
  len : Int
  hei : Int
  deep : Int
  cap : Int
abbrev wcs (a : Wr) : Array Value := #[.string a.name, .int .i64 a.kind, .int .i64 a.rows, .int .i64 a.cols, .int .i64 a.x, .int .i64 a.y, .int .i64 a.pitch, .int .i64 a.wid, .int .i64 a.len, .int .i64 a.hei, .int .i64 a.deep, .int .i64 a.cap]
abbrev wv (a : Wr) : Value := .agg (wcs a)
abbrev wobj (a : Wr) : Obj := .cells (wcs a) 77

theorem new_three (x y z : Int) (w : World) (t : Nat) : IsInts [x, y, z] (.slice (some ⟨w.heap.size, 0, none⟩) 3 3) (w.alloc (.cells #[.int .i64 x, .int .i64 y, .int .i64 z] t)) :=
  ⟨_, rfl, fun k hk => by
    rcases (show k = 0 ∨ k = 1 ∨ k = 2 by simp at hk; omega) with e | e | e
    all_goals (subst e; simp [go_sem])⟩
theorem every_v (xs : List Int) (lo hi : Int) (b : Bool) (hb : xs.all (inR lo hi) = b) (v c : Value) (w : World) (hn : xs.length ≤ 100) (hc : IsClo lo hi c w) (hv : IsInts xs v w) :
    Calls Try.prog 79 #[c, v] w fun e w' => e = .returned (.bool b) ∧ w' = w := by
  subst hb; exact every_is xs lo hi v c w hn hc hv

/-- The least pitch. -/
def loP (a : Wr) : Int := if 1 < a.rows * a.cols then 1 else 0
def loC (a : Wr) : Int := if a.kind = 3 then 0 else 1
def hiC (a : Wr) : Int := if a.kind = 3 then 0 else 1000000000
/-- Are all numbers behind the counts in their ranges? -/
def rangeOk (a : Wr) : Bool := [a.x, a.y, a.deep].all (inR 0 200000) && [a.pitch].all (inR (loP a) 200000) && [a.wid, a.len, a.hei].all (inR 1 200000) && [a.cap].all (inR (loC a) (hiC a))

def measV (a : Wr) (lo hlo hhi : Int) (b1 c1 c2 c3 : Bool) (B : Nat) (d : Nat) (v : Value) (w : World) : Prop :=
  match d with
  | 16 => IsClo 0 200000 v w
  | 17 => v = .pointer (some ⟨B, 4, none⟩)
  | 18 => v = .int .i64 a.x
  | 19 => v = .pointer (some ⟨B, 5, none⟩)
  | 20 => v = .int .i64 a.y
  | 21 => v = .pointer (some ⟨B, 10, none⟩)
  | 22 => v = .int .i64 a.deep
  | 23 => IsInts [a.x, a.y, a.deep] v w
  | 24 => v = .bool b1
  | 25 => v = .bool b1
  | 26 => b1 = true → v = .int .i64 lo
  | 27 => b1 = true → IsClo lo 200000 v w
  | 28 => b1 = true → v = .pointer (some ⟨B, 6, none⟩)
  | 29 => b1 = true → v = .int .i64 a.pitch
  | 30 => b1 = true → IsInts [a.pitch] v w
  | 31 => b1 = true → v = .bool c1
  | 32 => v = .bool (b1 && c1)
  | 33 => v = .bool (b1 && c1)
  | 34 => (b1 && c1) = true → IsClo 1 200000 v w
  | 35 => (b1 && c1) = true → v = .pointer (some ⟨B, 7, none⟩)
  | 36 => (b1 && c1) = true → v = .int .i64 a.wid
  | 37 => (b1 && c1) = true → v = .pointer (some ⟨B, 8, none⟩)
  | 38 => (b1 && c1) = true → v = .int .i64 a.len
  | 39 => (b1 && c1) = true → v = .pointer (some ⟨B, 9, none⟩)
  | 40 => (b1 && c1) = true → v = .int .i64 a.hei
  | 41 => (b1 && c1) = true → IsInts [a.wid, a.len, a.hei] v w
  | 42 => (b1 && c1) = true → v = .bool c2
  | 43 => v = .bool (b1 && c1 && c2)
  | 44 => v = .bool (b1 && c1 && c2)
  | 45 => (b1 && c1 && c2) = true → IsClo hlo hhi v w
  | 46 => (b1 && c1 && c2) = true → v = .pointer (some ⟨B, 11, none⟩)
  | 47 => (b1 && c1 && c2) = true → v = .int .i64 a.cap
  | 48 => (b1 && c1 && c2) = true → IsInts [a.cap] v w
  | 49 => (b1 && c1 && c2) = true → v = .bool c3
  | 50 => v = .bool (b1 && c1 && c2 && c3)
  | 2 => v = .bool (b1 && c1 && c2 && c3)
  | _ => True
theorem measV_mono (a : Wr) (lo hlo hhi : Int) (b1 c1 c2 c3 : Bool) (B : Nat) (d : Nat) (v : Value) (w w' : World) (h : measV a lo hlo hhi b1 c1 c2 c3 B d v w) (hb : Below w.heap.size w w') : measV a lo hlo hhi b1 c1 c2 c3 B d v w' := by
  unfold measV at h ⊢
  split <;> simp only [] at h <;> first | exact h | exact h.later hb | exact fun g => (h g).later hb

set_option maxHeartbeats 3200000 in
theorem isMeasured_00 (a : Wr) (w : World) (hr0 : 0 ≤ a.rows * a.cols) (hr1 : a.rows * a.cols ≤ 384) (hm : a.rows * a.cols ≤ 1) (hk : (a.kind == 3) = false) (b1 c1 c2 c3 : Bool)
    (hb1 : [a.x, a.y, a.deep].all (inR 0 200000) = b1) (hc1 : [a.pitch].all (inR 0 200000) = c1) (hc2 : [a.wid, a.len, a.hei].all (inR 1 200000) = c2) (hc3 : [a.cap].all (inR 1 1000000000) = c3) :
    Calls Try.prog 81 #[wv a] w fun e w' => e = .returned (.bool (b1 && c1 && c2 && c3)) ∧ Below w.heap.size w w' := by
  go_enter Try.func81, Try.ntmps81
  go_wp2_with (go_at_call 80; refine (within_int _ _ _).mono ?_; rintro e w2 ⟨rfl, rfl⟩)
  obtain ⟨W, hW⟩ : ∃ W, W = (((w.alloc (wobj a)).alloc (.cells #[.int .i64 1] 3)).alloc (.cells #[.int .i64 1000000000] 3)) := ⟨_, rfl⟩
  have hB : Below (w.alloc (wobj a)).heap.size (w.alloc (wobj a)) W := by
    rw [hW]
    repeat (first | exact Below.refl _ _ | refine Below.alloc ?_ (by simp; omega) _ | refine Below.alloc ?_ (by simp) _)
  have hp0 : W.cell? ⟨w.heap.size + 1, 0, none⟩ = some (.int .i64 1) := by rw [hW]; go_simp
  have hp1 : W.cell? ⟨w.heap.size + 1 + 1, 0, none⟩ = some (.int .i64 1000000000) := by rw [hW]; go_simp
  rw [← hW]
  clear hW
  refine region_inv [false, false, true, false, false, false, false, false, false, false, false, false, false, false, false, false, true, true, true, true, true, true, true, true, true, true, true, true, true, true, true, true, true, true, true, true, true, true, true, true, true, true, true, true, true, true, true, true, true, true, true]
    [(16, [], none), (17, [], none), (18, [17], none), (19, [], none), (20, [19], none), (21, [], none), (22, [21], none), (23, [18, 20, 22], none), (24, [16, 23], none), (25, [24], none), (26, [25], some (25, true)), (27, [25, 26], some (25, true)), (28, [25], some (25, true)), (29, [25, 28], some (25, true)), (30, [25, 29], some (25, true)), (31, [25, 27, 30], some (25, true)), (32, [25, 31], none), (33, [32], none), (34, [33], some (33, true)), (35, [33], some (33, true)), (36, [33, 35], some (33, true)), (37, [33], some (33, true)), (38, [33, 37], some (33, true)), (39, [33], some (33, true)), (40, [33, 39], some (33, true)), (41, [33, 36, 38, 40], some (33, true)), (42, [33, 34, 41], some (33, true)), (43, [33, 42], none), (44, [43], none), (45, [44], some (44, true)), (46, [44], some (44, true)), (47, [44, 46], some (44, true)), (48, [44, 47], some (44, true)), (49, [44, 45, 48], some (44, true)), (50, [44, 49], none), (2, [50], none)]
    (measV a 0 1 1000000000 b1 c1 c2 c3 w.heap.size) (by kernel_rfl) (by kernel_rfl) (measV_mono a 0 1 1000000000 b1 c1 c2 c3 w.heap.size) ?_ ?_
  · refine ⟨?_, ?_, ?_, ?_, ?_, ?_, ?_, ?_, ?_, ?_, ?_, ?_, ?_, ?_, ?_, ?_, ?_, ?_, ?_, ?_, ?_, ?_, ?_, ?_, ?_, ?_, ?_, ?_, ?_, ?_, ?_, ?_, ?_, ?_, ?_, ?_, trivial⟩
    · intro f w1 hb _ K hK
      simp only [over, overL, Nat.reduceAdd]
      go_simp
      refine (within_is _ _ _).mono ?_
      rintro e w2 ⟨v, rfl, hv, hb2⟩
      exact hK _ _ ⟨_, hv, by simp only [over, overL, Nat.reduceAdd]; rfl, hb2⟩
    · intro f w1 hb _ K hK
      simp only [over, overL, Nat.reduceAdd]
      go_simp
      exact hK _ _ ⟨_, rfl, by simp only [over, overL, Nat.reduceAdd]; rfl, Below.refl _ _⟩
    · intro f w1 hb ⟨h17, _⟩ K hK
      have h17 : f 17 = _ := h17
      have cl : w1.cell? ⟨w.heap.size, 4, none⟩ = some (.int .i64 a.x) := cell_later hb (cell_later hB (by go_simp))
      simp only [over, overL, Nat.reduceAdd, h17]
      go_simp
      exact hK _ _ ⟨_, rfl, by simp only [over, overL, Nat.reduceAdd, h17]; rfl, Below.refl _ _⟩
    · intro f w1 hb _ K hK
      simp only [over, overL, Nat.reduceAdd]
      go_simp
      exact hK _ _ ⟨_, rfl, by simp only [over, overL, Nat.reduceAdd]; rfl, Below.refl _ _⟩
    · intro f w1 hb ⟨h19, _⟩ K hK
      have h19 : f 19 = _ := h19
      have cl : w1.cell? ⟨w.heap.size, 5, none⟩ = some (.int .i64 a.y) := cell_later hb (cell_later hB (by go_simp))
      simp only [over, overL, Nat.reduceAdd, h19]
      go_simp
      exact hK _ _ ⟨_, rfl, by simp only [over, overL, Nat.reduceAdd, h19]; rfl, Below.refl _ _⟩
    · intro f w1 hb _ K hK
      simp only [over, overL, Nat.reduceAdd]
      go_simp
      exact hK _ _ ⟨_, rfl, by simp only [over, overL, Nat.reduceAdd]; rfl, Below.refl _ _⟩
    · intro f w1 hb ⟨h21, _⟩ K hK
      have h21 : f 21 = _ := h21
      have cl : w1.cell? ⟨w.heap.size, 10, none⟩ = some (.int .i64 a.deep) := cell_later hb (cell_later hB (by go_simp))
      simp only [over, overL, Nat.reduceAdd, h21]
      go_simp
      exact hK _ _ ⟨_, rfl, by simp only [over, overL, Nat.reduceAdd, h21]; rfl, Below.refl _ _⟩
    · intro f w1 hb ⟨h18, h20, h22, _⟩ K hK
      have h18 : f 18 = _ := h18
      have h20 : f 20 = _ := h20
      have h22 : f 22 = _ := h22
      simp only [over, overL, Nat.reduceAdd, h18, h20, h22]
      go_simp
      exact hK _ _ ⟨_, new_three _ _ _ _ _, by simp only [over, overL, Nat.reduceAdd, h18, h20, h22]; rfl, (Below.refl _ _).alloc (Nat.le_refl _) _⟩
    · intro f w1 hb ⟨h16, h23, _⟩ K hK
      simp only [over, overL, Nat.reduceAdd]
      go_simp
      refine (every_v [a.x, a.y, a.deep] 0 200000 b1 hb1 _ _ _ (by simp) h16 h23).mono ?_
      rintro e w2 ⟨rfl, hw⟩
      exact hK _ _ ⟨_, rfl, by simp only [over, overL, Nat.reduceAdd]; rfl, hw ▸ Below.refl _ _⟩
    · intro f w1 hb ⟨h24, _⟩ K hK
      have h24 : f 24 = _ := h24
      simp only [over, overL, Nat.reduceAdd, h24]
      go_simp
      exact hK _ _ ⟨_, rfl, by simp only [over, overL, Nat.reduceAdd, h24]; rfl, Below.refl _ _⟩
    · intro f w1 hb ⟨h25, _⟩
      have h25 : f 25 = _ := h25
      refine ⟨fun hg => ?_, fun hg => ?_⟩
      rotate_left
      · intro hG; exact absurd (h25.trans (by rw [hG])) hg
      have hG := Value.bool.inj (h25.symm.trans hg)
      intro K hK
      simp only [over, overL, Nat.reduceAdd, h25, hG]
      go_simp
      exact hK _ _ ⟨_, (fun _ => rfl), by simp only [over, overL, Nat.reduceAdd, h25, hG]; rfl, Below.refl _ _⟩
    · intro f w1 hb ⟨h25, h26, _⟩
      have h25 : f 25 = _ := h25
      refine ⟨fun hg => ?_, fun hg => ?_⟩
      rotate_left
      · intro hG; exact absurd (h25.trans (by rw [hG])) hg
      have hG := Value.bool.inj (h25.symm.trans hg)
      intro K hK
      have h26 : f 26 = _ := h26 hG
      simp only [over, overL, Nat.reduceAdd, h25, h26, hG]
      go_simp
      refine (within_is _ _ _).mono ?_
      rintro e w2 ⟨v, rfl, hv, hb2⟩
      exact hK _ _ ⟨_, (fun _ => hv), by simp only [over, overL, Nat.reduceAdd, h25, h26, hG]; rfl, hb2⟩
    · intro f w1 hb ⟨h25, _⟩
      have h25 : f 25 = _ := h25
      refine ⟨fun hg => ?_, fun hg => ?_⟩
      rotate_left
      · intro hG; exact absurd (h25.trans (by rw [hG])) hg
      have hG := Value.bool.inj (h25.symm.trans hg)
      intro K hK
      simp only [over, overL, Nat.reduceAdd, h25, hG]
      go_simp
      exact hK _ _ ⟨_, (fun _ => rfl), by simp only [over, overL, Nat.reduceAdd, h25, hG]; rfl, Below.refl _ _⟩
    · intro f w1 hb ⟨h25, h28, _⟩
      have h25 : f 25 = _ := h25
      refine ⟨fun hg => ?_, fun hg => ?_⟩
      rotate_left
      · intro hG; exact absurd (h25.trans (by rw [hG])) hg
      have hG := Value.bool.inj (h25.symm.trans hg)
      intro K hK
      have h28 : f 28 = _ := h28 hG
      have cl : w1.cell? ⟨w.heap.size, 6, none⟩ = some (.int .i64 a.pitch) := cell_later hb (cell_later hB (by go_simp))
      simp only [over, overL, Nat.reduceAdd, h25, h28, hG]
      go_simp
      exact hK _ _ ⟨_, (fun _ => rfl), by simp only [over, overL, Nat.reduceAdd, h25, h28, hG]; rfl, Below.refl _ _⟩
    · intro f w1 hb ⟨h25, h29, _⟩
      have h25 : f 25 = _ := h25
      refine ⟨fun hg => ?_, fun hg => ?_⟩
      rotate_left
      · intro hG; exact absurd (h25.trans (by rw [hG])) hg
      have hG := Value.bool.inj (h25.symm.trans hg)
      intro K hK
      have h29 : f 29 = _ := h29 hG
      simp only [over, overL, Nat.reduceAdd, h25, h29, hG]
      go_simp
      exact hK _ _ ⟨_, (fun _ => new_one _ _ _), by simp only [over, overL, Nat.reduceAdd, h25, h29, hG]; rfl, (Below.refl _ _).alloc (Nat.le_refl _) _⟩
    · intro f w1 hb ⟨h25, h27, h30, _⟩
      have h25 : f 25 = _ := h25
      refine ⟨fun hg => ?_, fun hg => ?_⟩
      rotate_left
      · intro hG; exact absurd (h25.trans (by rw [hG])) hg
      have hG := Value.bool.inj (h25.symm.trans hg)
      intro K hK
      replace h27 := h27 hG
      replace h30 := h30 hG
      simp only [over, overL, Nat.reduceAdd, h25, hG]
      go_simp
      refine (every_v [a.pitch] 0 200000 c1 hc1 _ _ _ (by simp) h27 h30).mono ?_
      rintro e w2 ⟨rfl, hw⟩
      exact hK _ _ ⟨_, (fun _ => rfl), by simp only [over, overL, Nat.reduceAdd, h25, hG]; rfl, hw ▸ Below.refl _ _⟩
    · intro f w1 hb ⟨h25, h31, _⟩ K hK
      have h25 : f 25 = _ := h25
      have h31 : b1 = true → f 31 = _ := h31
      cases hG : b1 with
      | false =>
        rw [hG] at h25
        simp only [over, overL, Nat.reduceAdd, h25]
        go_simp
        exact hK _ _ ⟨.bool false, by simp [measV, hG], by simp only [over, overL, Nat.reduceAdd, h25]; rfl, Below.refl _ _⟩
      | true =>
        have h31 := h31 hG
        rw [hG] at h25
        simp only [over, overL, Nat.reduceAdd, h25, h31]
        go_simp
        exact hK _ _ ⟨.bool c1, by simp [measV, hG], by simp only [over, overL, Nat.reduceAdd, h25, h31]; rfl, Below.refl _ _⟩
    · intro f w1 hb ⟨h32, _⟩ K hK
      have h32 : f 32 = _ := h32
      simp only [over, overL, Nat.reduceAdd, h32]
      go_simp
      exact hK _ _ ⟨_, rfl, by simp only [over, overL, Nat.reduceAdd, h32]; rfl, Below.refl _ _⟩
    · intro f w1 hb ⟨h33, _⟩
      have h33 : f 33 = _ := h33
      refine ⟨fun hg => ?_, fun hg => ?_⟩
      rotate_left
      · intro hG; exact absurd (h33.trans (by rw [hG])) hg
      have hG := Value.bool.inj (h33.symm.trans hg)
      intro K hK
      simp only [over, overL, Nat.reduceAdd, h33, hG]
      go_simp
      refine (within_is _ _ _).mono ?_
      rintro e w2 ⟨v, rfl, hv, hb2⟩
      exact hK _ _ ⟨_, (fun _ => hv), by simp only [over, overL, Nat.reduceAdd, h33, hG]; rfl, hb2⟩
    · intro f w1 hb ⟨h33, _⟩
      have h33 : f 33 = _ := h33
      refine ⟨fun hg => ?_, fun hg => ?_⟩
      rotate_left
      · intro hG; exact absurd (h33.trans (by rw [hG])) hg
      have hG := Value.bool.inj (h33.symm.trans hg)
      intro K hK
      simp only [over, overL, Nat.reduceAdd, h33, hG]
      go_simp
      exact hK _ _ ⟨_, (fun _ => rfl), by simp only [over, overL, Nat.reduceAdd, h33, hG]; rfl, Below.refl _ _⟩
    · intro f w1 hb ⟨h33, h35, _⟩
      have h33 : f 33 = _ := h33
      refine ⟨fun hg => ?_, fun hg => ?_⟩
      rotate_left
      · intro hG; exact absurd (h33.trans (by rw [hG])) hg
      have hG := Value.bool.inj (h33.symm.trans hg)
      intro K hK
      have h35 : f 35 = _ := h35 hG
      have cl : w1.cell? ⟨w.heap.size, 7, none⟩ = some (.int .i64 a.wid) := cell_later hb (cell_later hB (by go_simp))
      simp only [over, overL, Nat.reduceAdd, h33, h35, hG]
      go_simp
      exact hK _ _ ⟨_, (fun _ => rfl), by simp only [over, overL, Nat.reduceAdd, h33, h35, hG]; rfl, Below.refl _ _⟩
    · intro f w1 hb ⟨h33, _⟩
      have h33 : f 33 = _ := h33
      refine ⟨fun hg => ?_, fun hg => ?_⟩
      rotate_left
      · intro hG; exact absurd (h33.trans (by rw [hG])) hg
      have hG := Value.bool.inj (h33.symm.trans hg)
      intro K hK
      simp only [over, overL, Nat.reduceAdd, h33, hG]
      go_simp
      exact hK _ _ ⟨_, (fun _ => rfl), by simp only [over, overL, Nat.reduceAdd, h33, hG]; rfl, Below.refl _ _⟩
    · intro f w1 hb ⟨h33, h37, _⟩
      have h33 : f 33 = _ := h33
      refine ⟨fun hg => ?_, fun hg => ?_⟩
      rotate_left
      · intro hG; exact absurd (h33.trans (by rw [hG])) hg
      have hG := Value.bool.inj (h33.symm.trans hg)
      intro K hK
      have h37 : f 37 = _ := h37 hG
      have cl : w1.cell? ⟨w.heap.size, 8, none⟩ = some (.int .i64 a.len) := cell_later hb (cell_later hB (by go_simp))
      simp only [over, overL, Nat.reduceAdd, h33, h37, hG]
      go_simp
      exact hK _ _ ⟨_, (fun _ => rfl), by simp only [over, overL, Nat.reduceAdd, h33, h37, hG]; rfl, Below.refl _ _⟩
    · intro f w1 hb ⟨h33, _⟩
      have h33 : f 33 = _ := h33
      refine ⟨fun hg => ?_, fun hg => ?_⟩
      rotate_left
      · intro hG; exact absurd (h33.trans (by rw [hG])) hg
      have hG := Value.bool.inj (h33.symm.trans hg)
      intro K hK
      simp only [over, overL, Nat.reduceAdd, h33, hG]
      go_simp
      exact hK _ _ ⟨_, (fun _ => rfl), by simp only [over, overL, Nat.reduceAdd, h33, hG]; rfl, Below.refl _ _⟩
    · intro f w1 hb ⟨h33, h39, _⟩
      have h33 : f 33 = _ := h33
      refine ⟨fun hg => ?_, fun hg => ?_⟩
      rotate_left
      · intro hG; exact absurd (h33.trans (by rw [hG])) hg
      have hG := Value.bool.inj (h33.symm.trans hg)
      intro K hK
      have h39 : f 39 = _ := h39 hG
      have cl : w1.cell? ⟨w.heap.size, 9, none⟩ = some (.int .i64 a.hei) := cell_later hb (cell_later hB (by go_simp))
      simp only [over, overL, Nat.reduceAdd, h33, h39, hG]
      go_simp
      exact hK _ _ ⟨_, (fun _ => rfl), by simp only [over, overL, Nat.reduceAdd, h33, h39, hG]; rfl, Below.refl _ _⟩
    · intro f w1 hb ⟨h33, h36, h38, h40, _⟩
      have h33 : f 33 = _ := h33
      refine ⟨fun hg => ?_, fun hg => ?_⟩
      rotate_left
      · intro hG; exact absurd (h33.trans (by rw [hG])) hg
      have hG := Value.bool.inj (h33.symm.trans hg)
      intro K hK
      have h36 : f 36 = _ := h36 hG
      have h38 : f 38 = _ := h38 hG
      have h40 : f 40 = _ := h40 hG
      simp only [over, overL, Nat.reduceAdd, h33, h36, h38, h40, hG]
      go_simp
      exact hK _ _ ⟨_, (fun _ => new_three _ _ _ _ _), by simp only [over, overL, Nat.reduceAdd, h33, h36, h38, h40, hG]; rfl, (Below.refl _ _).alloc (Nat.le_refl _) _⟩
    · intro f w1 hb ⟨h33, h34, h41, _⟩
      have h33 : f 33 = _ := h33
      refine ⟨fun hg => ?_, fun hg => ?_⟩
      rotate_left
      · intro hG; exact absurd (h33.trans (by rw [hG])) hg
      have hG := Value.bool.inj (h33.symm.trans hg)
      intro K hK
      replace h34 := h34 hG
      replace h41 := h41 hG
      simp only [over, overL, Nat.reduceAdd, h33, hG]
      go_simp
      refine (every_v [a.wid, a.len, a.hei] 1 200000 c2 hc2 _ _ _ (by simp) h34 h41).mono ?_
      rintro e w2 ⟨rfl, hw⟩
      exact hK _ _ ⟨_, (fun _ => rfl), by simp only [over, overL, Nat.reduceAdd, h33, hG]; rfl, hw ▸ Below.refl _ _⟩
    · intro f w1 hb ⟨h33, h42, _⟩ K hK
      have h33 : f 33 = _ := h33
      have h42 : (b1 && c1) = true → f 42 = _ := h42
      cases hG : (b1 && c1) with
      | false =>
        rw [hG] at h33
        simp only [over, overL, Nat.reduceAdd, h33]
        go_simp
        exact hK _ _ ⟨.bool false, by simp [measV, hG], by simp only [over, overL, Nat.reduceAdd, h33]; rfl, Below.refl _ _⟩
      | true =>
        have h42 := h42 hG
        rw [hG] at h33
        simp only [over, overL, Nat.reduceAdd, h33, h42]
        go_simp
        exact hK _ _ ⟨.bool c2, by simp [measV, hG], by simp only [over, overL, Nat.reduceAdd, h33, h42]; rfl, Below.refl _ _⟩
    · intro f w1 hb ⟨h43, _⟩ K hK
      have h43 : f 43 = _ := h43
      simp only [over, overL, Nat.reduceAdd, h43]
      go_simp
      exact hK _ _ ⟨_, rfl, by simp only [over, overL, Nat.reduceAdd, h43]; rfl, Below.refl _ _⟩
    · intro f w1 hb ⟨h44, _⟩
      have h44 : f 44 = _ := h44
      refine ⟨fun hg => ?_, fun hg => ?_⟩
      rotate_left
      · intro hG; exact absurd (h44.trans (by rw [hG])) hg
      have hG := Value.bool.inj (h44.symm.trans hg)
      intro K hK
      simp only [over, overL, Nat.reduceAdd, h44, hG]
      go_simp
      exact hK _ _ ⟨_, (fun _ => ⟨_, _, rfl, cell_later hb hp0, cell_later hb hp1⟩), by simp only [over, overL, Nat.reduceAdd, h44, hG]; rfl, Below.refl _ _⟩
    · intro f w1 hb ⟨h44, _⟩
      have h44 : f 44 = _ := h44
      refine ⟨fun hg => ?_, fun hg => ?_⟩
      rotate_left
      · intro hG; exact absurd (h44.trans (by rw [hG])) hg
      have hG := Value.bool.inj (h44.symm.trans hg)
      intro K hK
      simp only [over, overL, Nat.reduceAdd, h44, hG]
      go_simp
      exact hK _ _ ⟨_, (fun _ => rfl), by simp only [over, overL, Nat.reduceAdd, h44, hG]; rfl, Below.refl _ _⟩
    · intro f w1 hb ⟨h44, h46, _⟩
      have h44 : f 44 = _ := h44
      refine ⟨fun hg => ?_, fun hg => ?_⟩
      rotate_left
      · intro hG; exact absurd (h44.trans (by rw [hG])) hg
      have hG := Value.bool.inj (h44.symm.trans hg)
      intro K hK
      have h46 : f 46 = _ := h46 hG
      have cl : w1.cell? ⟨w.heap.size, 11, none⟩ = some (.int .i64 a.cap) := cell_later hb (cell_later hB (by go_simp))
      simp only [over, overL, Nat.reduceAdd, h44, h46, hG]
      go_simp
      exact hK _ _ ⟨_, (fun _ => rfl), by simp only [over, overL, Nat.reduceAdd, h44, h46, hG]; rfl, Below.refl _ _⟩
    · intro f w1 hb ⟨h44, h47, _⟩
      have h44 : f 44 = _ := h44
      refine ⟨fun hg => ?_, fun hg => ?_⟩
      rotate_left
      · intro hG; exact absurd (h44.trans (by rw [hG])) hg
      have hG := Value.bool.inj (h44.symm.trans hg)
      intro K hK
      have h47 : f 47 = _ := h47 hG
      simp only [over, overL, Nat.reduceAdd, h44, h47, hG]
      go_simp
      exact hK _ _ ⟨_, (fun _ => new_one _ _ _), by simp only [over, overL, Nat.reduceAdd, h44, h47, hG]; rfl, (Below.refl _ _).alloc (Nat.le_refl _) _⟩
    · intro f w1 hb ⟨h44, h45, h48, _⟩
      have h44 : f 44 = _ := h44
      refine ⟨fun hg => ?_, fun hg => ?_⟩
      rotate_left
      · intro hG; exact absurd (h44.trans (by rw [hG])) hg
      have hG := Value.bool.inj (h44.symm.trans hg)
      intro K hK
      replace h45 := h45 hG
      replace h48 := h48 hG
      simp only [over, overL, Nat.reduceAdd, h44, hG]
      go_simp
      refine (every_v [a.cap] 1 1000000000 c3 hc3 _ _ _ (by simp) h45 h48).mono ?_
      rintro e w2 ⟨rfl, hw⟩
      exact hK _ _ ⟨_, (fun _ => rfl), by simp only [over, overL, Nat.reduceAdd, h44, hG]; rfl, hw ▸ Below.refl _ _⟩
    · intro f w1 hb ⟨h44, h49, _⟩ K hK
      have h44 : f 44 = _ := h44
      have h49 : (b1 && c1 && c2) = true → f 49 = _ := h49
      cases hG : (b1 && c1 && c2) with
      | false =>
        rw [hG] at h44
        simp only [over, overL, Nat.reduceAdd, h44]
        go_simp
        exact hK _ _ ⟨.bool false, by simp [measV, hG], by simp only [over, overL, Nat.reduceAdd, h44]; rfl, Below.refl _ _⟩
      | true =>
        have h49 := h49 hG
        rw [hG] at h44
        simp only [over, overL, Nat.reduceAdd, h44, h49]
        go_simp
        exact hK _ _ ⟨.bool c3, by simp [measV, hG], by simp only [over, overL, Nat.reduceAdd, h44, h49]; rfl, Below.refl _ _⟩
    · intro f w1 hb ⟨h50, _⟩ K hK
      have h50 : f 50 = _ := h50
      simp only [over, overL, Nat.reduceAdd, h50]
      go_simp
      exact hK _ _ ⟨_, rfl, by simp only [over, overL, Nat.reduceAdd, h50]; rfl, Below.refl _ _⟩
  · intro f w1 hb h
    have h2 : f 2 = .bool (b1 && c1 && c2 && c3) := h.2.2.2.2.2.2.2.2.2.2.2.2.2.2.2.2.2.2.2.2.2.2.2.2.2.2.2.2.2.2.2.2.2.2.2.1
    simp only [over, overL, h2, Nat.reduceAdd]
    go_wp2
    go_ret
    exact ⟨rfl, ((Below.refl _ _).alloc (Nat.le_refl _) _).trans ((hB.mono (by simp)).trans (hb.mono (by have := hB.size; simp at this; omega)))⟩

set_option maxHeartbeats 3200000 in
theorem isMeasured_01 (a : Wr) (w : World) (hr0 : 0 ≤ a.rows * a.cols) (hr1 : a.rows * a.cols ≤ 384) (hm : a.rows * a.cols ≤ 1) (hk : a.kind = 3) (b1 c1 c2 c3 : Bool)
    (hb1 : [a.x, a.y, a.deep].all (inR 0 200000) = b1) (hc1 : [a.pitch].all (inR 0 200000) = c1) (hc2 : [a.wid, a.len, a.hei].all (inR 1 200000) = c2) (hc3 : [a.cap].all (inR 0 0) = c3) :
    Calls Try.prog 81 #[wv a] w fun e w' => e = .returned (.bool (b1 && c1 && c2 && c3)) ∧ Below w.heap.size w w' := by
  go_enter Try.func81, Try.ntmps81
  go_wp2_with (go_at_call 80; refine (within_int _ _ _).mono ?_; rintro e w2 ⟨rfl, rfl⟩)
  obtain ⟨W, hW⟩ : ∃ W, W = (((((w.alloc (wobj a)).alloc (.cells #[.int .i64 1] 3)).alloc (.cells #[.int .i64 1000000000] 3)).alloc (.cells #[.int .i64 0] 3)).alloc (.cells #[.int .i64 0] 3)) := ⟨_, rfl⟩
  have hB : Below (w.alloc (wobj a)).heap.size (w.alloc (wobj a)) W := by
    rw [hW]
    repeat (first | exact Below.refl _ _ | refine Below.alloc ?_ (by simp; omega) _ | refine Below.alloc ?_ (by simp) _)
  have hp0 : W.cell? ⟨w.heap.size + 1 + 1 + 1, 0, none⟩ = some (.int .i64 0) := by rw [hW]; go_simp
  have hp1 : W.cell? ⟨w.heap.size + 1 + 1 + 1 + 1, 0, none⟩ = some (.int .i64 0) := by rw [hW]; go_simp
  rw [← hW]
  clear hW
  refine region_inv [false, false, true, false, false, false, false, false, false, false, false, false, false, false, false, false, true, true, true, true, true, true, true, true, true, true, true, true, true, true, true, true, true, true, true, true, true, true, true, true, true, true, true, true, true, true, true, true, true, true, true]
    [(16, [], none), (17, [], none), (18, [17], none), (19, [], none), (20, [19], none), (21, [], none), (22, [21], none), (23, [18, 20, 22], none), (24, [16, 23], none), (25, [24], none), (26, [25], some (25, true)), (27, [25, 26], some (25, true)), (28, [25], some (25, true)), (29, [25, 28], some (25, true)), (30, [25, 29], some (25, true)), (31, [25, 27, 30], some (25, true)), (32, [25, 31], none), (33, [32], none), (34, [33], some (33, true)), (35, [33], some (33, true)), (36, [33, 35], some (33, true)), (37, [33], some (33, true)), (38, [33, 37], some (33, true)), (39, [33], some (33, true)), (40, [33, 39], some (33, true)), (41, [33, 36, 38, 40], some (33, true)), (42, [33, 34, 41], some (33, true)), (43, [33, 42], none), (44, [43], none), (45, [44], some (44, true)), (46, [44], some (44, true)), (47, [44, 46], some (44, true)), (48, [44, 47], some (44, true)), (49, [44, 45, 48], some (44, true)), (50, [44, 49], none), (2, [50], none)]
    (measV a 0 0 0 b1 c1 c2 c3 w.heap.size) (by kernel_rfl) (by kernel_rfl) (measV_mono a 0 0 0 b1 c1 c2 c3 w.heap.size) ?_ ?_
  · refine ⟨?_, ?_, ?_, ?_, ?_, ?_, ?_, ?_, ?_, ?_, ?_, ?_, ?_, ?_, ?_, ?_, ?_, ?_, ?_, ?_, ?_, ?_, ?_, ?_, ?_, ?_, ?_, ?_, ?_, ?_, ?_, ?_, ?_, ?_, ?_, ?_, trivial⟩
    · intro f w1 hb _ K hK
      simp only [over, overL, Nat.reduceAdd]
      go_simp
      refine (within_is _ _ _).mono ?_
      rintro e w2 ⟨v, rfl, hv, hb2⟩
      exact hK _ _ ⟨_, hv, by simp only [over, overL, Nat.reduceAdd]; rfl, hb2⟩
    · intro f w1 hb _ K hK
      simp only [over, overL, Nat.reduceAdd]
      go_simp
      exact hK _ _ ⟨_, rfl, by simp only [over, overL, Nat.reduceAdd]; rfl, Below.refl _ _⟩
    · intro f w1 hb ⟨h17, _⟩ K hK
      have h17 : f 17 = _ := h17
      have cl : w1.cell? ⟨w.heap.size, 4, none⟩ = some (.int .i64 a.x) := cell_later hb (cell_later hB (by go_simp))
      simp only [over, overL, Nat.reduceAdd, h17]
      go_simp
      exact hK _ _ ⟨_, rfl, by simp only [over, overL, Nat.reduceAdd, h17]; rfl, Below.refl _ _⟩
    · intro f w1 hb _ K hK
      simp only [over, overL, Nat.reduceAdd]
      go_simp
      exact hK _ _ ⟨_, rfl, by simp only [over, overL, Nat.reduceAdd]; rfl, Below.refl _ _⟩
    · intro f w1 hb ⟨h19, _⟩ K hK
      have h19 : f 19 = _ := h19
      have cl : w1.cell? ⟨w.heap.size, 5, none⟩ = some (.int .i64 a.y) := cell_later hb (cell_later hB (by go_simp))
      simp only [over, overL, Nat.reduceAdd, h19]
      go_simp
      exact hK _ _ ⟨_, rfl, by simp only [over, overL, Nat.reduceAdd, h19]; rfl, Below.refl _ _⟩
    · intro f w1 hb _ K hK
      simp only [over, overL, Nat.reduceAdd]
      go_simp
      exact hK _ _ ⟨_, rfl, by simp only [over, overL, Nat.reduceAdd]; rfl, Below.refl _ _⟩
    · intro f w1 hb ⟨h21, _⟩ K hK
      have h21 : f 21 = _ := h21
      have cl : w1.cell? ⟨w.heap.size, 10, none⟩ = some (.int .i64 a.deep) := cell_later hb (cell_later hB (by go_simp))
      simp only [over, overL, Nat.reduceAdd, h21]
      go_simp
      exact hK _ _ ⟨_, rfl, by simp only [over, overL, Nat.reduceAdd, h21]; rfl, Below.refl _ _⟩
    · intro f w1 hb ⟨h18, h20, h22, _⟩ K hK
      have h18 : f 18 = _ := h18
      have h20 : f 20 = _ := h20
      have h22 : f 22 = _ := h22
      simp only [over, overL, Nat.reduceAdd, h18, h20, h22]
      go_simp
      exact hK _ _ ⟨_, new_three _ _ _ _ _, by simp only [over, overL, Nat.reduceAdd, h18, h20, h22]; rfl, (Below.refl _ _).alloc (Nat.le_refl _) _⟩
    · intro f w1 hb ⟨h16, h23, _⟩ K hK
      simp only [over, overL, Nat.reduceAdd]
      go_simp
      refine (every_v [a.x, a.y, a.deep] 0 200000 b1 hb1 _ _ _ (by simp) h16 h23).mono ?_
      rintro e w2 ⟨rfl, hw⟩
      exact hK _ _ ⟨_, rfl, by simp only [over, overL, Nat.reduceAdd]; rfl, hw ▸ Below.refl _ _⟩
    · intro f w1 hb ⟨h24, _⟩ K hK
      have h24 : f 24 = _ := h24
      simp only [over, overL, Nat.reduceAdd, h24]
      go_simp
      exact hK _ _ ⟨_, rfl, by simp only [over, overL, Nat.reduceAdd, h24]; rfl, Below.refl _ _⟩
    · intro f w1 hb ⟨h25, _⟩
      have h25 : f 25 = _ := h25
      refine ⟨fun hg => ?_, fun hg => ?_⟩
      rotate_left
      · intro hG; exact absurd (h25.trans (by rw [hG])) hg
      have hG := Value.bool.inj (h25.symm.trans hg)
      intro K hK
      simp only [over, overL, Nat.reduceAdd, h25, hG]
      go_simp
      exact hK _ _ ⟨_, (fun _ => rfl), by simp only [over, overL, Nat.reduceAdd, h25, hG]; rfl, Below.refl _ _⟩
    · intro f w1 hb ⟨h25, h26, _⟩
      have h25 : f 25 = _ := h25
      refine ⟨fun hg => ?_, fun hg => ?_⟩
      rotate_left
      · intro hG; exact absurd (h25.trans (by rw [hG])) hg
      have hG := Value.bool.inj (h25.symm.trans hg)
      intro K hK
      have h26 : f 26 = _ := h26 hG
      simp only [over, overL, Nat.reduceAdd, h25, h26, hG]
      go_simp
      refine (within_is _ _ _).mono ?_
      rintro e w2 ⟨v, rfl, hv, hb2⟩
      exact hK _ _ ⟨_, (fun _ => hv), by simp only [over, overL, Nat.reduceAdd, h25, h26, hG]; rfl, hb2⟩
    · intro f w1 hb ⟨h25, _⟩
      have h25 : f 25 = _ := h25
      refine ⟨fun hg => ?_, fun hg => ?_⟩
      rotate_left
      · intro hG; exact absurd (h25.trans (by rw [hG])) hg
      have hG := Value.bool.inj (h25.symm.trans hg)
      intro K hK
      simp only [over, overL, Nat.reduceAdd, h25, hG]
      go_simp
      exact hK _ _ ⟨_, (fun _ => rfl), by simp only [over, overL, Nat.reduceAdd, h25, hG]; rfl, Below.refl _ _⟩
    · intro f w1 hb ⟨h25, h28, _⟩
      have h25 : f 25 = _ := h25
      refine ⟨fun hg => ?_, fun hg => ?_⟩
      rotate_left
      · intro hG; exact absurd (h25.trans (by rw [hG])) hg
      have hG := Value.bool.inj (h25.symm.trans hg)
      intro K hK
      have h28 : f 28 = _ := h28 hG
      have cl : w1.cell? ⟨w.heap.size, 6, none⟩ = some (.int .i64 a.pitch) := cell_later hb (cell_later hB (by go_simp))
      simp only [over, overL, Nat.reduceAdd, h25, h28, hG]
      go_simp
      exact hK _ _ ⟨_, (fun _ => rfl), by simp only [over, overL, Nat.reduceAdd, h25, h28, hG]; rfl, Below.refl _ _⟩
    · intro f w1 hb ⟨h25, h29, _⟩
      have h25 : f 25 = _ := h25
      refine ⟨fun hg => ?_, fun hg => ?_⟩
      rotate_left
      · intro hG; exact absurd (h25.trans (by rw [hG])) hg
      have hG := Value.bool.inj (h25.symm.trans hg)
      intro K hK
      have h29 : f 29 = _ := h29 hG
      simp only [over, overL, Nat.reduceAdd, h25, h29, hG]
      go_simp
      exact hK _ _ ⟨_, (fun _ => new_one _ _ _), by simp only [over, overL, Nat.reduceAdd, h25, h29, hG]; rfl, (Below.refl _ _).alloc (Nat.le_refl _) _⟩
    · intro f w1 hb ⟨h25, h27, h30, _⟩
      have h25 : f 25 = _ := h25
      refine ⟨fun hg => ?_, fun hg => ?_⟩
      rotate_left
      · intro hG; exact absurd (h25.trans (by rw [hG])) hg
      have hG := Value.bool.inj (h25.symm.trans hg)
      intro K hK
      replace h27 := h27 hG
      replace h30 := h30 hG
      simp only [over, overL, Nat.reduceAdd, h25, hG]
      go_simp
      refine (every_v [a.pitch] 0 200000 c1 hc1 _ _ _ (by simp) h27 h30).mono ?_
      rintro e w2 ⟨rfl, hw⟩
      exact hK _ _ ⟨_, (fun _ => rfl), by simp only [over, overL, Nat.reduceAdd, h25, hG]; rfl, hw ▸ Below.refl _ _⟩
    · intro f w1 hb ⟨h25, h31, _⟩ K hK
      have h25 : f 25 = _ := h25
      have h31 : b1 = true → f 31 = _ := h31
      cases hG : b1 with
      | false =>
        rw [hG] at h25
        simp only [over, overL, Nat.reduceAdd, h25]
        go_simp
        exact hK _ _ ⟨.bool false, by simp [measV, hG], by simp only [over, overL, Nat.reduceAdd, h25]; rfl, Below.refl _ _⟩
      | true =>
        have h31 := h31 hG
        rw [hG] at h25
        simp only [over, overL, Nat.reduceAdd, h25, h31]
        go_simp
        exact hK _ _ ⟨.bool c1, by simp [measV, hG], by simp only [over, overL, Nat.reduceAdd, h25, h31]; rfl, Below.refl _ _⟩
    · intro f w1 hb ⟨h32, _⟩ K hK
      have h32 : f 32 = _ := h32
      simp only [over, overL, Nat.reduceAdd, h32]
      go_simp
      exact hK _ _ ⟨_, rfl, by simp only [over, overL, Nat.reduceAdd, h32]; rfl, Below.refl _ _⟩
    · intro f w1 hb ⟨h33, _⟩
      have h33 : f 33 = _ := h33
      refine ⟨fun hg => ?_, fun hg => ?_⟩
      rotate_left
      · intro hG; exact absurd (h33.trans (by rw [hG])) hg
      have hG := Value.bool.inj (h33.symm.trans hg)
      intro K hK
      simp only [over, overL, Nat.reduceAdd, h33, hG]
      go_simp
      refine (within_is _ _ _).mono ?_
      rintro e w2 ⟨v, rfl, hv, hb2⟩
      exact hK _ _ ⟨_, (fun _ => hv), by simp only [over, overL, Nat.reduceAdd, h33, hG]; rfl, hb2⟩
    · intro f w1 hb ⟨h33, _⟩
      have h33 : f 33 = _ := h33
      refine ⟨fun hg => ?_, fun hg => ?_⟩
      rotate_left
      · intro hG; exact absurd (h33.trans (by rw [hG])) hg
      have hG := Value.bool.inj (h33.symm.trans hg)
      intro K hK
      simp only [over, overL, Nat.reduceAdd, h33, hG]
      go_simp
      exact hK _ _ ⟨_, (fun _ => rfl), by simp only [over, overL, Nat.reduceAdd, h33, hG]; rfl, Below.refl _ _⟩
    · intro f w1 hb ⟨h33, h35, _⟩
      have h33 : f 33 = _ := h33
      refine ⟨fun hg => ?_, fun hg => ?_⟩
      rotate_left
      · intro hG; exact absurd (h33.trans (by rw [hG])) hg
      have hG := Value.bool.inj (h33.symm.trans hg)
      intro K hK
      have h35 : f 35 = _ := h35 hG
      have cl : w1.cell? ⟨w.heap.size, 7, none⟩ = some (.int .i64 a.wid) := cell_later hb (cell_later hB (by go_simp))
      simp only [over, overL, Nat.reduceAdd, h33, h35, hG]
      go_simp
      exact hK _ _ ⟨_, (fun _ => rfl), by simp only [over, overL, Nat.reduceAdd, h33, h35, hG]; rfl, Below.refl _ _⟩
    · intro f w1 hb ⟨h33, _⟩
      have h33 : f 33 = _ := h33
      refine ⟨fun hg => ?_, fun hg => ?_⟩
      rotate_left
      · intro hG; exact absurd (h33.trans (by rw [hG])) hg
      have hG := Value.bool.inj (h33.symm.trans hg)
      intro K hK
      simp only [over, overL, Nat.reduceAdd, h33, hG]
      go_simp
      exact hK _ _ ⟨_, (fun _ => rfl), by simp only [over, overL, Nat.reduceAdd, h33, hG]; rfl, Below.refl _ _⟩
    · intro f w1 hb ⟨h33, h37, _⟩
      have h33 : f 33 = _ := h33
      refine ⟨fun hg => ?_, fun hg => ?_⟩
      rotate_left
      · intro hG; exact absurd (h33.trans (by rw [hG])) hg
      have hG := Value.bool.inj (h33.symm.trans hg)
      intro K hK
      have h37 : f 37 = _ := h37 hG
      have cl : w1.cell? ⟨w.heap.size, 8, none⟩ = some (.int .i64 a.len) := cell_later hb (cell_later hB (by go_simp))
      simp only [over, overL, Nat.reduceAdd, h33, h37, hG]
      go_simp
      exact hK _ _ ⟨_, (fun _ => rfl), by simp only [over, overL, Nat.reduceAdd, h33, h37, hG]; rfl, Below.refl _ _⟩
    · intro f w1 hb ⟨h33, _⟩
      have h33 : f 33 = _ := h33
      refine ⟨fun hg => ?_, fun hg => ?_⟩
      rotate_left
      · intro hG; exact absurd (h33.trans (by rw [hG])) hg
      have hG := Value.bool.inj (h33.symm.trans hg)
      intro K hK
      simp only [over, overL, Nat.reduceAdd, h33, hG]
      go_simp
      exact hK _ _ ⟨_, (fun _ => rfl), by simp only [over, overL, Nat.reduceAdd, h33, hG]; rfl, Below.refl _ _⟩
    · intro f w1 hb ⟨h33, h39, _⟩
      have h33 : f 33 = _ := h33
      refine ⟨fun hg => ?_, fun hg => ?_⟩
      rotate_left
      · intro hG; exact absurd (h33.trans (by rw [hG])) hg
      have hG := Value.bool.inj (h33.symm.trans hg)
      intro K hK
      have h39 : f 39 = _ := h39 hG
      have cl : w1.cell? ⟨w.heap.size, 9, none⟩ = some (.int .i64 a.hei) := cell_later hb (cell_later hB (by go_simp))
      simp only [over, overL, Nat.reduceAdd, h33, h39, hG]
      go_simp
      exact hK _ _ ⟨_, (fun _ => rfl), by simp only [over, overL, Nat.reduceAdd, h33, h39, hG]; rfl, Below.refl _ _⟩
    · intro f w1 hb ⟨h33, h36, h38, h40, _⟩
      have h33 : f 33 = _ := h33
      refine ⟨fun hg => ?_, fun hg => ?_⟩
      rotate_left
      · intro hG; exact absurd (h33.trans (by rw [hG])) hg
      have hG := Value.bool.inj (h33.symm.trans hg)
      intro K hK
      have h36 : f 36 = _ := h36 hG
      have h38 : f 38 = _ := h38 hG
      have h40 : f 40 = _ := h40 hG
      simp only [over, overL, Nat.reduceAdd, h33, h36, h38, h40, hG]
      go_simp
      exact hK _ _ ⟨_, (fun _ => new_three _ _ _ _ _), by simp only [over, overL, Nat.reduceAdd, h33, h36, h38, h40, hG]; rfl, (Below.refl _ _).alloc (Nat.le_refl _) _⟩
    · intro f w1 hb ⟨h33, h34, h41, _⟩
      have h33 : f 33 = _ := h33
      refine ⟨fun hg => ?_, fun hg => ?_⟩
      rotate_left
      · intro hG; exact absurd (h33.trans (by rw [hG])) hg
      have hG := Value.bool.inj (h33.symm.trans hg)
      intro K hK
      replace h34 := h34 hG
      replace h41 := h41 hG
      simp only [over, overL, Nat.reduceAdd, h33, hG]
      go_simp
      refine (every_v [a.wid, a.len, a.hei] 1 200000 c2 hc2 _ _ _ (by simp) h34 h41).mono ?_
      rintro e w2 ⟨rfl, hw⟩
      exact hK _ _ ⟨_, (fun _ => rfl), by simp only [over, overL, Nat.reduceAdd, h33, hG]; rfl, hw ▸ Below.refl _ _⟩
    · intro f w1 hb ⟨h33, h42, _⟩ K hK
      have h33 : f 33 = _ := h33
      have h42 : (b1 && c1) = true → f 42 = _ := h42
      cases hG : (b1 && c1) with
      | false =>
        rw [hG] at h33
        simp only [over, overL, Nat.reduceAdd, h33]
        go_simp
        exact hK _ _ ⟨.bool false, by simp [measV, hG], by simp only [over, overL, Nat.reduceAdd, h33]; rfl, Below.refl _ _⟩
      | true =>
        have h42 := h42 hG
        rw [hG] at h33
        simp only [over, overL, Nat.reduceAdd, h33, h42]
        go_simp
        exact hK _ _ ⟨.bool c2, by simp [measV, hG], by simp only [over, overL, Nat.reduceAdd, h33, h42]; rfl, Below.refl _ _⟩
    · intro f w1 hb ⟨h43, _⟩ K hK
      have h43 : f 43 = _ := h43
      simp only [over, overL, Nat.reduceAdd, h43]
      go_simp
      exact hK _ _ ⟨_, rfl, by simp only [over, overL, Nat.reduceAdd, h43]; rfl, Below.refl _ _⟩
    · intro f w1 hb ⟨h44, _⟩
      have h44 : f 44 = _ := h44
      refine ⟨fun hg => ?_, fun hg => ?_⟩
      rotate_left
      · intro hG; exact absurd (h44.trans (by rw [hG])) hg
      have hG := Value.bool.inj (h44.symm.trans hg)
      intro K hK
      simp only [over, overL, Nat.reduceAdd, h44, hG]
      go_simp
      exact hK _ _ ⟨_, (fun _ => ⟨_, _, rfl, cell_later hb hp0, cell_later hb hp1⟩), by simp only [over, overL, Nat.reduceAdd, h44, hG]; rfl, Below.refl _ _⟩
    · intro f w1 hb ⟨h44, _⟩
      have h44 : f 44 = _ := h44
      refine ⟨fun hg => ?_, fun hg => ?_⟩
      rotate_left
      · intro hG; exact absurd (h44.trans (by rw [hG])) hg
      have hG := Value.bool.inj (h44.symm.trans hg)
      intro K hK
      simp only [over, overL, Nat.reduceAdd, h44, hG]
      go_simp
      exact hK _ _ ⟨_, (fun _ => rfl), by simp only [over, overL, Nat.reduceAdd, h44, hG]; rfl, Below.refl _ _⟩
    · intro f w1 hb ⟨h44, h46, _⟩
      have h44 : f 44 = _ := h44
      refine ⟨fun hg => ?_, fun hg => ?_⟩
      rotate_left
      · intro hG; exact absurd (h44.trans (by rw [hG])) hg
      have hG := Value.bool.inj (h44.symm.trans hg)
      intro K hK
      have h46 : f 46 = _ := h46 hG
      have cl : w1.cell? ⟨w.heap.size, 11, none⟩ = some (.int .i64 a.cap) := cell_later hb (cell_later hB (by go_simp))
      simp only [over, overL, Nat.reduceAdd, h44, h46, hG]
      go_simp
      exact hK _ _ ⟨_, (fun _ => rfl), by simp only [over, overL, Nat.reduceAdd, h44, h46, hG]; rfl, Below.refl _ _⟩
    · intro f w1 hb ⟨h44, h47, _⟩
      have h44 : f 44 = _ := h44
      refine ⟨fun hg => ?_, fun hg => ?_⟩
      rotate_left
      · intro hG; exact absurd (h44.trans (by rw [hG])) hg
      have hG := Value.bool.inj (h44.symm.trans hg)
      intro K hK
      have h47 : f 47 = _ := h47 hG
      simp only [over, overL, Nat.reduceAdd, h44, h47, hG]
      go_simp
      exact hK _ _ ⟨_, (fun _ => new_one _ _ _), by simp only [over, overL, Nat.reduceAdd, h44, h47, hG]; rfl, (Below.refl _ _).alloc (Nat.le_refl _) _⟩
    · intro f w1 hb ⟨h44, h45, h48, _⟩
      have h44 : f 44 = _ := h44
      refine ⟨fun hg => ?_, fun hg => ?_⟩
      rotate_left
      · intro hG; exact absurd (h44.trans (by rw [hG])) hg
      have hG := Value.bool.inj (h44.symm.trans hg)
      intro K hK
      replace h45 := h45 hG
      replace h48 := h48 hG
      simp only [over, overL, Nat.reduceAdd, h44, hG]
      go_simp
      refine (every_v [a.cap] 0 0 c3 hc3 _ _ _ (by simp) h45 h48).mono ?_
      rintro e w2 ⟨rfl, hw⟩
      exact hK _ _ ⟨_, (fun _ => rfl), by simp only [over, overL, Nat.reduceAdd, h44, hG]; rfl, hw ▸ Below.refl _ _⟩
    · intro f w1 hb ⟨h44, h49, _⟩ K hK
      have h44 : f 44 = _ := h44
      have h49 : (b1 && c1 && c2) = true → f 49 = _ := h49
      cases hG : (b1 && c1 && c2) with
      | false =>
        rw [hG] at h44
        simp only [over, overL, Nat.reduceAdd, h44]
        go_simp
        exact hK _ _ ⟨.bool false, by simp [measV, hG], by simp only [over, overL, Nat.reduceAdd, h44]; rfl, Below.refl _ _⟩
      | true =>
        have h49 := h49 hG
        rw [hG] at h44
        simp only [over, overL, Nat.reduceAdd, h44, h49]
        go_simp
        exact hK _ _ ⟨.bool c3, by simp [measV, hG], by simp only [over, overL, Nat.reduceAdd, h44, h49]; rfl, Below.refl _ _⟩
    · intro f w1 hb ⟨h50, _⟩ K hK
      have h50 : f 50 = _ := h50
      simp only [over, overL, Nat.reduceAdd, h50]
      go_simp
      exact hK _ _ ⟨_, rfl, by simp only [over, overL, Nat.reduceAdd, h50]; rfl, Below.refl _ _⟩
  · intro f w1 hb h
    have h2 : f 2 = .bool (b1 && c1 && c2 && c3) := h.2.2.2.2.2.2.2.2.2.2.2.2.2.2.2.2.2.2.2.2.2.2.2.2.2.2.2.2.2.2.2.2.2.2.2.1
    simp only [over, overL, h2, Nat.reduceAdd]
    go_wp2
    go_ret
    exact ⟨rfl, ((Below.refl _ _).alloc (Nat.le_refl _) _).trans ((hB.mono (by simp)).trans (hb.mono (by have := hB.size; simp at this; omega)))⟩

set_option maxHeartbeats 3200000 in
theorem isMeasured_10 (a : Wr) (w : World) (hr0 : 0 ≤ a.rows * a.cols) (hr1 : a.rows * a.cols ≤ 384) (hm : 1 < a.rows * a.cols) (hk : (a.kind == 3) = false) (b1 c1 c2 c3 : Bool)
    (hb1 : [a.x, a.y, a.deep].all (inR 0 200000) = b1) (hc1 : [a.pitch].all (inR 1 200000) = c1) (hc2 : [a.wid, a.len, a.hei].all (inR 1 200000) = c2) (hc3 : [a.cap].all (inR 1 1000000000) = c3) :
    Calls Try.prog 81 #[wv a] w fun e w' => e = .returned (.bool (b1 && c1 && c2 && c3)) ∧ Below w.heap.size w w' := by
  go_enter Try.func81, Try.ntmps81
  go_wp2_with (go_at_call 80; refine (within_int _ _ _).mono ?_; rintro e w2 ⟨rfl, rfl⟩)
  obtain ⟨W, hW⟩ : ∃ W, W = (((w.alloc (wobj a)).alloc (.cells #[.int .i64 1] 3)).alloc (.cells #[.int .i64 1000000000] 3)) := ⟨_, rfl⟩
  have hB : Below (w.alloc (wobj a)).heap.size (w.alloc (wobj a)) W := by
    rw [hW]
    repeat (first | exact Below.refl _ _ | refine Below.alloc ?_ (by simp; omega) _ | refine Below.alloc ?_ (by simp) _)
  have hp0 : W.cell? ⟨w.heap.size + 1, 0, none⟩ = some (.int .i64 1) := by rw [hW]; go_simp
  have hp1 : W.cell? ⟨w.heap.size + 1 + 1, 0, none⟩ = some (.int .i64 1000000000) := by rw [hW]; go_simp
  rw [← hW]
  clear hW
  refine region_inv [false, false, true, false, false, false, false, false, false, false, false, false, false, false, false, false, true, true, true, true, true, true, true, true, true, true, true, true, true, true, true, true, true, true, true, true, true, true, true, true, true, true, true, true, true, true, true, true, true, true, true]
    [(16, [], none), (17, [], none), (18, [17], none), (19, [], none), (20, [19], none), (21, [], none), (22, [21], none), (23, [18, 20, 22], none), (24, [16, 23], none), (25, [24], none), (26, [25], some (25, true)), (27, [25, 26], some (25, true)), (28, [25], some (25, true)), (29, [25, 28], some (25, true)), (30, [25, 29], some (25, true)), (31, [25, 27, 30], some (25, true)), (32, [25, 31], none), (33, [32], none), (34, [33], some (33, true)), (35, [33], some (33, true)), (36, [33, 35], some (33, true)), (37, [33], some (33, true)), (38, [33, 37], some (33, true)), (39, [33], some (33, true)), (40, [33, 39], some (33, true)), (41, [33, 36, 38, 40], some (33, true)), (42, [33, 34, 41], some (33, true)), (43, [33, 42], none), (44, [43], none), (45, [44], some (44, true)), (46, [44], some (44, true)), (47, [44, 46], some (44, true)), (48, [44, 47], some (44, true)), (49, [44, 45, 48], some (44, true)), (50, [44, 49], none), (2, [50], none)]
    (measV a 1 1 1000000000 b1 c1 c2 c3 w.heap.size) (by kernel_rfl) (by kernel_rfl) (measV_mono a 1 1 1000000000 b1 c1 c2 c3 w.heap.size) ?_ ?_
  · refine ⟨?_, ?_, ?_, ?_, ?_, ?_, ?_, ?_, ?_, ?_, ?_, ?_, ?_, ?_, ?_, ?_, ?_, ?_, ?_, ?_, ?_, ?_, ?_, ?_, ?_, ?_, ?_, ?_, ?_, ?_, ?_, ?_, ?_, ?_, ?_, ?_, trivial⟩
    · intro f w1 hb _ K hK
      simp only [over, overL, Nat.reduceAdd]
      go_simp
      refine (within_is _ _ _).mono ?_
      rintro e w2 ⟨v, rfl, hv, hb2⟩
      exact hK _ _ ⟨_, hv, by simp only [over, overL, Nat.reduceAdd]; rfl, hb2⟩
    · intro f w1 hb _ K hK
      simp only [over, overL, Nat.reduceAdd]
      go_simp
      exact hK _ _ ⟨_, rfl, by simp only [over, overL, Nat.reduceAdd]; rfl, Below.refl _ _⟩
    · intro f w1 hb ⟨h17, _⟩ K hK
      have h17 : f 17 = _ := h17
      have cl : w1.cell? ⟨w.heap.size, 4, none⟩ = some (.int .i64 a.x) := cell_later hb (cell_later hB (by go_simp))
      simp only [over, overL, Nat.reduceAdd, h17]
      go_simp
      exact hK _ _ ⟨_, rfl, by simp only [over, overL, Nat.reduceAdd, h17]; rfl, Below.refl _ _⟩
    · intro f w1 hb _ K hK
      simp only [over, overL, Nat.reduceAdd]
      go_simp
      exact hK _ _ ⟨_, rfl, by simp only [over, overL, Nat.reduceAdd]; rfl, Below.refl _ _⟩
    · intro f w1 hb ⟨h19, _⟩ K hK
      have h19 : f 19 = _ := h19
      have cl : w1.cell? ⟨w.heap.size, 5, none⟩ = some (.int .i64 a.y) := cell_later hb (cell_later hB (by go_simp))
      simp only [over, overL, Nat.reduceAdd, h19]
      go_simp
      exact hK _ _ ⟨_, rfl, by simp only [over, overL, Nat.reduceAdd, h19]; rfl, Below.refl _ _⟩
    · intro f w1 hb _ K hK
      simp only [over, overL, Nat.reduceAdd]
      go_simp
      exact hK _ _ ⟨_, rfl, by simp only [over, overL, Nat.reduceAdd]; rfl, Below.refl _ _⟩
    · intro f w1 hb ⟨h21, _⟩ K hK
      have h21 : f 21 = _ := h21
      have cl : w1.cell? ⟨w.heap.size, 10, none⟩ = some (.int .i64 a.deep) := cell_later hb (cell_later hB (by go_simp))
      simp only [over, overL, Nat.reduceAdd, h21]
      go_simp
      exact hK _ _ ⟨_, rfl, by simp only [over, overL, Nat.reduceAdd, h21]; rfl, Below.refl _ _⟩
    · intro f w1 hb ⟨h18, h20, h22, _⟩ K hK
      have h18 : f 18 = _ := h18
      have h20 : f 20 = _ := h20
      have h22 : f 22 = _ := h22
      simp only [over, overL, Nat.reduceAdd, h18, h20, h22]
      go_simp
      exact hK _ _ ⟨_, new_three _ _ _ _ _, by simp only [over, overL, Nat.reduceAdd, h18, h20, h22]; rfl, (Below.refl _ _).alloc (Nat.le_refl _) _⟩
    · intro f w1 hb ⟨h16, h23, _⟩ K hK
      simp only [over, overL, Nat.reduceAdd]
      go_simp
      refine (every_v [a.x, a.y, a.deep] 0 200000 b1 hb1 _ _ _ (by simp) h16 h23).mono ?_
      rintro e w2 ⟨rfl, hw⟩
      exact hK _ _ ⟨_, rfl, by simp only [over, overL, Nat.reduceAdd]; rfl, hw ▸ Below.refl _ _⟩
    · intro f w1 hb ⟨h24, _⟩ K hK
      have h24 : f 24 = _ := h24
      simp only [over, overL, Nat.reduceAdd, h24]
      go_simp
      exact hK _ _ ⟨_, rfl, by simp only [over, overL, Nat.reduceAdd, h24]; rfl, Below.refl _ _⟩
    · intro f w1 hb ⟨h25, _⟩
      have h25 : f 25 = _ := h25
      refine ⟨fun hg => ?_, fun hg => ?_⟩
      rotate_left
      · intro hG; exact absurd (h25.trans (by rw [hG])) hg
      have hG := Value.bool.inj (h25.symm.trans hg)
      intro K hK
      simp only [over, overL, Nat.reduceAdd, h25, hG]
      go_simp
      exact hK _ _ ⟨_, (fun _ => rfl), by simp only [over, overL, Nat.reduceAdd, h25, hG]; rfl, Below.refl _ _⟩
    · intro f w1 hb ⟨h25, h26, _⟩
      have h25 : f 25 = _ := h25
      refine ⟨fun hg => ?_, fun hg => ?_⟩
      rotate_left
      · intro hG; exact absurd (h25.trans (by rw [hG])) hg
      have hG := Value.bool.inj (h25.symm.trans hg)
      intro K hK
      have h26 : f 26 = _ := h26 hG
      simp only [over, overL, Nat.reduceAdd, h25, h26, hG]
      go_simp
      refine (within_is _ _ _).mono ?_
      rintro e w2 ⟨v, rfl, hv, hb2⟩
      exact hK _ _ ⟨_, (fun _ => hv), by simp only [over, overL, Nat.reduceAdd, h25, h26, hG]; rfl, hb2⟩
    · intro f w1 hb ⟨h25, _⟩
      have h25 : f 25 = _ := h25
      refine ⟨fun hg => ?_, fun hg => ?_⟩
      rotate_left
      · intro hG; exact absurd (h25.trans (by rw [hG])) hg
      have hG := Value.bool.inj (h25.symm.trans hg)
      intro K hK
      simp only [over, overL, Nat.reduceAdd, h25, hG]
      go_simp
      exact hK _ _ ⟨_, (fun _ => rfl), by simp only [over, overL, Nat.reduceAdd, h25, hG]; rfl, Below.refl _ _⟩
    · intro f w1 hb ⟨h25, h28, _⟩
      have h25 : f 25 = _ := h25
      refine ⟨fun hg => ?_, fun hg => ?_⟩
      rotate_left
      · intro hG; exact absurd (h25.trans (by rw [hG])) hg
      have hG := Value.bool.inj (h25.symm.trans hg)
      intro K hK
      have h28 : f 28 = _ := h28 hG
      have cl : w1.cell? ⟨w.heap.size, 6, none⟩ = some (.int .i64 a.pitch) := cell_later hb (cell_later hB (by go_simp))
      simp only [over, overL, Nat.reduceAdd, h25, h28, hG]
      go_simp
      exact hK _ _ ⟨_, (fun _ => rfl), by simp only [over, overL, Nat.reduceAdd, h25, h28, hG]; rfl, Below.refl _ _⟩
    · intro f w1 hb ⟨h25, h29, _⟩
      have h25 : f 25 = _ := h25
      refine ⟨fun hg => ?_, fun hg => ?_⟩
      rotate_left
      · intro hG; exact absurd (h25.trans (by rw [hG])) hg
      have hG := Value.bool.inj (h25.symm.trans hg)
      intro K hK
      have h29 : f 29 = _ := h29 hG
      simp only [over, overL, Nat.reduceAdd, h25, h29, hG]
      go_simp
      exact hK _ _ ⟨_, (fun _ => new_one _ _ _), by simp only [over, overL, Nat.reduceAdd, h25, h29, hG]; rfl, (Below.refl _ _).alloc (Nat.le_refl _) _⟩
    · intro f w1 hb ⟨h25, h27, h30, _⟩
      have h25 : f 25 = _ := h25
      refine ⟨fun hg => ?_, fun hg => ?_⟩
      rotate_left
      · intro hG; exact absurd (h25.trans (by rw [hG])) hg
      have hG := Value.bool.inj (h25.symm.trans hg)
      intro K hK
      replace h27 := h27 hG
      replace h30 := h30 hG
      simp only [over, overL, Nat.reduceAdd, h25, hG]
      go_simp
      refine (every_v [a.pitch] 1 200000 c1 hc1 _ _ _ (by simp) h27 h30).mono ?_
      rintro e w2 ⟨rfl, hw⟩
      exact hK _ _ ⟨_, (fun _ => rfl), by simp only [over, overL, Nat.reduceAdd, h25, hG]; rfl, hw ▸ Below.refl _ _⟩
    · intro f w1 hb ⟨h25, h31, _⟩ K hK
      have h25 : f 25 = _ := h25
      have h31 : b1 = true → f 31 = _ := h31
      cases hG : b1 with
      | false =>
        rw [hG] at h25
        simp only [over, overL, Nat.reduceAdd, h25]
        go_simp
        exact hK _ _ ⟨.bool false, by simp [measV, hG], by simp only [over, overL, Nat.reduceAdd, h25]; rfl, Below.refl _ _⟩
      | true =>
        have h31 := h31 hG
        rw [hG] at h25
        simp only [over, overL, Nat.reduceAdd, h25, h31]
        go_simp
        exact hK _ _ ⟨.bool c1, by simp [measV, hG], by simp only [over, overL, Nat.reduceAdd, h25, h31]; rfl, Below.refl _ _⟩
    · intro f w1 hb ⟨h32, _⟩ K hK
      have h32 : f 32 = _ := h32
      simp only [over, overL, Nat.reduceAdd, h32]
      go_simp
      exact hK _ _ ⟨_, rfl, by simp only [over, overL, Nat.reduceAdd, h32]; rfl, Below.refl _ _⟩
    · intro f w1 hb ⟨h33, _⟩
      have h33 : f 33 = _ := h33
      refine ⟨fun hg => ?_, fun hg => ?_⟩
      rotate_left
      · intro hG; exact absurd (h33.trans (by rw [hG])) hg
      have hG := Value.bool.inj (h33.symm.trans hg)
      intro K hK
      simp only [over, overL, Nat.reduceAdd, h33, hG]
      go_simp
      refine (within_is _ _ _).mono ?_
      rintro e w2 ⟨v, rfl, hv, hb2⟩
      exact hK _ _ ⟨_, (fun _ => hv), by simp only [over, overL, Nat.reduceAdd, h33, hG]; rfl, hb2⟩
    · intro f w1 hb ⟨h33, _⟩
      have h33 : f 33 = _ := h33
      refine ⟨fun hg => ?_, fun hg => ?_⟩
      rotate_left
      · intro hG; exact absurd (h33.trans (by rw [hG])) hg
      have hG := Value.bool.inj (h33.symm.trans hg)
      intro K hK
      simp only [over, overL, Nat.reduceAdd, h33, hG]
      go_simp
      exact hK _ _ ⟨_, (fun _ => rfl), by simp only [over, overL, Nat.reduceAdd, h33, hG]; rfl, Below.refl _ _⟩
    · intro f w1 hb ⟨h33, h35, _⟩
      have h33 : f 33 = _ := h33
      refine ⟨fun hg => ?_, fun hg => ?_⟩
      rotate_left
      · intro hG; exact absurd (h33.trans (by rw [hG])) hg
      have hG := Value.bool.inj (h33.symm.trans hg)
      intro K hK
      have h35 : f 35 = _ := h35 hG
      have cl : w1.cell? ⟨w.heap.size, 7, none⟩ = some (.int .i64 a.wid) := cell_later hb (cell_later hB (by go_simp))
      simp only [over, overL, Nat.reduceAdd, h33, h35, hG]
      go_simp
      exact hK _ _ ⟨_, (fun _ => rfl), by simp only [over, overL, Nat.reduceAdd, h33, h35, hG]; rfl, Below.refl _ _⟩
    · intro f w1 hb ⟨h33, _⟩
      have h33 : f 33 = _ := h33
      refine ⟨fun hg => ?_, fun hg => ?_⟩
      rotate_left
      · intro hG; exact absurd (h33.trans (by rw [hG])) hg
      have hG := Value.bool.inj (h33.symm.trans hg)
      intro K hK
      simp only [over, overL, Nat.reduceAdd, h33, hG]
      go_simp
      exact hK _ _ ⟨_, (fun _ => rfl), by simp only [over, overL, Nat.reduceAdd, h33, hG]; rfl, Below.refl _ _⟩
    · intro f w1 hb ⟨h33, h37, _⟩
      have h33 : f 33 = _ := h33
      refine ⟨fun hg => ?_, fun hg => ?_⟩
      rotate_left
      · intro hG; exact absurd (h33.trans (by rw [hG])) hg
      have hG := Value.bool.inj (h33.symm.trans hg)
      intro K hK
      have h37 : f 37 = _ := h37 hG
      have cl : w1.cell? ⟨w.heap.size, 8, none⟩ = some (.int .i64 a.len) := cell_later hb (cell_later hB (by go_simp))
      simp only [over, overL, Nat.reduceAdd, h33, h37, hG]
      go_simp
      exact hK _ _ ⟨_, (fun _ => rfl), by simp only [over, overL, Nat.reduceAdd, h33, h37, hG]; rfl, Below.refl _ _⟩
    · intro f w1 hb ⟨h33, _⟩
      have h33 : f 33 = _ := h33
      refine ⟨fun hg => ?_, fun hg => ?_⟩
      rotate_left
      · intro hG; exact absurd (h33.trans (by rw [hG])) hg
      have hG := Value.bool.inj (h33.symm.trans hg)
      intro K hK
      simp only [over, overL, Nat.reduceAdd, h33, hG]
      go_simp
      exact hK _ _ ⟨_, (fun _ => rfl), by simp only [over, overL, Nat.reduceAdd, h33, hG]; rfl, Below.refl _ _⟩
    · intro f w1 hb ⟨h33, h39, _⟩
      have h33 : f 33 = _ := h33
      refine ⟨fun hg => ?_, fun hg => ?_⟩
      rotate_left
      · intro hG; exact absurd (h33.trans (by rw [hG])) hg
      have hG := Value.bool.inj (h33.symm.trans hg)
      intro K hK
      have h39 : f 39 = _ := h39 hG
      have cl : w1.cell? ⟨w.heap.size, 9, none⟩ = some (.int .i64 a.hei) := cell_later hb (cell_later hB (by go_simp))
      simp only [over, overL, Nat.reduceAdd, h33, h39, hG]
      go_simp
      exact hK _ _ ⟨_, (fun _ => rfl), by simp only [over, overL, Nat.reduceAdd, h33, h39, hG]; rfl, Below.refl _ _⟩
    · intro f w1 hb ⟨h33, h36, h38, h40, _⟩
      have h33 : f 33 = _ := h33
      refine ⟨fun hg => ?_, fun hg => ?_⟩
      rotate_left
      · intro hG; exact absurd (h33.trans (by rw [hG])) hg
      have hG := Value.bool.inj (h33.symm.trans hg)
      intro K hK
      have h36 : f 36 = _ := h36 hG
      have h38 : f 38 = _ := h38 hG
      have h40 : f 40 = _ := h40 hG
      simp only [over, overL, Nat.reduceAdd, h33, h36, h38, h40, hG]
      go_simp
      exact hK _ _ ⟨_, (fun _ => new_three _ _ _ _ _), by simp only [over, overL, Nat.reduceAdd, h33, h36, h38, h40, hG]; rfl, (Below.refl _ _).alloc (Nat.le_refl _) _⟩
    · intro f w1 hb ⟨h33, h34, h41, _⟩
      have h33 : f 33 = _ := h33
      refine ⟨fun hg => ?_, fun hg => ?_⟩
      rotate_left
      · intro hG; exact absurd (h33.trans (by rw [hG])) hg
      have hG := Value.bool.inj (h33.symm.trans hg)
      intro K hK
      replace h34 := h34 hG
      replace h41 := h41 hG
      simp only [over, overL, Nat.reduceAdd, h33, hG]
      go_simp
      refine (every_v [a.wid, a.len, a.hei] 1 200000 c2 hc2 _ _ _ (by simp) h34 h41).mono ?_
      rintro e w2 ⟨rfl, hw⟩
      exact hK _ _ ⟨_, (fun _ => rfl), by simp only [over, overL, Nat.reduceAdd, h33, hG]; rfl, hw ▸ Below.refl _ _⟩
    · intro f w1 hb ⟨h33, h42, _⟩ K hK
      have h33 : f 33 = _ := h33
      have h42 : (b1 && c1) = true → f 42 = _ := h42
      cases hG : (b1 && c1) with
      | false =>
        rw [hG] at h33
        simp only [over, overL, Nat.reduceAdd, h33]
        go_simp
        exact hK _ _ ⟨.bool false, by simp [measV, hG], by simp only [over, overL, Nat.reduceAdd, h33]; rfl, Below.refl _ _⟩
      | true =>
        have h42 := h42 hG
        rw [hG] at h33
        simp only [over, overL, Nat.reduceAdd, h33, h42]
        go_simp
        exact hK _ _ ⟨.bool c2, by simp [measV, hG], by simp only [over, overL, Nat.reduceAdd, h33, h42]; rfl, Below.refl _ _⟩
    · intro f w1 hb ⟨h43, _⟩ K hK
      have h43 : f 43 = _ := h43
      simp only [over, overL, Nat.reduceAdd, h43]
      go_simp
      exact hK _ _ ⟨_, rfl, by simp only [over, overL, Nat.reduceAdd, h43]; rfl, Below.refl _ _⟩
    · intro f w1 hb ⟨h44, _⟩
      have h44 : f 44 = _ := h44
      refine ⟨fun hg => ?_, fun hg => ?_⟩
      rotate_left
      · intro hG; exact absurd (h44.trans (by rw [hG])) hg
      have hG := Value.bool.inj (h44.symm.trans hg)
      intro K hK
      simp only [over, overL, Nat.reduceAdd, h44, hG]
      go_simp
      exact hK _ _ ⟨_, (fun _ => ⟨_, _, rfl, cell_later hb hp0, cell_later hb hp1⟩), by simp only [over, overL, Nat.reduceAdd, h44, hG]; rfl, Below.refl _ _⟩
    · intro f w1 hb ⟨h44, _⟩
      have h44 : f 44 = _ := h44
      refine ⟨fun hg => ?_, fun hg => ?_⟩
      rotate_left
      · intro hG; exact absurd (h44.trans (by rw [hG])) hg
      have hG := Value.bool.inj (h44.symm.trans hg)
      intro K hK
      simp only [over, overL, Nat.reduceAdd, h44, hG]
      go_simp
      exact hK _ _ ⟨_, (fun _ => rfl), by simp only [over, overL, Nat.reduceAdd, h44, hG]; rfl, Below.refl _ _⟩
    · intro f w1 hb ⟨h44, h46, _⟩
      have h44 : f 44 = _ := h44
      refine ⟨fun hg => ?_, fun hg => ?_⟩
      rotate_left
      · intro hG; exact absurd (h44.trans (by rw [hG])) hg
      have hG := Value.bool.inj (h44.symm.trans hg)
      intro K hK
      have h46 : f 46 = _ := h46 hG
      have cl : w1.cell? ⟨w.heap.size, 11, none⟩ = some (.int .i64 a.cap) := cell_later hb (cell_later hB (by go_simp))
      simp only [over, overL, Nat.reduceAdd, h44, h46, hG]
      go_simp
      exact hK _ _ ⟨_, (fun _ => rfl), by simp only [over, overL, Nat.reduceAdd, h44, h46, hG]; rfl, Below.refl _ _⟩
    · intro f w1 hb ⟨h44, h47, _⟩
      have h44 : f 44 = _ := h44
      refine ⟨fun hg => ?_, fun hg => ?_⟩
      rotate_left
      · intro hG; exact absurd (h44.trans (by rw [hG])) hg
      have hG := Value.bool.inj (h44.symm.trans hg)
      intro K hK
      have h47 : f 47 = _ := h47 hG
      simp only [over, overL, Nat.reduceAdd, h44, h47, hG]
      go_simp
      exact hK _ _ ⟨_, (fun _ => new_one _ _ _), by simp only [over, overL, Nat.reduceAdd, h44, h47, hG]; rfl, (Below.refl _ _).alloc (Nat.le_refl _) _⟩
    · intro f w1 hb ⟨h44, h45, h48, _⟩
      have h44 : f 44 = _ := h44
      refine ⟨fun hg => ?_, fun hg => ?_⟩
      rotate_left
      · intro hG; exact absurd (h44.trans (by rw [hG])) hg
      have hG := Value.bool.inj (h44.symm.trans hg)
      intro K hK
      replace h45 := h45 hG
      replace h48 := h48 hG
      simp only [over, overL, Nat.reduceAdd, h44, hG]
      go_simp
      refine (every_v [a.cap] 1 1000000000 c3 hc3 _ _ _ (by simp) h45 h48).mono ?_
      rintro e w2 ⟨rfl, hw⟩
      exact hK _ _ ⟨_, (fun _ => rfl), by simp only [over, overL, Nat.reduceAdd, h44, hG]; rfl, hw ▸ Below.refl _ _⟩
    · intro f w1 hb ⟨h44, h49, _⟩ K hK
      have h44 : f 44 = _ := h44
      have h49 : (b1 && c1 && c2) = true → f 49 = _ := h49
      cases hG : (b1 && c1 && c2) with
      | false =>
        rw [hG] at h44
        simp only [over, overL, Nat.reduceAdd, h44]
        go_simp
        exact hK _ _ ⟨.bool false, by simp [measV, hG], by simp only [over, overL, Nat.reduceAdd, h44]; rfl, Below.refl _ _⟩
      | true =>
        have h49 := h49 hG
        rw [hG] at h44
        simp only [over, overL, Nat.reduceAdd, h44, h49]
        go_simp
        exact hK _ _ ⟨.bool c3, by simp [measV, hG], by simp only [over, overL, Nat.reduceAdd, h44, h49]; rfl, Below.refl _ _⟩
    · intro f w1 hb ⟨h50, _⟩ K hK
      have h50 : f 50 = _ := h50
      simp only [over, overL, Nat.reduceAdd, h50]
      go_simp
      exact hK _ _ ⟨_, rfl, by simp only [over, overL, Nat.reduceAdd, h50]; rfl, Below.refl _ _⟩
  · intro f w1 hb h
    have h2 : f 2 = .bool (b1 && c1 && c2 && c3) := h.2.2.2.2.2.2.2.2.2.2.2.2.2.2.2.2.2.2.2.2.2.2.2.2.2.2.2.2.2.2.2.2.2.2.2.1
    simp only [over, overL, h2, Nat.reduceAdd]
    go_wp2
    go_ret
    exact ⟨rfl, ((Below.refl _ _).alloc (Nat.le_refl _) _).trans ((hB.mono (by simp)).trans (hb.mono (by have := hB.size; simp at this; omega)))⟩

set_option maxHeartbeats 3200000 in
theorem isMeasured_11 (a : Wr) (w : World) (hr0 : 0 ≤ a.rows * a.cols) (hr1 : a.rows * a.cols ≤ 384) (hm : 1 < a.rows * a.cols) (hk : a.kind = 3) (b1 c1 c2 c3 : Bool)
    (hb1 : [a.x, a.y, a.deep].all (inR 0 200000) = b1) (hc1 : [a.pitch].all (inR 1 200000) = c1) (hc2 : [a.wid, a.len, a.hei].all (inR 1 200000) = c2) (hc3 : [a.cap].all (inR 0 0) = c3) :
    Calls Try.prog 81 #[wv a] w fun e w' => e = .returned (.bool (b1 && c1 && c2 && c3)) ∧ Below w.heap.size w w' := by
  go_enter Try.func81, Try.ntmps81
  go_wp2_with (go_at_call 80; refine (within_int _ _ _).mono ?_; rintro e w2 ⟨rfl, rfl⟩)
  obtain ⟨W, hW⟩ : ∃ W, W = (((((w.alloc (wobj a)).alloc (.cells #[.int .i64 1] 3)).alloc (.cells #[.int .i64 1000000000] 3)).alloc (.cells #[.int .i64 0] 3)).alloc (.cells #[.int .i64 0] 3)) := ⟨_, rfl⟩
  have hB : Below (w.alloc (wobj a)).heap.size (w.alloc (wobj a)) W := by
    rw [hW]
    repeat (first | exact Below.refl _ _ | refine Below.alloc ?_ (by simp; omega) _ | refine Below.alloc ?_ (by simp) _)
  have hp0 : W.cell? ⟨w.heap.size + 1 + 1 + 1, 0, none⟩ = some (.int .i64 0) := by rw [hW]; go_simp
  have hp1 : W.cell? ⟨w.heap.size + 1 + 1 + 1 + 1, 0, none⟩ = some (.int .i64 0) := by rw [hW]; go_simp
  rw [← hW]
  clear hW
  refine region_inv [false, false, true, false, false, false, false, false, false, false, false, false, false, false, false, false, true, true, true, true, true, true, true, true, true, true, true, true, true, true, true, true, true, true, true, true, true, true, true, true, true, true, true, true, true, true, true, true, true, true, true]
    [(16, [], none), (17, [], none), (18, [17], none), (19, [], none), (20, [19], none), (21, [], none), (22, [21], none), (23, [18, 20, 22], none), (24, [16, 23], none), (25, [24], none), (26, [25], some (25, true)), (27, [25, 26], some (25, true)), (28, [25], some (25, true)), (29, [25, 28], some (25, true)), (30, [25, 29], some (25, true)), (31, [25, 27, 30], some (25, true)), (32, [25, 31], none), (33, [32], none), (34, [33], some (33, true)), (35, [33], some (33, true)), (36, [33, 35], some (33, true)), (37, [33], some (33, true)), (38, [33, 37], some (33, true)), (39, [33], some (33, true)), (40, [33, 39], some (33, true)), (41, [33, 36, 38, 40], some (33, true)), (42, [33, 34, 41], some (33, true)), (43, [33, 42], none), (44, [43], none), (45, [44], some (44, true)), (46, [44], some (44, true)), (47, [44, 46], some (44, true)), (48, [44, 47], some (44, true)), (49, [44, 45, 48], some (44, true)), (50, [44, 49], none), (2, [50], none)]
    (measV a 1 0 0 b1 c1 c2 c3 w.heap.size) (by kernel_rfl) (by kernel_rfl) (measV_mono a 1 0 0 b1 c1 c2 c3 w.heap.size) ?_ ?_
  · refine ⟨?_, ?_, ?_, ?_, ?_, ?_, ?_, ?_, ?_, ?_, ?_, ?_, ?_, ?_, ?_, ?_, ?_, ?_, ?_, ?_, ?_, ?_, ?_, ?_, ?_, ?_, ?_, ?_, ?_, ?_, ?_, ?_, ?_, ?_, ?_, ?_, trivial⟩
    · intro f w1 hb _ K hK
      simp only [over, overL, Nat.reduceAdd]
      go_simp
      refine (within_is _ _ _).mono ?_
      rintro e w2 ⟨v, rfl, hv, hb2⟩
      exact hK _ _ ⟨_, hv, by simp only [over, overL, Nat.reduceAdd]; rfl, hb2⟩
    · intro f w1 hb _ K hK
      simp only [over, overL, Nat.reduceAdd]
      go_simp
      exact hK _ _ ⟨_, rfl, by simp only [over, overL, Nat.reduceAdd]; rfl, Below.refl _ _⟩
    · intro f w1 hb ⟨h17, _⟩ K hK
      have h17 : f 17 = _ := h17
      have cl : w1.cell? ⟨w.heap.size, 4, none⟩ = some (.int .i64 a.x) := cell_later hb (cell_later hB (by go_simp))
      simp only [over, overL, Nat.reduceAdd, h17]
      go_simp
      exact hK _ _ ⟨_, rfl, by simp only [over, overL, Nat.reduceAdd, h17]; rfl, Below.refl _ _⟩
    · intro f w1 hb _ K hK
      simp only [over, overL, Nat.reduceAdd]
      go_simp
      exact hK _ _ ⟨_, rfl, by simp only [over, overL, Nat.reduceAdd]; rfl, Below.refl _ _⟩
    · intro f w1 hb ⟨h19, _⟩ K hK
      have h19 : f 19 = _ := h19
      have cl : w1.cell? ⟨w.heap.size, 5, none⟩ = some (.int .i64 a.y) := cell_later hb (cell_later hB (by go_simp))
      simp only [over, overL, Nat.reduceAdd, h19]
      go_simp
      exact hK _ _ ⟨_, rfl, by simp only [over, overL, Nat.reduceAdd, h19]; rfl, Below.refl _ _⟩
    · intro f w1 hb _ K hK
      simp only [over, overL, Nat.reduceAdd]
      go_simp
      exact hK _ _ ⟨_, rfl, by simp only [over, overL, Nat.reduceAdd]; rfl, Below.refl _ _⟩
    · intro f w1 hb ⟨h21, _⟩ K hK
      have h21 : f 21 = _ := h21
      have cl : w1.cell? ⟨w.heap.size, 10, none⟩ = some (.int .i64 a.deep) := cell_later hb (cell_later hB (by go_simp))
      simp only [over, overL, Nat.reduceAdd, h21]
      go_simp
      exact hK _ _ ⟨_, rfl, by simp only [over, overL, Nat.reduceAdd, h21]; rfl, Below.refl _ _⟩
    · intro f w1 hb ⟨h18, h20, h22, _⟩ K hK
      have h18 : f 18 = _ := h18
      have h20 : f 20 = _ := h20
      have h22 : f 22 = _ := h22
      simp only [over, overL, Nat.reduceAdd, h18, h20, h22]
      go_simp
      exact hK _ _ ⟨_, new_three _ _ _ _ _, by simp only [over, overL, Nat.reduceAdd, h18, h20, h22]; rfl, (Below.refl _ _).alloc (Nat.le_refl _) _⟩
    · intro f w1 hb ⟨h16, h23, _⟩ K hK
      simp only [over, overL, Nat.reduceAdd]
      go_simp
      refine (every_v [a.x, a.y, a.deep] 0 200000 b1 hb1 _ _ _ (by simp) h16 h23).mono ?_
      rintro e w2 ⟨rfl, hw⟩
      exact hK _ _ ⟨_, rfl, by simp only [over, overL, Nat.reduceAdd]; rfl, hw ▸ Below.refl _ _⟩
    · intro f w1 hb ⟨h24, _⟩ K hK
      have h24 : f 24 = _ := h24
      simp only [over, overL, Nat.reduceAdd, h24]
      go_simp
      exact hK _ _ ⟨_, rfl, by simp only [over, overL, Nat.reduceAdd, h24]; rfl, Below.refl _ _⟩
    · intro f w1 hb ⟨h25, _⟩
      have h25 : f 25 = _ := h25
      refine ⟨fun hg => ?_, fun hg => ?_⟩
      rotate_left
      · intro hG; exact absurd (h25.trans (by rw [hG])) hg
      have hG := Value.bool.inj (h25.symm.trans hg)
      intro K hK
      simp only [over, overL, Nat.reduceAdd, h25, hG]
      go_simp
      exact hK _ _ ⟨_, (fun _ => rfl), by simp only [over, overL, Nat.reduceAdd, h25, hG]; rfl, Below.refl _ _⟩
    · intro f w1 hb ⟨h25, h26, _⟩
      have h25 : f 25 = _ := h25
      refine ⟨fun hg => ?_, fun hg => ?_⟩
      rotate_left
      · intro hG; exact absurd (h25.trans (by rw [hG])) hg
      have hG := Value.bool.inj (h25.symm.trans hg)
      intro K hK
      have h26 : f 26 = _ := h26 hG
      simp only [over, overL, Nat.reduceAdd, h25, h26, hG]
      go_simp
      refine (within_is _ _ _).mono ?_
      rintro e w2 ⟨v, rfl, hv, hb2⟩
      exact hK _ _ ⟨_, (fun _ => hv), by simp only [over, overL, Nat.reduceAdd, h25, h26, hG]; rfl, hb2⟩
    · intro f w1 hb ⟨h25, _⟩
      have h25 : f 25 = _ := h25
      refine ⟨fun hg => ?_, fun hg => ?_⟩
      rotate_left
      · intro hG; exact absurd (h25.trans (by rw [hG])) hg
      have hG := Value.bool.inj (h25.symm.trans hg)
      intro K hK
      simp only [over, overL, Nat.reduceAdd, h25, hG]
      go_simp
      exact hK _ _ ⟨_, (fun _ => rfl), by simp only [over, overL, Nat.reduceAdd, h25, hG]; rfl, Below.refl _ _⟩
    · intro f w1 hb ⟨h25, h28, _⟩
      have h25 : f 25 = _ := h25
      refine ⟨fun hg => ?_, fun hg => ?_⟩
      rotate_left
      · intro hG; exact absurd (h25.trans (by rw [hG])) hg
      have hG := Value.bool.inj (h25.symm.trans hg)
      intro K hK
      have h28 : f 28 = _ := h28 hG
      have cl : w1.cell? ⟨w.heap.size, 6, none⟩ = some (.int .i64 a.pitch) := cell_later hb (cell_later hB (by go_simp))
      simp only [over, overL, Nat.reduceAdd, h25, h28, hG]
      go_simp
      exact hK _ _ ⟨_, (fun _ => rfl), by simp only [over, overL, Nat.reduceAdd, h25, h28, hG]; rfl, Below.refl _ _⟩
    · intro f w1 hb ⟨h25, h29, _⟩
      have h25 : f 25 = _ := h25
      refine ⟨fun hg => ?_, fun hg => ?_⟩
      rotate_left
      · intro hG; exact absurd (h25.trans (by rw [hG])) hg
      have hG := Value.bool.inj (h25.symm.trans hg)
      intro K hK
      have h29 : f 29 = _ := h29 hG
      simp only [over, overL, Nat.reduceAdd, h25, h29, hG]
      go_simp
      exact hK _ _ ⟨_, (fun _ => new_one _ _ _), by simp only [over, overL, Nat.reduceAdd, h25, h29, hG]; rfl, (Below.refl _ _).alloc (Nat.le_refl _) _⟩
    · intro f w1 hb ⟨h25, h27, h30, _⟩
      have h25 : f 25 = _ := h25
      refine ⟨fun hg => ?_, fun hg => ?_⟩
      rotate_left
      · intro hG; exact absurd (h25.trans (by rw [hG])) hg
      have hG := Value.bool.inj (h25.symm.trans hg)
      intro K hK
      replace h27 := h27 hG
      replace h30 := h30 hG
      simp only [over, overL, Nat.reduceAdd, h25, hG]
      go_simp
      refine (every_v [a.pitch] 1 200000 c1 hc1 _ _ _ (by simp) h27 h30).mono ?_
      rintro e w2 ⟨rfl, hw⟩
      exact hK _ _ ⟨_, (fun _ => rfl), by simp only [over, overL, Nat.reduceAdd, h25, hG]; rfl, hw ▸ Below.refl _ _⟩
    · intro f w1 hb ⟨h25, h31, _⟩ K hK
      have h25 : f 25 = _ := h25
      have h31 : b1 = true → f 31 = _ := h31
      cases hG : b1 with
      | false =>
        rw [hG] at h25
        simp only [over, overL, Nat.reduceAdd, h25]
        go_simp
        exact hK _ _ ⟨.bool false, by simp [measV, hG], by simp only [over, overL, Nat.reduceAdd, h25]; rfl, Below.refl _ _⟩
      | true =>
        have h31 := h31 hG
        rw [hG] at h25
        simp only [over, overL, Nat.reduceAdd, h25, h31]
        go_simp
        exact hK _ _ ⟨.bool c1, by simp [measV, hG], by simp only [over, overL, Nat.reduceAdd, h25, h31]; rfl, Below.refl _ _⟩
    · intro f w1 hb ⟨h32, _⟩ K hK
      have h32 : f 32 = _ := h32
      simp only [over, overL, Nat.reduceAdd, h32]
      go_simp
      exact hK _ _ ⟨_, rfl, by simp only [over, overL, Nat.reduceAdd, h32]; rfl, Below.refl _ _⟩
    · intro f w1 hb ⟨h33, _⟩
      have h33 : f 33 = _ := h33
      refine ⟨fun hg => ?_, fun hg => ?_⟩
      rotate_left
      · intro hG; exact absurd (h33.trans (by rw [hG])) hg
      have hG := Value.bool.inj (h33.symm.trans hg)
      intro K hK
      simp only [over, overL, Nat.reduceAdd, h33, hG]
      go_simp
      refine (within_is _ _ _).mono ?_
      rintro e w2 ⟨v, rfl, hv, hb2⟩
      exact hK _ _ ⟨_, (fun _ => hv), by simp only [over, overL, Nat.reduceAdd, h33, hG]; rfl, hb2⟩
    · intro f w1 hb ⟨h33, _⟩
      have h33 : f 33 = _ := h33
      refine ⟨fun hg => ?_, fun hg => ?_⟩
      rotate_left
      · intro hG; exact absurd (h33.trans (by rw [hG])) hg
      have hG := Value.bool.inj (h33.symm.trans hg)
      intro K hK
      simp only [over, overL, Nat.reduceAdd, h33, hG]
      go_simp
      exact hK _ _ ⟨_, (fun _ => rfl), by simp only [over, overL, Nat.reduceAdd, h33, hG]; rfl, Below.refl _ _⟩
    · intro f w1 hb ⟨h33, h35, _⟩
      have h33 : f 33 = _ := h33
      refine ⟨fun hg => ?_, fun hg => ?_⟩
      rotate_left
      · intro hG; exact absurd (h33.trans (by rw [hG])) hg
      have hG := Value.bool.inj (h33.symm.trans hg)
      intro K hK
      have h35 : f 35 = _ := h35 hG
      have cl : w1.cell? ⟨w.heap.size, 7, none⟩ = some (.int .i64 a.wid) := cell_later hb (cell_later hB (by go_simp))
      simp only [over, overL, Nat.reduceAdd, h33, h35, hG]
      go_simp
      exact hK _ _ ⟨_, (fun _ => rfl), by simp only [over, overL, Nat.reduceAdd, h33, h35, hG]; rfl, Below.refl _ _⟩
    · intro f w1 hb ⟨h33, _⟩
      have h33 : f 33 = _ := h33
      refine ⟨fun hg => ?_, fun hg => ?_⟩
      rotate_left
      · intro hG; exact absurd (h33.trans (by rw [hG])) hg
      have hG := Value.bool.inj (h33.symm.trans hg)
      intro K hK
      simp only [over, overL, Nat.reduceAdd, h33, hG]
      go_simp
      exact hK _ _ ⟨_, (fun _ => rfl), by simp only [over, overL, Nat.reduceAdd, h33, hG]; rfl, Below.refl _ _⟩
    · intro f w1 hb ⟨h33, h37, _⟩
      have h33 : f 33 = _ := h33
      refine ⟨fun hg => ?_, fun hg => ?_⟩
      rotate_left
      · intro hG; exact absurd (h33.trans (by rw [hG])) hg
      have hG := Value.bool.inj (h33.symm.trans hg)
      intro K hK
      have h37 : f 37 = _ := h37 hG
      have cl : w1.cell? ⟨w.heap.size, 8, none⟩ = some (.int .i64 a.len) := cell_later hb (cell_later hB (by go_simp))
      simp only [over, overL, Nat.reduceAdd, h33, h37, hG]
      go_simp
      exact hK _ _ ⟨_, (fun _ => rfl), by simp only [over, overL, Nat.reduceAdd, h33, h37, hG]; rfl, Below.refl _ _⟩
    · intro f w1 hb ⟨h33, _⟩
      have h33 : f 33 = _ := h33
      refine ⟨fun hg => ?_, fun hg => ?_⟩
      rotate_left
      · intro hG; exact absurd (h33.trans (by rw [hG])) hg
      have hG := Value.bool.inj (h33.symm.trans hg)
      intro K hK
      simp only [over, overL, Nat.reduceAdd, h33, hG]
      go_simp
      exact hK _ _ ⟨_, (fun _ => rfl), by simp only [over, overL, Nat.reduceAdd, h33, hG]; rfl, Below.refl _ _⟩
    · intro f w1 hb ⟨h33, h39, _⟩
      have h33 : f 33 = _ := h33
      refine ⟨fun hg => ?_, fun hg => ?_⟩
      rotate_left
      · intro hG; exact absurd (h33.trans (by rw [hG])) hg
      have hG := Value.bool.inj (h33.symm.trans hg)
      intro K hK
      have h39 : f 39 = _ := h39 hG
      have cl : w1.cell? ⟨w.heap.size, 9, none⟩ = some (.int .i64 a.hei) := cell_later hb (cell_later hB (by go_simp))
      simp only [over, overL, Nat.reduceAdd, h33, h39, hG]
      go_simp
      exact hK _ _ ⟨_, (fun _ => rfl), by simp only [over, overL, Nat.reduceAdd, h33, h39, hG]; rfl, Below.refl _ _⟩
    · intro f w1 hb ⟨h33, h36, h38, h40, _⟩
      have h33 : f 33 = _ := h33
      refine ⟨fun hg => ?_, fun hg => ?_⟩
      rotate_left
      · intro hG; exact absurd (h33.trans (by rw [hG])) hg
      have hG := Value.bool.inj (h33.symm.trans hg)
      intro K hK
      have h36 : f 36 = _ := h36 hG
      have h38 : f 38 = _ := h38 hG
      have h40 : f 40 = _ := h40 hG
      simp only [over, overL, Nat.reduceAdd, h33, h36, h38, h40, hG]
      go_simp
      exact hK _ _ ⟨_, (fun _ => new_three _ _ _ _ _), by simp only [over, overL, Nat.reduceAdd, h33, h36, h38, h40, hG]; rfl, (Below.refl _ _).alloc (Nat.le_refl _) _⟩
    · intro f w1 hb ⟨h33, h34, h41, _⟩
      have h33 : f 33 = _ := h33
      refine ⟨fun hg => ?_, fun hg => ?_⟩
      rotate_left
      · intro hG; exact absurd (h33.trans (by rw [hG])) hg
      have hG := Value.bool.inj (h33.symm.trans hg)
      intro K hK
      replace h34 := h34 hG
      replace h41 := h41 hG
      simp only [over, overL, Nat.reduceAdd, h33, hG]
      go_simp
      refine (every_v [a.wid, a.len, a.hei] 1 200000 c2 hc2 _ _ _ (by simp) h34 h41).mono ?_
      rintro e w2 ⟨rfl, hw⟩
      exact hK _ _ ⟨_, (fun _ => rfl), by simp only [over, overL, Nat.reduceAdd, h33, hG]; rfl, hw ▸ Below.refl _ _⟩
    · intro f w1 hb ⟨h33, h42, _⟩ K hK
      have h33 : f 33 = _ := h33
      have h42 : (b1 && c1) = true → f 42 = _ := h42
      cases hG : (b1 && c1) with
      | false =>
        rw [hG] at h33
        simp only [over, overL, Nat.reduceAdd, h33]
        go_simp
        exact hK _ _ ⟨.bool false, by simp [measV, hG], by simp only [over, overL, Nat.reduceAdd, h33]; rfl, Below.refl _ _⟩
      | true =>
        have h42 := h42 hG
        rw [hG] at h33
        simp only [over, overL, Nat.reduceAdd, h33, h42]
        go_simp
        exact hK _ _ ⟨.bool c2, by simp [measV, hG], by simp only [over, overL, Nat.reduceAdd, h33, h42]; rfl, Below.refl _ _⟩
    · intro f w1 hb ⟨h43, _⟩ K hK
      have h43 : f 43 = _ := h43
      simp only [over, overL, Nat.reduceAdd, h43]
      go_simp
      exact hK _ _ ⟨_, rfl, by simp only [over, overL, Nat.reduceAdd, h43]; rfl, Below.refl _ _⟩
    · intro f w1 hb ⟨h44, _⟩
      have h44 : f 44 = _ := h44
      refine ⟨fun hg => ?_, fun hg => ?_⟩
      rotate_left
      · intro hG; exact absurd (h44.trans (by rw [hG])) hg
      have hG := Value.bool.inj (h44.symm.trans hg)
      intro K hK
      simp only [over, overL, Nat.reduceAdd, h44, hG]
      go_simp
      exact hK _ _ ⟨_, (fun _ => ⟨_, _, rfl, cell_later hb hp0, cell_later hb hp1⟩), by simp only [over, overL, Nat.reduceAdd, h44, hG]; rfl, Below.refl _ _⟩
    · intro f w1 hb ⟨h44, _⟩
      have h44 : f 44 = _ := h44
      refine ⟨fun hg => ?_, fun hg => ?_⟩
      rotate_left
      · intro hG; exact absurd (h44.trans (by rw [hG])) hg
      have hG := Value.bool.inj (h44.symm.trans hg)
      intro K hK
      simp only [over, overL, Nat.reduceAdd, h44, hG]
      go_simp
      exact hK _ _ ⟨_, (fun _ => rfl), by simp only [over, overL, Nat.reduceAdd, h44, hG]; rfl, Below.refl _ _⟩
    · intro f w1 hb ⟨h44, h46, _⟩
      have h44 : f 44 = _ := h44
      refine ⟨fun hg => ?_, fun hg => ?_⟩
      rotate_left
      · intro hG; exact absurd (h44.trans (by rw [hG])) hg
      have hG := Value.bool.inj (h44.symm.trans hg)
      intro K hK
      have h46 : f 46 = _ := h46 hG
      have cl : w1.cell? ⟨w.heap.size, 11, none⟩ = some (.int .i64 a.cap) := cell_later hb (cell_later hB (by go_simp))
      simp only [over, overL, Nat.reduceAdd, h44, h46, hG]
      go_simp
      exact hK _ _ ⟨_, (fun _ => rfl), by simp only [over, overL, Nat.reduceAdd, h44, h46, hG]; rfl, Below.refl _ _⟩
    · intro f w1 hb ⟨h44, h47, _⟩
      have h44 : f 44 = _ := h44
      refine ⟨fun hg => ?_, fun hg => ?_⟩
      rotate_left
      · intro hG; exact absurd (h44.trans (by rw [hG])) hg
      have hG := Value.bool.inj (h44.symm.trans hg)
      intro K hK
      have h47 : f 47 = _ := h47 hG
      simp only [over, overL, Nat.reduceAdd, h44, h47, hG]
      go_simp
      exact hK _ _ ⟨_, (fun _ => new_one _ _ _), by simp only [over, overL, Nat.reduceAdd, h44, h47, hG]; rfl, (Below.refl _ _).alloc (Nat.le_refl _) _⟩
    · intro f w1 hb ⟨h44, h45, h48, _⟩
      have h44 : f 44 = _ := h44
      refine ⟨fun hg => ?_, fun hg => ?_⟩
      rotate_left
      · intro hG; exact absurd (h44.trans (by rw [hG])) hg
      have hG := Value.bool.inj (h44.symm.trans hg)
      intro K hK
      replace h45 := h45 hG
      replace h48 := h48 hG
      simp only [over, overL, Nat.reduceAdd, h44, hG]
      go_simp
      refine (every_v [a.cap] 0 0 c3 hc3 _ _ _ (by simp) h45 h48).mono ?_
      rintro e w2 ⟨rfl, hw⟩
      exact hK _ _ ⟨_, (fun _ => rfl), by simp only [over, overL, Nat.reduceAdd, h44, hG]; rfl, hw ▸ Below.refl _ _⟩
    · intro f w1 hb ⟨h44, h49, _⟩ K hK
      have h44 : f 44 = _ := h44
      have h49 : (b1 && c1 && c2) = true → f 49 = _ := h49
      cases hG : (b1 && c1 && c2) with
      | false =>
        rw [hG] at h44
        simp only [over, overL, Nat.reduceAdd, h44]
        go_simp
        exact hK _ _ ⟨.bool false, by simp [measV, hG], by simp only [over, overL, Nat.reduceAdd, h44]; rfl, Below.refl _ _⟩
      | true =>
        have h49 := h49 hG
        rw [hG] at h44
        simp only [over, overL, Nat.reduceAdd, h44, h49]
        go_simp
        exact hK _ _ ⟨.bool c3, by simp [measV, hG], by simp only [over, overL, Nat.reduceAdd, h44, h49]; rfl, Below.refl _ _⟩
    · intro f w1 hb ⟨h50, _⟩ K hK
      have h50 : f 50 = _ := h50
      simp only [over, overL, Nat.reduceAdd, h50]
      go_simp
      exact hK _ _ ⟨_, rfl, by simp only [over, overL, Nat.reduceAdd, h50]; rfl, Below.refl _ _⟩
  · intro f w1 hb h
    have h2 : f 2 = .bool (b1 && c1 && c2 && c3) := h.2.2.2.2.2.2.2.2.2.2.2.2.2.2.2.2.2.2.2.2.2.2.2.2.2.2.2.2.2.2.2.2.2.2.2.1
    simp only [over, overL, h2, Nat.reduceAdd]
    go_wp2
    go_ret
    exact ⟨rfl, ((Below.refl _ _).alloc (Nat.le_refl _) _).trans ((hB.mono (by simp)).trans (hb.mono (by have := hB.size; simp at this; omega)))⟩


end Go.Proofs.Ytgelbndbkmedlaa

/- isMeasured, middle, isRoomy walked. -/
namespace Go.Proofs.Ytgelbndbkmedlaa
open Go.RowKit
theorem all1 {x lo hi : Int} : [x].all (inR lo hi) = inR lo hi x := by simp
theorem isMeasured_any (a : Wr) (w : World) (hr0 : 0 ≤ a.rows * a.cols) (hr1 : a.rows * a.cols ≤ 384) :
    Calls Try.prog 81 #[wv a] w fun e w' => e = .returned (.bool (rangeOk a)) ∧ Below w.heap.size w w' := by
  by_cases hm : 1 < a.rows * a.cols
  · have hl : loP a = 1 := if_pos hm
    by_cases hk : a.kind = 3
    · have h1 : loC a = 0 := if_pos hk
      have h2 : hiC a = 0 := if_pos hk
      have h := isMeasured_11 a w hr0 hr1 hm hk _ _ _ _ rfl rfl rfl rfl
      unfold rangeOk; rw [hl, h1, h2]; exact h
    · have h1 : loC a = 1 := if_neg hk
      have h2 : hiC a = 1000000000 := if_neg hk
      have h := isMeasured_10 a w hr0 hr1 hm (by simp [hk]) _ _ _ _ rfl rfl rfl rfl
      unfold rangeOk; rw [hl, h1, h2]; exact h
  · have hl : loP a = 0 := if_neg hm
    by_cases hk : a.kind = 3
    · have h1 : loC a = 0 := if_pos hk
      have h2 : hiC a = 0 := if_pos hk
      have h := isMeasured_01 a w hr0 hr1 (by omega) hk _ _ _ _ rfl rfl rfl rfl
      unfold rangeOk; rw [hl, h1, h2]; exact h
    · have h1 : loC a = 1 := if_neg hk
      have h2 : hiC a = 1000000000 := if_neg hk
      have h := isMeasured_00 a w hr0 hr1 (by omega) (by simp [hk]) _ _ _ _ rfl rfl rfl rfl
      unfold rangeOk; rw [hl, h1, h2]; exact h

/-- What is known of a ware whose counts and numbers are in their ranges. -/
structure InR (a : Wr) : Prop where
  r1 : 1 ≤ a.rows
  r2 : a.rows ≤ 16
  c1 : 1 ≤ a.cols
  c2 : a.cols ≤ 24
  x0 : 0 ≤ a.x
  x1 : a.x ≤ 200000
  y0 : 0 ≤ a.y
  y1 : a.y ≤ 200000
  p0 : 0 ≤ a.pitch
  p1 : a.pitch ≤ 200000
  w0 : 1 ≤ a.wid
  w1 : a.wid ≤ 200000
  l0 : 1 ≤ a.len
  l1 : a.len ≤ 200000
  h0 : 1 ≤ a.hei
  h1 : a.hei ≤ 200000
  d0 : 0 ≤ a.deep
  d1 : a.deep ≤ 200000
theorem loP_in (a : Wr) : 0 ≤ loP a := by unfold loP; split <;> decide
theorem inR_of {a : Wr} (hr : inR 1 16 a.rows = true) (hc : inR 1 24 a.cols = true) (h : rangeOk a = true) : InR a := by
  have h1 := inR_iff.1 hr
  have h2 := inR_iff.1 hc
  simp only [rangeOk, List.all_cons, List.all_nil, Bool.and_true, Bool.and_eq_true, inR_iff] at h
  obtain ⟨⟨⟨⟨hx, hy, hd⟩, hp⟩, hw, hl, hh⟩, _⟩ := h
  have := loP_in a
  exact ⟨h1.1, h1.2, h2.1, h2.2, hx.1, hx.2, hy.1, hy.2, by omega, hp.2, hw.1, hw.2, hl.1, hl.2, hh.1, hh.2, hd.1, hd.2⟩
theorem prod_in {c p : Int} (h0 : 0 ≤ c) (h1 : c ≤ 100) (h2 : 0 ≤ p) (h3 : p ≤ 200000) : 0 ≤ c * p ∧ c * p ≤ 20000000 := by
  refine ⟨Int.mul_nonneg h0 h2, ?_⟩
  have k1 : c * p ≤ c * 200000 := Int.mul_le_mul_of_nonneg_left h3 h0
  omega

theorem box3 {w : World} {b : Nat} {u0 u1 u2 : Value} (c0 : w.cell? ⟨b, 0, none⟩ = some u0) (c1 : w.cell? ⟨b, 1, none⟩ = some u1) (c2 : w.cell? ⟨b, 2, none⟩ = some u2) (x y z : Value) :
    (((w.setCell ⟨b, 0, none⟩ x).setCell ⟨b, 1, none⟩ y).setCell ⟨b, 2, none⟩ z).cell? ⟨b, 0, none⟩ = some x ∧
    (((w.setCell ⟨b, 0, none⟩ x).setCell ⟨b, 1, none⟩ y).setCell ⟨b, 2, none⟩ z).cell? ⟨b, 1, none⟩ = some y ∧
    (((w.setCell ⟨b, 0, none⟩ x).setCell ⟨b, 1, none⟩ y).setCell ⟨b, 2, none⟩ z).cell? ⟨b, 2, none⟩ = some z := by
  refine ⟨?_, ?_, ?_⟩
  all_goals simp [go_sem, c0, c1, c2]

set_option maxHeartbeats 1600000 in
theorem middle_any (a : Wr) (r c : Int) (w : World) (h : InR a) (hr0 : 0 ≤ r) (hr1 : r ≤ 100) (hc0 : 0 ≤ c) (hc1 : c ≤ 100) :
    Calls Try.prog 101 #[wv a, .agg #[.int .i64 r, .int .i64 c]] w fun e w' => e = .returned (.agg #[.int .i64 (a.x + c * a.pitch), .int .i64 (a.y + r * a.pitch), .int .i64 (a.hei - a.deep)]) ∧ Below w.heap.size w w' := by
  obtain ⟨r1, r2, c1, c2, x0, x1, y0, y1, p0, p1, w0, w1, l0, l1, h0, h1, d0, d1⟩ := h
  obtain ⟨m0, m1⟩ := prod_in hc0 hc1 p0 p1
  obtain ⟨n0, n1⟩ := prod_in hr0 hr1 p0 p1
  go_enter Try.func101, Try.ntmps101
  go_wp2
  refine bodyPost_ret (v := .agg #[.int .i64 (a.x + c * a.pitch), .int .i64 (a.y + r * a.pitch), .int .i64 (a.hei - a.deep)]) (by simp [results, Try.results101, go_sem]) rfl ⟨rfl, ?_⟩
  repeat (first | exact Below.refl _ _ | refine Below.alloc ?_ (by simp; omega) _ | refine Below.alloc ?_ (by simp) _)

/-- Is a ware great enough for its wells? -/
def roomOk (a : Wr) : Bool := decide (a.x + (a.cols - 1) * a.pitch ≤ a.wid) && (decide (a.y + (a.rows - 1) * a.pitch ≤ a.len) && decide (a.deep ≤ a.hei))

set_option maxHeartbeats 3200000 in
theorem isRoomy_any (a : Wr) (w : World) (h : InR a) :
    Calls Try.prog 82 #[wv a] w fun e w' => e = .returned (.bool (roomOk a)) ∧ Below w.heap.size w w' := by
  have H : Hid (InR a) := h
  obtain ⟨r1, r2, c1, c2, _, _, _, _, _, _, _, _, _, _, _, _, _, _⟩ := h
  obtain ⟨X, hX⟩ : ∃ X, X = a.x + (a.cols - 1) * a.pitch := ⟨_, rfl⟩
  obtain ⟨Y, hY⟩ : ∃ Y, Y = a.y + (a.rows - 1) * a.pitch := ⟨_, rfl⟩
  have HR : Hid (roomOk a = (decide (X ≤ a.wid) && (decide (Y ≤ a.len) && decide (a.deep ≤ a.hei)))) := by rw [hX, hY]; rfl
  rw [HR.out]
  have HM : Hid (∀ w : World, Calls Try.prog 101 #[wv a, .agg #[.int .i64 (a.rows - 1), .int .i64 (a.cols - 1)]] w fun e w' => e = .returned (.agg #[.int .i64 X, .int .i64 Y, .int .i64 (a.hei - a.deep)]) ∧ Below w.heap.size w w') := by
    intro w
    rw [hX, hY]
    exact middle_any a (a.rows - 1) (a.cols - 1) w H.out (by omega) (by omega) (by omega) (by omega)
  clear hX hY
  by_cases q1 : X ≤ a.wid
  · by_cases q2 : Y ≤ a.len
    · by_cases q3 : a.deep ≤ a.hei
      all_goals
        go_enter Try.func82, Try.ntmps82
        go_wp2_with fail
        refine (HM.out _).mono ?_
        rintro e w2 ⟨rfl, hb⟩
        have hB : Below w.heap.size w w2 := ((Below.refl _ _).alloc (Nat.le_refl _) _).trans (hb.mono (by simp))
        have k7 : ∀ o, (w2.alloc o).cell? ⟨w.heap.size, 7, none⟩ = some (.int .i64 a.wid) := fun o => cell_later ((Below.refl _ w2).alloc (Nat.le_refl _) o) (cell_later hb (by go_simp))
        have k8 : ∀ o, (w2.alloc o).cell? ⟨w.heap.size, 8, none⟩ = some (.int .i64 a.len) := fun o => cell_later ((Below.refl _ w2).alloc (Nat.le_refl _) o) (cell_later hb (by go_simp))
        have k9 : ∀ o, (w2.alloc o).cell? ⟨w.heap.size, 9, none⟩ = some (.int .i64 a.hei) := fun o => cell_later ((Below.refl _ w2).alloc (Nat.le_refl _) o) (cell_later hb (by go_simp))
        have k10 : ∀ o, (w2.alloc o).cell? ⟨w.heap.size, 10, none⟩ = some (.int .i64 a.deep) := fun o => cell_later ((Below.refl _ w2).alloc (Nat.le_refl _) o) (cell_later hb (by go_simp))
        go_wp2
        go_ret
        refine ⟨ret_bool ?_, hB.alloc hB.size _⟩
        simp [q1, q2]
        try omega
    · have q2' : decide (Y ≤ a.len) = false := by simp; omega
      go_enter Try.func82, Try.ntmps82
      go_wp2_with fail
      refine (HM.out _).mono ?_
      rintro e w2 ⟨rfl, hb⟩
      have hB : Below w.heap.size w w2 := ((Below.refl _ _).alloc (Nat.le_refl _) _).trans (hb.mono (by simp))
      have k7 : ∀ o, (w2.alloc o).cell? ⟨w.heap.size, 7, none⟩ = some (.int .i64 a.wid) := fun o => cell_later ((Below.refl _ w2).alloc (Nat.le_refl _) o) (cell_later hb (by go_simp))
      have k8 : ∀ o, (w2.alloc o).cell? ⟨w.heap.size, 8, none⟩ = some (.int .i64 a.len) := fun o => cell_later ((Below.refl _ w2).alloc (Nat.le_refl _) o) (cell_later hb (by go_simp))
      go_wp2
      go_ret
      exact ⟨ret_bool (by simp; omega), hB.alloc hB.size _⟩
  · have q1' : decide (X ≤ a.wid) = false := by simp; omega
    go_enter Try.func82, Try.ntmps82
    go_wp2_with fail
    refine (HM.out _).mono ?_
    rintro e w2 ⟨rfl, hb⟩
    have hB : Below w.heap.size w w2 := ((Below.refl _ _).alloc (Nat.le_refl _) _).trans (hb.mono (by simp))
    have k7 : ∀ o, (w2.alloc o).cell? ⟨w.heap.size, 7, none⟩ = some (.int .i64 a.wid) := fun o => cell_later ((Below.refl _ w2).alloc (Nat.le_refl _) o) (cell_later hb (by go_simp))
    go_wp2
    go_ret
    exact ⟨ret_bool (by simp; omega), hB.alloc hB.size _⟩

end Go.Proofs.Ytgelbndbkmedlaa
