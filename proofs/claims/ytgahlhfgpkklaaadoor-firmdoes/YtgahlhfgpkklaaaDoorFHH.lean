/- mayBe walked. -/
import Derived.Test.YtgahlhfgpkklaaaDoorFGH
namespace Go.Proofs.YtgahlhfgpkklaaaDoor
open Go.RowKit Go.Maps

set_option linter.unusedVariables false in
def mopV (B : Nat) (r : Rg) (f : Fm) (d : Nat) (v : Value) (_ : World) : Prop :=
  match d with
  | 31 => v = .pointer (some ⟨B, 0, none⟩)
  | 32 => v = .pointer (some ⟨B, 0, none⟩)
  | 33 => v = .pointer (some ⟨B, 12, none⟩)
  | 34 => v = .pointer (some ⟨B, 16, none⟩)
  | 35 => v = .int .i64 f.pl
  | 36 => v = .pointer (some ⟨B, 0, none⟩)
  | 37 => v = .pointer (some ⟨B, 0, none⟩)
  | 38 => v = .pointer (some ⟨B, 0, none⟩)
  | 39 => v = .pointer (some ⟨B, 11, none⟩)
  | 40 => v = .int .i64 r.mo
  | 41 => v = .bool false
  | 42 => v = .bool false
  | 49 => v = .bool false
  | 50 => v = .bool false
  | 57 => v = .bool false
  | 4 => v = .bool false
  | _ => True
set_option linter.unusedVariables false in
theorem mopV_mono (B : Nat) (r : Rg) (f : Fm) (d : Nat) (v : Value) (w w' : World) (h : mopV B r f d v w) (_ : Below w.heap.size w w') : mopV B r f d v w' := h
set_option linter.unusedVariables false in
def moqV (B : Nat) (r : Rg) (f : Fm) (d : Nat) (v : Value) (_ : World) : Prop :=
  match d with
  | 31 => v = .pointer (some ⟨B, 0, none⟩)
  | 32 => v = .pointer (some ⟨B, 0, none⟩)
  | 33 => v = .pointer (some ⟨B, 12, none⟩)
  | 34 => v = .pointer (some ⟨B, 16, none⟩)
  | 35 => v = .int .i64 f.pl
  | 36 => v = .pointer (some ⟨B, 0, none⟩)
  | 37 => v = .pointer (some ⟨B, 0, none⟩)
  | 38 => v = .pointer (some ⟨B, 0, none⟩)
  | 39 => v = .pointer (some ⟨B, 11, none⟩)
  | 40 => v = .int .i64 r.mo
  | 41 => v = .bool true
  | 42 => v = .bool true
  | 43 => v = .pointer (some ⟨B, 0, none⟩)
  | 44 => v = .pointer (some ⟨B, 0, none⟩)
  | 45 => v = .pointer (some ⟨B, 12, none⟩)
  | 46 => v = .pointer (some ⟨B, 18, none⟩)
  | 47 => v = .int .i64 f.ht
  | 48 => v = .bool false
  | 49 => v = .bool false
  | 50 => v = .bool false
  | 57 => v = .bool false
  | 4 => v = .bool false
  | _ => True
set_option linter.unusedVariables false in
theorem moqV_mono (B : Nat) (r : Rg) (f : Fm) (d : Nat) (v : Value) (w w' : World) (h : moqV B r f d v w) (_ : Below w.heap.size w w') : moqV B r f d v w' := h
set_option linter.unusedVariables false in
def mosV (B : Nat) (r : Rg) (f : Fm) (c : Bool) (d : Nat) (v : Value) (_ : World) : Prop :=
  match d with
  | 31 => v = .pointer (some ⟨B, 0, none⟩)
  | 32 => v = .pointer (some ⟨B, 0, none⟩)
  | 33 => v = .pointer (some ⟨B, 12, none⟩)
  | 34 => v = .pointer (some ⟨B, 16, none⟩)
  | 35 => v = .int .i64 f.pl
  | 36 => v = .pointer (some ⟨B, 0, none⟩)
  | 37 => v = .pointer (some ⟨B, 0, none⟩)
  | 38 => v = .pointer (some ⟨B, 0, none⟩)
  | 39 => v = .pointer (some ⟨B, 11, none⟩)
  | 40 => v = .int .i64 r.mo
  | 41 => v = .bool true
  | 42 => v = .bool true
  | 43 => v = .pointer (some ⟨B, 0, none⟩)
  | 44 => v = .pointer (some ⟨B, 0, none⟩)
  | 45 => v = .pointer (some ⟨B, 12, none⟩)
  | 46 => v = .pointer (some ⟨B, 18, none⟩)
  | 47 => v = .int .i64 f.ht
  | 48 => v = .bool true
  | 49 => v = .bool true
  | 50 => v = .bool true
  | 51 => v = .pointer (some ⟨B, 0, none⟩)
  | 52 => v = .pointer (some ⟨B, 0, none⟩)
  | 53 => v = .pointer (some ⟨B, 12, none⟩)
  | 54 => v = .pointer (some ⟨B, 19, none⟩)
  | 55 => v = .int .i64 f.tu
  | 56 => v = .bool c
  | 57 => v = .bool c
  | 4 => v = .bool c
  | _ => True
set_option linter.unusedVariables false in
theorem mosV_mono (B : Nat) (r : Rg) (f : Fm) (c : Bool) (d : Nat) (v : Value) (w w' : World) (h : mosV B r f c d v w) (_ : Below w.heap.size w w') : mosV B r f c d v w' := h
set_option linter.unusedVariables false in
def mbaV (B : Nat) (r : Rg) (f : Fm) (d : Nat) (v : Value) (_ : World) : Prop :=
  match d with
  | 5 => v = .pointer (some ⟨B, 0, none⟩)
  | 6 => v = .pointer (some ⟨B, 0, none⟩)
  | 7 => v = .pointer (some ⟨B, 0, none⟩)
  | 8 => v = .agg #[.int .i64 r.lo.x, .int .i64 r.lo.y, .int .i64 r.lo.z, .int .i64 r.hi.x, .int .i64 r.hi.y, .int .i64 r.hi.z, .int .i64 r.rp.c, .int .i64 r.rp.f, .int .i64 r.rp.m, .int .i64 r.rp.r, .int .i64 r.ps, .int .i64 r.mo]
  | 9 => v = .pointer (some ⟨B, 0, none⟩)
  | 10 => v = .pointer (some ⟨B, 0, none⟩)
  | 11 => v = .pointer (some ⟨B, 12, none⟩)
  | 12 => v = .pointer (some ⟨B, 13, none⟩)
  | 13 => v = .agg #[.int .i64 f.pt.x, .int .i64 f.pt.y, .int .i64 f.pt.z]
  | 14 => v = .bool false
  | 15 => v = .bool false
  | 21 => v = undef
  | 30 => v = .bool false
  | 3 => v = .bool false
  | _ => True
set_option linter.unusedVariables false in
theorem mbaV_mono (B : Nat) (r : Rg) (f : Fm) (d : Nat) (v : Value) (w w' : World) (h : mbaV B r f d v w) (_ : Below w.heap.size w w') : mbaV B r f d v w' := h
set_option maxHeartbeats 6400000 in
set_option maxRecDepth 100000 in
theorem mayBe_a (B M : Nat) (r : Rg) (f : Fm) (w : World) (h : Bk B (bdc r f M) w) (hp : inS r f.pt = false) :
    Calls Tryd.prog 34 #[ptr B] w fun e w' => e = .returned (.bool (fmOk r f)) ∧ Below w.heap.size w w' := by
  have HP : Hid (∀ W, Calls Tryd.prog 37 #[rgv r, v3 f.pt] W fun e w' => e = .returned (.bool false) ∧ Below W.heap.size W w') := fun W => by have := isWithin_any r f.pt W; rwa [hp] at this
  have HI : Hid (∀ lo x hi W, Calls Tryd.prog 45 #[.int .i64 lo, .int .i64 x, .int .i64 hi] W fun e w' => e = .returned (.bool (inR lo hi x)) ∧ w' = W) := isFrom_any
  have KB0 : Hid (Bk B (bdc r f M) w) := h
  have KB : Hid (Bk B (bdc r f M) w) := h
  have HH : Hid (hereB r f = false) := by show _ = _; unfold hereB; rw [hp]; rfl
  clear h hp
  go_enter Tryd.func34, Tryd.ntmps34
  go_wp2_with fail
  rename_i KK hkk
  have HKK := (show Hid _ from hkk)
  clear hkk
  refine region_inv [false, false, false, true, false, true, true, true, true, true, true, true, true, true, true, true, true, true, true, true, true, true, true, true, true, true, true, true, true, true, true, false, false, false, false, false, false, false, false, false, false, false, false, false, false, false, false, false, false, false, false, false, false, false, false, false, false, false, false, false, false, false, false, false, false, false, false, false, false, false]
    [(5, [], none), (6, [5], none), (7, [6], none), (8, [7], none), (9, [], none), (10, [9], none), (11, [10], none), (12, [11], none), (13, [12], none), (14, [8, 13], none), (15, [14], none), (16, [15], some (15, true)), (17, [15, 16], some (15, true)), (18, [15, 17], some (15, true)), (19, [15, 18], some (15, true)), (20, [15, 19], some (15, true)), (21, [15, 20], some (15, true)), (22, [21], some (21, false)), (23, [21, 22], some (21, false)), (24, [21, 23], some (21, false)), (25, [21, 24], some (21, false)), (26, [21, 25], some (21, false)), (27, [21], some (21, false)), (28, [21, 26, 27], some (21, false)), (29, [15, 21, 28], some (15, true)), (30, [15, 29], none), (3, [30], none)]
    (mbaV B r f) (by kernel_rfl) (by kernel_rfl) (mbaV_mono B r f) ?_ ?_
  · refine ⟨?_, ?_, ?_, ?_, ?_, ?_, ?_, ?_, ?_, ?_, ?_, ?_, ?_, ?_, ?_, ?_, ?_, ?_, ?_, ?_, ?_, ?_, ?_, ?_, ?_, ?_, ?_, trivial⟩
    · intro f w1 hb _ K hK
      simp only [over, overL, Nat.reduceAdd]
      go_simp
      exact hK _ _ ⟨_, rfl, by simp only [over, overL, Nat.reduceAdd]; rfl, Below.refl _ _⟩
    · intro f w1 hb ⟨h5, _⟩ K hK
      replace h5 : f 5 = _ := h5
      simp only [over, overL, Nat.reduceAdd, h5]
      go_simp
      exact hK _ _ ⟨_, rfl, by simp only [over, overL, Nat.reduceAdd, h5]; rfl, Below.refl _ _⟩
    · intro f w1 hb ⟨h6, _⟩ K hK
      replace h6 : f 6 = _ := h6
      simp only [over, overL, Nat.reduceAdd, h6]
      go_simp
      exact hK _ _ ⟨_, rfl, by simp only [over, overL, Nat.reduceAdd, h6]; rfl, Below.refl _ _⟩
    · intro f w1 hb ⟨h7, _⟩ K hK
      replace h7 : f 7 = _ := h7
      have q0 := (KB.out.later hb).c 0 rfl
      have q1 := (KB.out.later hb).c 1 rfl
      have q2 := (KB.out.later hb).c 2 rfl
      have q3 := (KB.out.later hb).c 3 rfl
      have q4 := (KB.out.later hb).c 4 rfl
      have q5 := (KB.out.later hb).c 5 rfl
      have q6 := (KB.out.later hb).c 6 rfl
      have q7 := (KB.out.later hb).c 7 rfl
      have q8 := (KB.out.later hb).c 8 rfl
      have q9 := (KB.out.later hb).c 9 rfl
      have q10 := (KB.out.later hb).c 10 rfl
      have q11 := (KB.out.later hb).c 11 rfl
      simp only [over, overL, Nat.reduceAdd, h7]
      go_simp
      exact hK _ _ ⟨_, rfl, by simp only [over, overL, Nat.reduceAdd, h7]; rfl, Below.refl _ _⟩
    · intro f w1 hb _ K hK
      simp only [over, overL, Nat.reduceAdd]
      go_simp
      exact hK _ _ ⟨_, rfl, by simp only [over, overL, Nat.reduceAdd]; rfl, Below.refl _ _⟩
    · intro f w1 hb ⟨h9, _⟩ K hK
      replace h9 : f 9 = _ := h9
      simp only [over, overL, Nat.reduceAdd, h9]
      go_simp
      exact hK _ _ ⟨_, rfl, by simp only [over, overL, Nat.reduceAdd, h9]; rfl, Below.refl _ _⟩
    · intro f w1 hb ⟨h10, _⟩ K hK
      replace h10 : f 10 = _ := h10
      simp only [over, overL, Nat.reduceAdd, h10]
      go_simp
      exact hK _ _ ⟨_, rfl, by simp only [over, overL, Nat.reduceAdd, h10]; rfl, Below.refl _ _⟩
    · intro f w1 hb ⟨h11, _⟩ K hK
      replace h11 : f 11 = _ := h11
      simp only [over, overL, Nat.reduceAdd, h11]
      go_simp
      exact hK _ _ ⟨_, rfl, by simp only [over, overL, Nat.reduceAdd, h11]; rfl, Below.refl _ _⟩
    · intro f w1 hb ⟨h12, _⟩ K hK
      replace h12 : f 12 = _ := h12
      have q13 := (KB.out.later hb).c 13 rfl
      have q14 := (KB.out.later hb).c 14 rfl
      have q15 := (KB.out.later hb).c 15 rfl
      simp only [over, overL, Nat.reduceAdd, h12]
      go_simp
      exact hK _ _ ⟨_, rfl, by simp only [over, overL, Nat.reduceAdd, h12]; rfl, Below.refl _ _⟩
    · intro f w1 hb ⟨h8, h13, _⟩ K hK
      replace h8 : f 8 = _ := h8
      replace h13 : f 13 = _ := h13
      simp only [over, overL, Nat.reduceAdd, h8, h13]
      go_simp
      refine (HP.out _).mono ?_
      rintro e w2 ⟨rfl, hb2⟩
      exact hK _ _ ⟨_, rfl, by simp only [over, overL, Nat.reduceAdd, h8, h13]; rfl, hb2⟩
    · intro f w1 hb ⟨h14, _⟩ K hK
      replace h14 : f 14 = _ := h14
      simp only [over, overL, Nat.reduceAdd, h14]
      go_simp
      exact hK _ _ ⟨_, rfl, by simp only [over, overL, Nat.reduceAdd, h14]; rfl, Below.refl _ _⟩
    · intro f w1 hb ⟨h15, _⟩
      replace h15 : f 15 = _ := h15
      exact ⟨fun hg => absurd (h15.symm.trans hg) (by simp), fun _ => trivial⟩
    · intro f w1 hb ⟨h15, h16, _⟩
      replace h15 : f 15 = _ := h15
      exact ⟨fun hg => absurd (h15.symm.trans hg) (by simp), fun _ => trivial⟩
    · intro f w1 hb ⟨h15, h17, _⟩
      replace h15 : f 15 = _ := h15
      exact ⟨fun hg => absurd (h15.symm.trans hg) (by simp), fun _ => trivial⟩
    · intro f w1 hb ⟨h15, h18, _⟩
      replace h15 : f 15 = _ := h15
      exact ⟨fun hg => absurd (h15.symm.trans hg) (by simp), fun _ => trivial⟩
    · intro f w1 hb ⟨h15, h19, _⟩
      replace h15 : f 15 = _ := h15
      exact ⟨fun hg => absurd (h15.symm.trans hg) (by simp), fun _ => trivial⟩
    · intro f w1 hb ⟨h15, h20, _⟩
      replace h15 : f 15 = _ := h15
      exact ⟨fun hg => absurd (h15.symm.trans hg) (by simp), fun _ => rfl⟩
    · intro f w1 hb ⟨h21, _⟩
      replace h21 : f 21 = _ := h21
      exact ⟨fun hg => absurd (h21.symm.trans hg) (by simp [undef]), fun _ => trivial⟩
    · intro f w1 hb ⟨h21, h22, _⟩
      replace h21 : f 21 = _ := h21
      exact ⟨fun hg => absurd (h21.symm.trans hg) (by simp [undef]), fun _ => trivial⟩
    · intro f w1 hb ⟨h21, h23, _⟩
      replace h21 : f 21 = _ := h21
      exact ⟨fun hg => absurd (h21.symm.trans hg) (by simp [undef]), fun _ => trivial⟩
    · intro f w1 hb ⟨h21, h24, _⟩
      replace h21 : f 21 = _ := h21
      exact ⟨fun hg => absurd (h21.symm.trans hg) (by simp [undef]), fun _ => trivial⟩
    · intro f w1 hb ⟨h21, h25, _⟩
      replace h21 : f 21 = _ := h21
      exact ⟨fun hg => absurd (h21.symm.trans hg) (by simp [undef]), fun _ => trivial⟩
    · intro f w1 hb ⟨h21, _⟩
      replace h21 : f 21 = _ := h21
      exact ⟨fun hg => absurd (h21.symm.trans hg) (by simp [undef]), fun _ => trivial⟩
    · intro f w1 hb ⟨h21, h26, h27, _⟩
      replace h21 : f 21 = _ := h21
      exact ⟨fun hg => absurd (h21.symm.trans hg) (by simp [undef]), fun _ => trivial⟩
    · intro f w1 hb ⟨h15, h21, h28, _⟩
      replace h15 : f 15 = _ := h15
      exact ⟨fun hg => absurd (h15.symm.trans hg) (by simp), fun _ => trivial⟩
    · intro f w1 hb ⟨h15, h29, _⟩ K hK
      replace h15 : f 15 = _ := h15
      simp only [over, overL, Nat.reduceAdd, h15]
      go_simp
      exact hK _ _ ⟨_, rfl, by simp only [over, overL, Nat.reduceAdd, h15]; rfl, Below.refl _ _⟩
    · intro f w1 hb ⟨h30, _⟩ K hK
      replace h30 : f 30 = _ := h30
      simp only [over, overL, Nat.reduceAdd, h30]
      go_simp
      exact hK _ _ ⟨_, rfl, by simp only [over, overL, Nat.reduceAdd, h30]; rfl, Below.refl _ _⟩
  · intro fr w1 hb1 hv
    have h3 : fr 3 = .bool false := hv.2.2.2.2.2.2.2.2.2.2.2.2.2.2.2.2.2.2.2.2.2.2.2.2.2.2.1
    have HB1 : Hid (Below w.heap.size w w1) := hb1
    have KB1 : Hid (Bk B (bdc r f M) w1) := KB0.out.later hb1
    simp only [over_eq, overL, h3, Nat.reduceAdd]
    clear hv h3 hb1 KB KB0
    refine HKK.out _ _ ?_
    clear HKK
    go_wp2_with fail
    rename_i KK2 hkk2
    have HKK := (show Hid _ from hkk2)
    clear hkk2
    cases h1 : inR 0 r.mo f.pl with
    | false =>
      have X1 : Hid (∀ W, Calls Tryd.prog 45 #[.int .i64 0, .int .i64 f.pl, .int .i64 r.mo] W fun e w' => e = .returned (.bool false) ∧ w' = W) := fun W => by have := HI.out 0 f.pl r.mo W; rwa [h1] at this
      refine region_inv [false, false, false, false, true, false, false, false, false, false, false, false, false, false, false, false, false, false, false, false, false, false, false, false, false, false, false, false, false, false, false, true, true, true, true, true, true, true, true, true, true, true, true, true, true, true, true, true, true, true, true, true, true, true, true, true, true, true, false, false, false, false, false, false, false, false, false, false, false, false]
        [(31, [], none), (32, [31], none), (33, [32], none), (34, [33], none), (35, [34], none), (36, [], none), (37, [36], none), (38, [37], none), (39, [38], none), (40, [39], none), (41, [35, 40], none), (42, [41], none), (43, [42], some (42, true)), (44, [42, 43], some (42, true)), (45, [42, 44], some (42, true)), (46, [42, 45], some (42, true)), (47, [42, 46], some (42, true)), (48, [42, 47], some (42, true)), (49, [42, 48], none), (50, [49], none), (51, [50], some (50, true)), (52, [50, 51], some (50, true)), (53, [50, 52], some (50, true)), (54, [50, 53], some (50, true)), (55, [50, 54], some (50, true)), (56, [50, 55], some (50, true)), (57, [50, 56], none), (4, [57], none)]
        (mopV B r f) (by kernel_rfl) (by kernel_rfl) (mopV_mono B r f) ?_ ?_
      · refine ⟨?_, ?_, ?_, ?_, ?_, ?_, ?_, ?_, ?_, ?_, ?_, ?_, ?_, ?_, ?_, ?_, ?_, ?_, ?_, ?_, ?_, ?_, ?_, ?_, ?_, ?_, ?_, ?_, trivial⟩
        · intro f w1 hb _ K hK
          simp only [over, overL, Nat.reduceAdd]
          go_simp
          exact hK _ _ ⟨_, rfl, by simp only [over, overL, Nat.reduceAdd]; rfl, Below.refl _ _⟩
        · intro f w1 hb ⟨h31, _⟩ K hK
          replace h31 : f 31 = _ := h31
          simp only [over, overL, Nat.reduceAdd, h31]
          go_simp
          exact hK _ _ ⟨_, rfl, by simp only [over, overL, Nat.reduceAdd, h31]; rfl, Below.refl _ _⟩
        · intro f w1 hb ⟨h32, _⟩ K hK
          replace h32 : f 32 = _ := h32
          simp only [over, overL, Nat.reduceAdd, h32]
          go_simp
          exact hK _ _ ⟨_, rfl, by simp only [over, overL, Nat.reduceAdd, h32]; rfl, Below.refl _ _⟩
        · intro f w1 hb ⟨h33, _⟩ K hK
          replace h33 : f 33 = _ := h33
          simp only [over, overL, Nat.reduceAdd, h33]
          go_simp
          exact hK _ _ ⟨_, rfl, by simp only [over, overL, Nat.reduceAdd, h33]; rfl, Below.refl _ _⟩
        · intro f w1 hb ⟨h34, _⟩ K hK
          replace h34 : f 34 = _ := h34
          have q16 := (KB1.out.later hb).c 16 rfl
          simp only [over, overL, Nat.reduceAdd, h34]
          go_simp
          exact hK _ _ ⟨_, rfl, by simp only [over, overL, Nat.reduceAdd, h34]; rfl, Below.refl _ _⟩
        · intro f w1 hb _ K hK
          simp only [over, overL, Nat.reduceAdd]
          go_simp
          exact hK _ _ ⟨_, rfl, by simp only [over, overL, Nat.reduceAdd]; rfl, Below.refl _ _⟩
        · intro f w1 hb ⟨h36, _⟩ K hK
          replace h36 : f 36 = _ := h36
          simp only [over, overL, Nat.reduceAdd, h36]
          go_simp
          exact hK _ _ ⟨_, rfl, by simp only [over, overL, Nat.reduceAdd, h36]; rfl, Below.refl _ _⟩
        · intro f w1 hb ⟨h37, _⟩ K hK
          replace h37 : f 37 = _ := h37
          simp only [over, overL, Nat.reduceAdd, h37]
          go_simp
          exact hK _ _ ⟨_, rfl, by simp only [over, overL, Nat.reduceAdd, h37]; rfl, Below.refl _ _⟩
        · intro f w1 hb ⟨h38, _⟩ K hK
          replace h38 : f 38 = _ := h38
          simp only [over, overL, Nat.reduceAdd, h38]
          go_simp
          exact hK _ _ ⟨_, rfl, by simp only [over, overL, Nat.reduceAdd, h38]; rfl, Below.refl _ _⟩
        · intro f w1 hb ⟨h39, _⟩ K hK
          replace h39 : f 39 = _ := h39
          have q11 := (KB1.out.later hb).c 11 rfl
          simp only [over, overL, Nat.reduceAdd, h39]
          go_simp
          exact hK _ _ ⟨_, rfl, by simp only [over, overL, Nat.reduceAdd, h39]; rfl, Below.refl _ _⟩
        · intro f w1 hb ⟨h35, h40, _⟩ K hK
          replace h35 : f 35 = _ := h35
          replace h40 : f 40 = _ := h40
          simp only [over, overL, Nat.reduceAdd, h35, h40]
          go_simp
          refine (X1.out _).mono ?_
          rintro e w2 ⟨rfl, hb2⟩
          exact hK _ _ ⟨_, rfl, by simp only [over, overL, Nat.reduceAdd, h35, h40]; rfl, by rw [hb2]; exact Below.refl _ _⟩
        · intro f w1 hb ⟨h41, _⟩ K hK
          replace h41 : f 41 = _ := h41
          simp only [over, overL, Nat.reduceAdd, h41]
          go_simp
          exact hK _ _ ⟨_, rfl, by simp only [over, overL, Nat.reduceAdd, h41]; rfl, Below.refl _ _⟩
        · intro f w1 hb ⟨h42, _⟩
          replace h42 : f 42 = _ := h42
          exact ⟨fun hg => absurd (h42.symm.trans hg) (by simp), fun _ => trivial⟩
        · intro f w1 hb ⟨h42, h43, _⟩
          replace h42 : f 42 = _ := h42
          exact ⟨fun hg => absurd (h42.symm.trans hg) (by simp), fun _ => trivial⟩
        · intro f w1 hb ⟨h42, h44, _⟩
          replace h42 : f 42 = _ := h42
          exact ⟨fun hg => absurd (h42.symm.trans hg) (by simp), fun _ => trivial⟩
        · intro f w1 hb ⟨h42, h45, _⟩
          replace h42 : f 42 = _ := h42
          exact ⟨fun hg => absurd (h42.symm.trans hg) (by simp), fun _ => trivial⟩
        · intro f w1 hb ⟨h42, h46, _⟩
          replace h42 : f 42 = _ := h42
          exact ⟨fun hg => absurd (h42.symm.trans hg) (by simp), fun _ => trivial⟩
        · intro f w1 hb ⟨h42, h47, _⟩
          replace h42 : f 42 = _ := h42
          exact ⟨fun hg => absurd (h42.symm.trans hg) (by simp), fun _ => trivial⟩
        · intro f w1 hb ⟨h42, h48, _⟩ K hK
          replace h42 : f 42 = _ := h42
          simp only [over, overL, Nat.reduceAdd, h42]
          go_simp
          exact hK _ _ ⟨_, rfl, by simp only [over, overL, Nat.reduceAdd, h42]; rfl, Below.refl _ _⟩
        · intro f w1 hb ⟨h49, _⟩ K hK
          replace h49 : f 49 = _ := h49
          simp only [over, overL, Nat.reduceAdd, h49]
          go_simp
          exact hK _ _ ⟨_, rfl, by simp only [over, overL, Nat.reduceAdd, h49]; rfl, Below.refl _ _⟩
        · intro f w1 hb ⟨h50, _⟩
          replace h50 : f 50 = _ := h50
          exact ⟨fun hg => absurd (h50.symm.trans hg) (by simp), fun _ => trivial⟩
        · intro f w1 hb ⟨h50, h51, _⟩
          replace h50 : f 50 = _ := h50
          exact ⟨fun hg => absurd (h50.symm.trans hg) (by simp), fun _ => trivial⟩
        · intro f w1 hb ⟨h50, h52, _⟩
          replace h50 : f 50 = _ := h50
          exact ⟨fun hg => absurd (h50.symm.trans hg) (by simp), fun _ => trivial⟩
        · intro f w1 hb ⟨h50, h53, _⟩
          replace h50 : f 50 = _ := h50
          exact ⟨fun hg => absurd (h50.symm.trans hg) (by simp), fun _ => trivial⟩
        · intro f w1 hb ⟨h50, h54, _⟩
          replace h50 : f 50 = _ := h50
          exact ⟨fun hg => absurd (h50.symm.trans hg) (by simp), fun _ => trivial⟩
        · intro f w1 hb ⟨h50, h55, _⟩
          replace h50 : f 50 = _ := h50
          exact ⟨fun hg => absurd (h50.symm.trans hg) (by simp), fun _ => trivial⟩
        · intro f w1 hb ⟨h50, h56, _⟩ K hK
          replace h50 : f 50 = _ := h50
          simp only [over, overL, Nat.reduceAdd, h50]
          go_simp
          exact hK _ _ ⟨_, rfl, by simp only [over, overL, Nat.reduceAdd, h50]; rfl, Below.refl _ _⟩
        · intro f w1 hb ⟨h57, _⟩ K hK
          replace h57 : f 57 = _ := h57
          simp only [over, overL, Nat.reduceAdd, h57]
          go_simp
          exact hK _ _ ⟨_, rfl, by simp only [over, overL, Nat.reduceAdd, h57]; rfl, Below.refl _ _⟩
      · intro fs w2 hb2 hv
        have h4 : fs 4 = .bool false := hv.2.2.2.2.2.2.2.2.2.2.2.2.2.2.2.2.2.2.2.2.2.2.2.2.2.2.2.1
        have HB2 : Hid (Below w.heap.size w w2) := below_on HB1.out hb2
        have q20 := (KB1.out.later hb2).c 20 rfl
        simp only [over_eq, overL, h4, Nat.reduceAdd]
        clear hv h4 hb2 KB1 HB1
        refine HKK.out _ _ ?_
        clear HKK
        (go_wp2; go_ret; exact ⟨ret_bool (by simp [fmOk, onB, h1]), HB2.out⟩)
    | true =>
      have X1 : Hid (∀ W, Calls Tryd.prog 45 #[.int .i64 0, .int .i64 f.pl, .int .i64 r.mo] W fun e w' => e = .returned (.bool true) ∧ w' = W) := fun W => by have := HI.out 0 f.pl r.mo W; rwa [h1] at this
      cases h2 : inR 0 1000000000 f.ht with
      | false =>
        have X2 : Hid (∀ W, Calls Tryd.prog 45 #[.int .i64 0, .int .i64 f.ht, .int .i64 1000000000] W fun e w' => e = .returned (.bool false) ∧ w' = W) := fun W => by have := HI.out 0 f.ht 1000000000 W; rwa [h2] at this
        refine region_inv [false, false, false, false, true, false, false, false, false, false, false, false, false, false, false, false, false, false, false, false, false, false, false, false, false, false, false, false, false, false, false, true, true, true, true, true, true, true, true, true, true, true, true, true, true, true, true, true, true, true, true, true, true, true, true, true, true, true, false, false, false, false, false, false, false, false, false, false, false, false]
          [(31, [], none), (32, [31], none), (33, [32], none), (34, [33], none), (35, [34], none), (36, [], none), (37, [36], none), (38, [37], none), (39, [38], none), (40, [39], none), (41, [35, 40], none), (42, [41], none), (43, [42], some (42, true)), (44, [42, 43], some (42, true)), (45, [42, 44], some (42, true)), (46, [42, 45], some (42, true)), (47, [42, 46], some (42, true)), (48, [42, 47], some (42, true)), (49, [42, 48], none), (50, [49], none), (51, [50], some (50, true)), (52, [50, 51], some (50, true)), (53, [50, 52], some (50, true)), (54, [50, 53], some (50, true)), (55, [50, 54], some (50, true)), (56, [50, 55], some (50, true)), (57, [50, 56], none), (4, [57], none)]
          (moqV B r f) (by kernel_rfl) (by kernel_rfl) (moqV_mono B r f) ?_ ?_
        · refine ⟨?_, ?_, ?_, ?_, ?_, ?_, ?_, ?_, ?_, ?_, ?_, ?_, ?_, ?_, ?_, ?_, ?_, ?_, ?_, ?_, ?_, ?_, ?_, ?_, ?_, ?_, ?_, ?_, trivial⟩
          · intro f w1 hb _ K hK
            simp only [over, overL, Nat.reduceAdd]
            go_simp
            exact hK _ _ ⟨_, rfl, by simp only [over, overL, Nat.reduceAdd]; rfl, Below.refl _ _⟩
          · intro f w1 hb ⟨h31, _⟩ K hK
            replace h31 : f 31 = _ := h31
            simp only [over, overL, Nat.reduceAdd, h31]
            go_simp
            exact hK _ _ ⟨_, rfl, by simp only [over, overL, Nat.reduceAdd, h31]; rfl, Below.refl _ _⟩
          · intro f w1 hb ⟨h32, _⟩ K hK
            replace h32 : f 32 = _ := h32
            simp only [over, overL, Nat.reduceAdd, h32]
            go_simp
            exact hK _ _ ⟨_, rfl, by simp only [over, overL, Nat.reduceAdd, h32]; rfl, Below.refl _ _⟩
          · intro f w1 hb ⟨h33, _⟩ K hK
            replace h33 : f 33 = _ := h33
            simp only [over, overL, Nat.reduceAdd, h33]
            go_simp
            exact hK _ _ ⟨_, rfl, by simp only [over, overL, Nat.reduceAdd, h33]; rfl, Below.refl _ _⟩
          · intro f w1 hb ⟨h34, _⟩ K hK
            replace h34 : f 34 = _ := h34
            have q16 := (KB1.out.later hb).c 16 rfl
            simp only [over, overL, Nat.reduceAdd, h34]
            go_simp
            exact hK _ _ ⟨_, rfl, by simp only [over, overL, Nat.reduceAdd, h34]; rfl, Below.refl _ _⟩
          · intro f w1 hb _ K hK
            simp only [over, overL, Nat.reduceAdd]
            go_simp
            exact hK _ _ ⟨_, rfl, by simp only [over, overL, Nat.reduceAdd]; rfl, Below.refl _ _⟩
          · intro f w1 hb ⟨h36, _⟩ K hK
            replace h36 : f 36 = _ := h36
            simp only [over, overL, Nat.reduceAdd, h36]
            go_simp
            exact hK _ _ ⟨_, rfl, by simp only [over, overL, Nat.reduceAdd, h36]; rfl, Below.refl _ _⟩
          · intro f w1 hb ⟨h37, _⟩ K hK
            replace h37 : f 37 = _ := h37
            simp only [over, overL, Nat.reduceAdd, h37]
            go_simp
            exact hK _ _ ⟨_, rfl, by simp only [over, overL, Nat.reduceAdd, h37]; rfl, Below.refl _ _⟩
          · intro f w1 hb ⟨h38, _⟩ K hK
            replace h38 : f 38 = _ := h38
            simp only [over, overL, Nat.reduceAdd, h38]
            go_simp
            exact hK _ _ ⟨_, rfl, by simp only [over, overL, Nat.reduceAdd, h38]; rfl, Below.refl _ _⟩
          · intro f w1 hb ⟨h39, _⟩ K hK
            replace h39 : f 39 = _ := h39
            have q11 := (KB1.out.later hb).c 11 rfl
            simp only [over, overL, Nat.reduceAdd, h39]
            go_simp
            exact hK _ _ ⟨_, rfl, by simp only [over, overL, Nat.reduceAdd, h39]; rfl, Below.refl _ _⟩
          · intro f w1 hb ⟨h35, h40, _⟩ K hK
            replace h35 : f 35 = _ := h35
            replace h40 : f 40 = _ := h40
            simp only [over, overL, Nat.reduceAdd, h35, h40]
            go_simp
            refine (X1.out _).mono ?_
            rintro e w2 ⟨rfl, hb2⟩
            exact hK _ _ ⟨_, rfl, by simp only [over, overL, Nat.reduceAdd, h35, h40]; rfl, by rw [hb2]; exact Below.refl _ _⟩
          · intro f w1 hb ⟨h41, _⟩ K hK
            replace h41 : f 41 = _ := h41
            simp only [over, overL, Nat.reduceAdd, h41]
            go_simp
            exact hK _ _ ⟨_, rfl, by simp only [over, overL, Nat.reduceAdd, h41]; rfl, Below.refl _ _⟩
          · intro f w1 hb ⟨h42, _⟩
            replace h42 : f 42 = _ := h42
            refine ⟨fun _ => ?_, fun hg => absurd h42 hg⟩
            intro K hK
            simp only [over, overL, Nat.reduceAdd, h42]
            go_simp
            exact hK _ _ ⟨_, rfl, by simp only [over, overL, Nat.reduceAdd, h42]; rfl, Below.refl _ _⟩
          · intro f w1 hb ⟨h42, h43, _⟩
            replace h42 : f 42 = _ := h42
            replace h43 : f 43 = _ := h43
            refine ⟨fun _ => ?_, fun hg => absurd h42 hg⟩
            intro K hK
            simp only [over, overL, Nat.reduceAdd, h42, h43]
            go_simp
            exact hK _ _ ⟨_, rfl, by simp only [over, overL, Nat.reduceAdd, h42, h43]; rfl, Below.refl _ _⟩
          · intro f w1 hb ⟨h42, h44, _⟩
            replace h42 : f 42 = _ := h42
            replace h44 : f 44 = _ := h44
            refine ⟨fun _ => ?_, fun hg => absurd h42 hg⟩
            intro K hK
            simp only [over, overL, Nat.reduceAdd, h42, h44]
            go_simp
            exact hK _ _ ⟨_, rfl, by simp only [over, overL, Nat.reduceAdd, h42, h44]; rfl, Below.refl _ _⟩
          · intro f w1 hb ⟨h42, h45, _⟩
            replace h42 : f 42 = _ := h42
            replace h45 : f 45 = _ := h45
            refine ⟨fun _ => ?_, fun hg => absurd h42 hg⟩
            intro K hK
            simp only [over, overL, Nat.reduceAdd, h42, h45]
            go_simp
            exact hK _ _ ⟨_, rfl, by simp only [over, overL, Nat.reduceAdd, h42, h45]; rfl, Below.refl _ _⟩
          · intro f w1 hb ⟨h42, h46, _⟩
            replace h42 : f 42 = _ := h42
            replace h46 : f 46 = _ := h46
            refine ⟨fun _ => ?_, fun hg => absurd h42 hg⟩
            intro K hK
            have q18 := (KB1.out.later hb).c 18 rfl
            simp only [over, overL, Nat.reduceAdd, h42, h46]
            go_simp
            exact hK _ _ ⟨_, rfl, by simp only [over, overL, Nat.reduceAdd, h42, h46]; rfl, Below.refl _ _⟩
          · intro f w1 hb ⟨h42, h47, _⟩
            replace h42 : f 42 = _ := h42
            replace h47 : f 47 = _ := h47
            refine ⟨fun _ => ?_, fun hg => absurd h42 hg⟩
            intro K hK
            simp only [over, overL, Nat.reduceAdd, h42, h47]
            go_simp
            refine (X2.out _).mono ?_
            rintro e w2 ⟨rfl, hb2⟩
            exact hK _ _ ⟨_, rfl, by simp only [over, overL, Nat.reduceAdd, h42, h47]; rfl, by rw [hb2]; exact Below.refl _ _⟩
          · intro f w1 hb ⟨h42, h48, _⟩ K hK
            replace h42 : f 42 = _ := h42
            replace h48 : f 48 = _ := h48
            simp only [over, overL, Nat.reduceAdd, h42, h48]
            go_simp
            exact hK _ _ ⟨_, rfl, by simp only [over, overL, Nat.reduceAdd, h42, h48]; rfl, Below.refl _ _⟩
          · intro f w1 hb ⟨h49, _⟩ K hK
            replace h49 : f 49 = _ := h49
            simp only [over, overL, Nat.reduceAdd, h49]
            go_simp
            exact hK _ _ ⟨_, rfl, by simp only [over, overL, Nat.reduceAdd, h49]; rfl, Below.refl _ _⟩
          · intro f w1 hb ⟨h50, _⟩
            replace h50 : f 50 = _ := h50
            exact ⟨fun hg => absurd (h50.symm.trans hg) (by simp), fun _ => trivial⟩
          · intro f w1 hb ⟨h50, h51, _⟩
            replace h50 : f 50 = _ := h50
            exact ⟨fun hg => absurd (h50.symm.trans hg) (by simp), fun _ => trivial⟩
          · intro f w1 hb ⟨h50, h52, _⟩
            replace h50 : f 50 = _ := h50
            exact ⟨fun hg => absurd (h50.symm.trans hg) (by simp), fun _ => trivial⟩
          · intro f w1 hb ⟨h50, h53, _⟩
            replace h50 : f 50 = _ := h50
            exact ⟨fun hg => absurd (h50.symm.trans hg) (by simp), fun _ => trivial⟩
          · intro f w1 hb ⟨h50, h54, _⟩
            replace h50 : f 50 = _ := h50
            exact ⟨fun hg => absurd (h50.symm.trans hg) (by simp), fun _ => trivial⟩
          · intro f w1 hb ⟨h50, h55, _⟩
            replace h50 : f 50 = _ := h50
            exact ⟨fun hg => absurd (h50.symm.trans hg) (by simp), fun _ => trivial⟩
          · intro f w1 hb ⟨h50, h56, _⟩ K hK
            replace h50 : f 50 = _ := h50
            simp only [over, overL, Nat.reduceAdd, h50]
            go_simp
            exact hK _ _ ⟨_, rfl, by simp only [over, overL, Nat.reduceAdd, h50]; rfl, Below.refl _ _⟩
          · intro f w1 hb ⟨h57, _⟩ K hK
            replace h57 : f 57 = _ := h57
            simp only [over, overL, Nat.reduceAdd, h57]
            go_simp
            exact hK _ _ ⟨_, rfl, by simp only [over, overL, Nat.reduceAdd, h57]; rfl, Below.refl _ _⟩
        · intro fs w2 hb2 hv
          have h4 : fs 4 = .bool false := hv.2.2.2.2.2.2.2.2.2.2.2.2.2.2.2.2.2.2.2.2.2.2.2.2.2.2.2.1
          have HB2 : Hid (Below w.heap.size w w2) := below_on HB1.out hb2
          have q20 := (KB1.out.later hb2).c 20 rfl
          simp only [over_eq, overL, h4, Nat.reduceAdd]
          clear hv h4 hb2 KB1 HB1
          refine HKK.out _ _ ?_
          clear HKK
          (go_wp2; go_ret; exact ⟨ret_bool (by simp [fmOk, onB, h2]), HB2.out⟩)
      | true =>
        have X2 : Hid (∀ W, Calls Tryd.prog 45 #[.int .i64 0, .int .i64 f.ht, .int .i64 1000000000] W fun e w' => e = .returned (.bool true) ∧ w' = W) := fun W => by have := HI.out 0 f.ht 1000000000 W; rwa [h2] at this
        obtain ⟨c, hc⟩ : ∃ c, c = inR 0 1000000000 f.tu := ⟨_, rfl⟩
        have X3 : Hid (∀ W, Calls Tryd.prog 45 #[.int .i64 0, .int .i64 f.tu, .int .i64 1000000000] W fun e w' => e = .returned (.bool c) ∧ w' = W) := fun W => by rw [hc]; exact HI.out 0 f.tu 1000000000 W
        have HC : Hid (inR 0 1000000000 f.tu = c) := hc.symm
        clear hc
        refine region_inv [false, false, false, false, true, false, false, false, false, false, false, false, false, false, false, false, false, false, false, false, false, false, false, false, false, false, false, false, false, false, false, true, true, true, true, true, true, true, true, true, true, true, true, true, true, true, true, true, true, true, true, true, true, true, true, true, true, true, false, false, false, false, false, false, false, false, false, false, false, false]
          [(31, [], none), (32, [31], none), (33, [32], none), (34, [33], none), (35, [34], none), (36, [], none), (37, [36], none), (38, [37], none), (39, [38], none), (40, [39], none), (41, [35, 40], none), (42, [41], none), (43, [42], some (42, true)), (44, [42, 43], some (42, true)), (45, [42, 44], some (42, true)), (46, [42, 45], some (42, true)), (47, [42, 46], some (42, true)), (48, [42, 47], some (42, true)), (49, [42, 48], none), (50, [49], none), (51, [50], some (50, true)), (52, [50, 51], some (50, true)), (53, [50, 52], some (50, true)), (54, [50, 53], some (50, true)), (55, [50, 54], some (50, true)), (56, [50, 55], some (50, true)), (57, [50, 56], none), (4, [57], none)]
          (mosV B r f c) (by kernel_rfl) (by kernel_rfl) (mosV_mono B r f c) ?_ ?_
        · refine ⟨?_, ?_, ?_, ?_, ?_, ?_, ?_, ?_, ?_, ?_, ?_, ?_, ?_, ?_, ?_, ?_, ?_, ?_, ?_, ?_, ?_, ?_, ?_, ?_, ?_, ?_, ?_, ?_, trivial⟩
          · intro f w1 hb _ K hK
            simp only [over, overL, Nat.reduceAdd]
            go_simp
            exact hK _ _ ⟨_, rfl, by simp only [over, overL, Nat.reduceAdd]; rfl, Below.refl _ _⟩
          · intro f w1 hb ⟨h31, _⟩ K hK
            replace h31 : f 31 = _ := h31
            simp only [over, overL, Nat.reduceAdd, h31]
            go_simp
            exact hK _ _ ⟨_, rfl, by simp only [over, overL, Nat.reduceAdd, h31]; rfl, Below.refl _ _⟩
          · intro f w1 hb ⟨h32, _⟩ K hK
            replace h32 : f 32 = _ := h32
            simp only [over, overL, Nat.reduceAdd, h32]
            go_simp
            exact hK _ _ ⟨_, rfl, by simp only [over, overL, Nat.reduceAdd, h32]; rfl, Below.refl _ _⟩
          · intro f w1 hb ⟨h33, _⟩ K hK
            replace h33 : f 33 = _ := h33
            simp only [over, overL, Nat.reduceAdd, h33]
            go_simp
            exact hK _ _ ⟨_, rfl, by simp only [over, overL, Nat.reduceAdd, h33]; rfl, Below.refl _ _⟩
          · intro f w1 hb ⟨h34, _⟩ K hK
            replace h34 : f 34 = _ := h34
            have q16 := (KB1.out.later hb).c 16 rfl
            simp only [over, overL, Nat.reduceAdd, h34]
            go_simp
            exact hK _ _ ⟨_, rfl, by simp only [over, overL, Nat.reduceAdd, h34]; rfl, Below.refl _ _⟩
          · intro f w1 hb _ K hK
            simp only [over, overL, Nat.reduceAdd]
            go_simp
            exact hK _ _ ⟨_, rfl, by simp only [over, overL, Nat.reduceAdd]; rfl, Below.refl _ _⟩
          · intro f w1 hb ⟨h36, _⟩ K hK
            replace h36 : f 36 = _ := h36
            simp only [over, overL, Nat.reduceAdd, h36]
            go_simp
            exact hK _ _ ⟨_, rfl, by simp only [over, overL, Nat.reduceAdd, h36]; rfl, Below.refl _ _⟩
          · intro f w1 hb ⟨h37, _⟩ K hK
            replace h37 : f 37 = _ := h37
            simp only [over, overL, Nat.reduceAdd, h37]
            go_simp
            exact hK _ _ ⟨_, rfl, by simp only [over, overL, Nat.reduceAdd, h37]; rfl, Below.refl _ _⟩
          · intro f w1 hb ⟨h38, _⟩ K hK
            replace h38 : f 38 = _ := h38
            simp only [over, overL, Nat.reduceAdd, h38]
            go_simp
            exact hK _ _ ⟨_, rfl, by simp only [over, overL, Nat.reduceAdd, h38]; rfl, Below.refl _ _⟩
          · intro f w1 hb ⟨h39, _⟩ K hK
            replace h39 : f 39 = _ := h39
            have q11 := (KB1.out.later hb).c 11 rfl
            simp only [over, overL, Nat.reduceAdd, h39]
            go_simp
            exact hK _ _ ⟨_, rfl, by simp only [over, overL, Nat.reduceAdd, h39]; rfl, Below.refl _ _⟩
          · intro f w1 hb ⟨h35, h40, _⟩ K hK
            replace h35 : f 35 = _ := h35
            replace h40 : f 40 = _ := h40
            simp only [over, overL, Nat.reduceAdd, h35, h40]
            go_simp
            refine (X1.out _).mono ?_
            rintro e w2 ⟨rfl, hb2⟩
            exact hK _ _ ⟨_, rfl, by simp only [over, overL, Nat.reduceAdd, h35, h40]; rfl, by rw [hb2]; exact Below.refl _ _⟩
          · intro f w1 hb ⟨h41, _⟩ K hK
            replace h41 : f 41 = _ := h41
            simp only [over, overL, Nat.reduceAdd, h41]
            go_simp
            exact hK _ _ ⟨_, rfl, by simp only [over, overL, Nat.reduceAdd, h41]; rfl, Below.refl _ _⟩
          · intro f w1 hb ⟨h42, _⟩
            replace h42 : f 42 = _ := h42
            refine ⟨fun _ => ?_, fun hg => absurd h42 hg⟩
            intro K hK
            simp only [over, overL, Nat.reduceAdd, h42]
            go_simp
            exact hK _ _ ⟨_, rfl, by simp only [over, overL, Nat.reduceAdd, h42]; rfl, Below.refl _ _⟩
          · intro f w1 hb ⟨h42, h43, _⟩
            replace h42 : f 42 = _ := h42
            replace h43 : f 43 = _ := h43
            refine ⟨fun _ => ?_, fun hg => absurd h42 hg⟩
            intro K hK
            simp only [over, overL, Nat.reduceAdd, h42, h43]
            go_simp
            exact hK _ _ ⟨_, rfl, by simp only [over, overL, Nat.reduceAdd, h42, h43]; rfl, Below.refl _ _⟩
          · intro f w1 hb ⟨h42, h44, _⟩
            replace h42 : f 42 = _ := h42
            replace h44 : f 44 = _ := h44
            refine ⟨fun _ => ?_, fun hg => absurd h42 hg⟩
            intro K hK
            simp only [over, overL, Nat.reduceAdd, h42, h44]
            go_simp
            exact hK _ _ ⟨_, rfl, by simp only [over, overL, Nat.reduceAdd, h42, h44]; rfl, Below.refl _ _⟩
          · intro f w1 hb ⟨h42, h45, _⟩
            replace h42 : f 42 = _ := h42
            replace h45 : f 45 = _ := h45
            refine ⟨fun _ => ?_, fun hg => absurd h42 hg⟩
            intro K hK
            simp only [over, overL, Nat.reduceAdd, h42, h45]
            go_simp
            exact hK _ _ ⟨_, rfl, by simp only [over, overL, Nat.reduceAdd, h42, h45]; rfl, Below.refl _ _⟩
          · intro f w1 hb ⟨h42, h46, _⟩
            replace h42 : f 42 = _ := h42
            replace h46 : f 46 = _ := h46
            refine ⟨fun _ => ?_, fun hg => absurd h42 hg⟩
            intro K hK
            have q18 := (KB1.out.later hb).c 18 rfl
            simp only [over, overL, Nat.reduceAdd, h42, h46]
            go_simp
            exact hK _ _ ⟨_, rfl, by simp only [over, overL, Nat.reduceAdd, h42, h46]; rfl, Below.refl _ _⟩
          · intro f w1 hb ⟨h42, h47, _⟩
            replace h42 : f 42 = _ := h42
            replace h47 : f 47 = _ := h47
            refine ⟨fun _ => ?_, fun hg => absurd h42 hg⟩
            intro K hK
            simp only [over, overL, Nat.reduceAdd, h42, h47]
            go_simp
            refine (X2.out _).mono ?_
            rintro e w2 ⟨rfl, hb2⟩
            exact hK _ _ ⟨_, rfl, by simp only [over, overL, Nat.reduceAdd, h42, h47]; rfl, by rw [hb2]; exact Below.refl _ _⟩
          · intro f w1 hb ⟨h42, h48, _⟩ K hK
            replace h42 : f 42 = _ := h42
            replace h48 : f 48 = _ := h48
            simp only [over, overL, Nat.reduceAdd, h42, h48]
            go_simp
            exact hK _ _ ⟨_, rfl, by simp only [over, overL, Nat.reduceAdd, h42, h48]; rfl, Below.refl _ _⟩
          · intro f w1 hb ⟨h49, _⟩ K hK
            replace h49 : f 49 = _ := h49
            simp only [over, overL, Nat.reduceAdd, h49]
            go_simp
            exact hK _ _ ⟨_, rfl, by simp only [over, overL, Nat.reduceAdd, h49]; rfl, Below.refl _ _⟩
          · intro f w1 hb ⟨h50, _⟩
            replace h50 : f 50 = _ := h50
            refine ⟨fun _ => ?_, fun hg => absurd h50 hg⟩
            intro K hK
            simp only [over, overL, Nat.reduceAdd, h50]
            go_simp
            exact hK _ _ ⟨_, rfl, by simp only [over, overL, Nat.reduceAdd, h50]; rfl, Below.refl _ _⟩
          · intro f w1 hb ⟨h50, h51, _⟩
            replace h50 : f 50 = _ := h50
            replace h51 : f 51 = _ := h51
            refine ⟨fun _ => ?_, fun hg => absurd h50 hg⟩
            intro K hK
            simp only [over, overL, Nat.reduceAdd, h50, h51]
            go_simp
            exact hK _ _ ⟨_, rfl, by simp only [over, overL, Nat.reduceAdd, h50, h51]; rfl, Below.refl _ _⟩
          · intro f w1 hb ⟨h50, h52, _⟩
            replace h50 : f 50 = _ := h50
            replace h52 : f 52 = _ := h52
            refine ⟨fun _ => ?_, fun hg => absurd h50 hg⟩
            intro K hK
            simp only [over, overL, Nat.reduceAdd, h50, h52]
            go_simp
            exact hK _ _ ⟨_, rfl, by simp only [over, overL, Nat.reduceAdd, h50, h52]; rfl, Below.refl _ _⟩
          · intro f w1 hb ⟨h50, h53, _⟩
            replace h50 : f 50 = _ := h50
            replace h53 : f 53 = _ := h53
            refine ⟨fun _ => ?_, fun hg => absurd h50 hg⟩
            intro K hK
            simp only [over, overL, Nat.reduceAdd, h50, h53]
            go_simp
            exact hK _ _ ⟨_, rfl, by simp only [over, overL, Nat.reduceAdd, h50, h53]; rfl, Below.refl _ _⟩
          · intro f w1 hb ⟨h50, h54, _⟩
            replace h50 : f 50 = _ := h50
            replace h54 : f 54 = _ := h54
            refine ⟨fun _ => ?_, fun hg => absurd h50 hg⟩
            intro K hK
            have q19 := (KB1.out.later hb).c 19 rfl
            simp only [over, overL, Nat.reduceAdd, h50, h54]
            go_simp
            exact hK _ _ ⟨_, rfl, by simp only [over, overL, Nat.reduceAdd, h50, h54]; rfl, Below.refl _ _⟩
          · intro f w1 hb ⟨h50, h55, _⟩
            replace h50 : f 50 = _ := h50
            replace h55 : f 55 = _ := h55
            refine ⟨fun _ => ?_, fun hg => absurd h50 hg⟩
            intro K hK
            simp only [over, overL, Nat.reduceAdd, h50, h55]
            go_simp
            refine (X3.out _).mono ?_
            rintro e w2 ⟨rfl, hb2⟩
            exact hK _ _ ⟨_, rfl, by simp only [over, overL, Nat.reduceAdd, h50, h55]; rfl, by rw [hb2]; exact Below.refl _ _⟩
          · intro f w1 hb ⟨h50, h56, _⟩ K hK
            replace h50 : f 50 = _ := h50
            replace h56 : f 56 = _ := h56
            simp only [over, overL, Nat.reduceAdd, h50, h56]
            go_simp
            exact hK _ _ ⟨_, rfl, by simp only [over, overL, Nat.reduceAdd, h50, h56]; rfl, Below.refl _ _⟩
          · intro f w1 hb ⟨h57, _⟩ K hK
            replace h57 : f 57 = _ := h57
            simp only [over, overL, Nat.reduceAdd, h57]
            go_simp
            exact hK _ _ ⟨_, rfl, by simp only [over, overL, Nat.reduceAdd, h57]; rfl, Below.refl _ _⟩
        · intro fs w2 hb2 hv
          have h4 : fs 4 = .bool c := hv.2.2.2.2.2.2.2.2.2.2.2.2.2.2.2.2.2.2.2.2.2.2.2.2.2.2.2.1
          have HB2 : Hid (Below w.heap.size w w2) := below_on HB1.out hb2
          have q20 := (KB1.out.later hb2).c 20 rfl
          simp only [over_eq, overL, h4, Nat.reduceAdd]
          clear hv h4 hb2 KB1 HB1
          refine HKK.out _ _ ?_
          clear HKK
          (go_wp2; go_ret; exact ⟨ret_bool (by simp [fmOk, HH.out]), HB2.out⟩)
set_option linter.unusedVariables false in
def mbbV (B : Nat) (r : Rg) (f : Fm) (d : Nat) (v : Value) (_ : World) : Prop :=
  match d with
  | 5 => v = .pointer (some ⟨B, 0, none⟩)
  | 6 => v = .pointer (some ⟨B, 0, none⟩)
  | 7 => v = .pointer (some ⟨B, 0, none⟩)
  | 8 => v = .agg #[.int .i64 r.lo.x, .int .i64 r.lo.y, .int .i64 r.lo.z, .int .i64 r.hi.x, .int .i64 r.hi.y, .int .i64 r.hi.z, .int .i64 r.rp.c, .int .i64 r.rp.f, .int .i64 r.rp.m, .int .i64 r.rp.r, .int .i64 r.ps, .int .i64 r.mo]
  | 9 => v = .pointer (some ⟨B, 0, none⟩)
  | 10 => v = .pointer (some ⟨B, 0, none⟩)
  | 11 => v = .pointer (some ⟨B, 12, none⟩)
  | 12 => v = .pointer (some ⟨B, 13, none⟩)
  | 13 => v = .agg #[.int .i64 f.pt.x, .int .i64 f.pt.y, .int .i64 f.pt.z]
  | 14 => v = .bool true
  | 15 => v = .bool true
  | 16 => v = .pointer (some ⟨B, 0, none⟩)
  | 17 => v = .pointer (some ⟨B, 0, none⟩)
  | 18 => v = .pointer (some ⟨B, 12, none⟩)
  | 19 => v = .pointer (some ⟨B, 12, none⟩)
  | 20 => v = .bool true
  | 21 => v = .bool true
  | 29 => v = .bool true
  | 30 => v = .bool true
  | 3 => v = .bool true
  | _ => True
set_option linter.unusedVariables false in
theorem mbbV_mono (B : Nat) (r : Rg) (f : Fm) (d : Nat) (v : Value) (w w' : World) (h : mbbV B r f d v w) (_ : Below w.heap.size w w') : mbbV B r f d v w' := h
set_option maxHeartbeats 6400000 in
set_option maxRecDepth 100000 in
theorem mayBe_b (B M : Nat) (r : Rg) (f : Fm) (w : World) (h : Bk B (bdc r f M) w) (hp : inS r f.pt = true) (hm : f.hm = true) :
    Calls Tryd.prog 34 #[ptr B] w fun e w' => e = .returned (.bool (fmOk r f)) ∧ Below w.heap.size w w' := by
  have HP : Hid (∀ W, Calls Tryd.prog 37 #[rgv r, v3 f.pt] W fun e w' => e = .returned (.bool true) ∧ Below W.heap.size W w') := fun W => by have := isWithin_any r f.pt W; rwa [hp] at this
  have HI : Hid (∀ lo x hi W, Calls Tryd.prog 45 #[.int .i64 lo, .int .i64 x, .int .i64 hi] W fun e w' => e = .returned (.bool (inR lo hi x)) ∧ w' = W) := isFrom_any
  have KB0 : Hid (Bk B (bdc r f M) w) := h
  have KB : Hid (Bk B (bdc r ⟨true, f.pt, f.pl, f.tp, f.ht, f.tu, f.tk⟩ M) w) := by show Bk _ _ _; rw [← hm]; exact h
  have HH : Hid (hereB r f = true) := by show _ = _; unfold hereB; rw [hp, hm]; rfl
  clear h hp hm
  go_enter Tryd.func34, Tryd.ntmps34
  go_wp2_with fail
  rename_i KK hkk
  have HKK := (show Hid _ from hkk)
  clear hkk
  refine region_inv [false, false, false, true, false, true, true, true, true, true, true, true, true, true, true, true, true, true, true, true, true, true, true, true, true, true, true, true, true, true, true, false, false, false, false, false, false, false, false, false, false, false, false, false, false, false, false, false, false, false, false, false, false, false, false, false, false, false, false, false, false, false, false, false, false, false, false, false, false, false]
    [(5, [], none), (6, [5], none), (7, [6], none), (8, [7], none), (9, [], none), (10, [9], none), (11, [10], none), (12, [11], none), (13, [12], none), (14, [8, 13], none), (15, [14], none), (16, [15], some (15, true)), (17, [15, 16], some (15, true)), (18, [15, 17], some (15, true)), (19, [15, 18], some (15, true)), (20, [15, 19], some (15, true)), (21, [15, 20], some (15, true)), (22, [21], some (21, false)), (23, [21, 22], some (21, false)), (24, [21, 23], some (21, false)), (25, [21, 24], some (21, false)), (26, [21, 25], some (21, false)), (27, [21], some (21, false)), (28, [21, 26, 27], some (21, false)), (29, [15, 21, 28], some (15, true)), (30, [15, 29], none), (3, [30], none)]
    (mbbV B r f) (by kernel_rfl) (by kernel_rfl) (mbbV_mono B r f) ?_ ?_
  · refine ⟨?_, ?_, ?_, ?_, ?_, ?_, ?_, ?_, ?_, ?_, ?_, ?_, ?_, ?_, ?_, ?_, ?_, ?_, ?_, ?_, ?_, ?_, ?_, ?_, ?_, ?_, ?_, trivial⟩
    · intro f w1 hb _ K hK
      simp only [over, overL, Nat.reduceAdd]
      go_simp
      exact hK _ _ ⟨_, rfl, by simp only [over, overL, Nat.reduceAdd]; rfl, Below.refl _ _⟩
    · intro f w1 hb ⟨h5, _⟩ K hK
      replace h5 : f 5 = _ := h5
      simp only [over, overL, Nat.reduceAdd, h5]
      go_simp
      exact hK _ _ ⟨_, rfl, by simp only [over, overL, Nat.reduceAdd, h5]; rfl, Below.refl _ _⟩
    · intro f w1 hb ⟨h6, _⟩ K hK
      replace h6 : f 6 = _ := h6
      simp only [over, overL, Nat.reduceAdd, h6]
      go_simp
      exact hK _ _ ⟨_, rfl, by simp only [over, overL, Nat.reduceAdd, h6]; rfl, Below.refl _ _⟩
    · intro f w1 hb ⟨h7, _⟩ K hK
      replace h7 : f 7 = _ := h7
      have q0 := (KB.out.later hb).c 0 rfl
      have q1 := (KB.out.later hb).c 1 rfl
      have q2 := (KB.out.later hb).c 2 rfl
      have q3 := (KB.out.later hb).c 3 rfl
      have q4 := (KB.out.later hb).c 4 rfl
      have q5 := (KB.out.later hb).c 5 rfl
      have q6 := (KB.out.later hb).c 6 rfl
      have q7 := (KB.out.later hb).c 7 rfl
      have q8 := (KB.out.later hb).c 8 rfl
      have q9 := (KB.out.later hb).c 9 rfl
      have q10 := (KB.out.later hb).c 10 rfl
      have q11 := (KB.out.later hb).c 11 rfl
      simp only [over, overL, Nat.reduceAdd, h7]
      go_simp
      exact hK _ _ ⟨_, rfl, by simp only [over, overL, Nat.reduceAdd, h7]; rfl, Below.refl _ _⟩
    · intro f w1 hb _ K hK
      simp only [over, overL, Nat.reduceAdd]
      go_simp
      exact hK _ _ ⟨_, rfl, by simp only [over, overL, Nat.reduceAdd]; rfl, Below.refl _ _⟩
    · intro f w1 hb ⟨h9, _⟩ K hK
      replace h9 : f 9 = _ := h9
      simp only [over, overL, Nat.reduceAdd, h9]
      go_simp
      exact hK _ _ ⟨_, rfl, by simp only [over, overL, Nat.reduceAdd, h9]; rfl, Below.refl _ _⟩
    · intro f w1 hb ⟨h10, _⟩ K hK
      replace h10 : f 10 = _ := h10
      simp only [over, overL, Nat.reduceAdd, h10]
      go_simp
      exact hK _ _ ⟨_, rfl, by simp only [over, overL, Nat.reduceAdd, h10]; rfl, Below.refl _ _⟩
    · intro f w1 hb ⟨h11, _⟩ K hK
      replace h11 : f 11 = _ := h11
      simp only [over, overL, Nat.reduceAdd, h11]
      go_simp
      exact hK _ _ ⟨_, rfl, by simp only [over, overL, Nat.reduceAdd, h11]; rfl, Below.refl _ _⟩
    · intro f w1 hb ⟨h12, _⟩ K hK
      replace h12 : f 12 = _ := h12
      have q13 := (KB.out.later hb).c 13 rfl
      have q14 := (KB.out.later hb).c 14 rfl
      have q15 := (KB.out.later hb).c 15 rfl
      simp only [over, overL, Nat.reduceAdd, h12]
      go_simp
      exact hK _ _ ⟨_, rfl, by simp only [over, overL, Nat.reduceAdd, h12]; rfl, Below.refl _ _⟩
    · intro f w1 hb ⟨h8, h13, _⟩ K hK
      replace h8 : f 8 = _ := h8
      replace h13 : f 13 = _ := h13
      simp only [over, overL, Nat.reduceAdd, h8, h13]
      go_simp
      refine (HP.out _).mono ?_
      rintro e w2 ⟨rfl, hb2⟩
      exact hK _ _ ⟨_, rfl, by simp only [over, overL, Nat.reduceAdd, h8, h13]; rfl, hb2⟩
    · intro f w1 hb ⟨h14, _⟩ K hK
      replace h14 : f 14 = _ := h14
      simp only [over, overL, Nat.reduceAdd, h14]
      go_simp
      exact hK _ _ ⟨_, rfl, by simp only [over, overL, Nat.reduceAdd, h14]; rfl, Below.refl _ _⟩
    · intro f w1 hb ⟨h15, _⟩
      replace h15 : f 15 = _ := h15
      refine ⟨fun _ => ?_, fun hg => absurd h15 hg⟩
      intro K hK
      simp only [over, overL, Nat.reduceAdd, h15]
      go_simp
      exact hK _ _ ⟨_, rfl, by simp only [over, overL, Nat.reduceAdd, h15]; rfl, Below.refl _ _⟩
    · intro f w1 hb ⟨h15, h16, _⟩
      replace h15 : f 15 = _ := h15
      replace h16 : f 16 = _ := h16
      refine ⟨fun _ => ?_, fun hg => absurd h15 hg⟩
      intro K hK
      simp only [over, overL, Nat.reduceAdd, h15, h16]
      go_simp
      exact hK _ _ ⟨_, rfl, by simp only [over, overL, Nat.reduceAdd, h15, h16]; rfl, Below.refl _ _⟩
    · intro f w1 hb ⟨h15, h17, _⟩
      replace h15 : f 15 = _ := h15
      replace h17 : f 17 = _ := h17
      refine ⟨fun _ => ?_, fun hg => absurd h15 hg⟩
      intro K hK
      simp only [over, overL, Nat.reduceAdd, h15, h17]
      go_simp
      exact hK _ _ ⟨_, rfl, by simp only [over, overL, Nat.reduceAdd, h15, h17]; rfl, Below.refl _ _⟩
    · intro f w1 hb ⟨h15, h18, _⟩
      replace h15 : f 15 = _ := h15
      replace h18 : f 18 = _ := h18
      refine ⟨fun _ => ?_, fun hg => absurd h15 hg⟩
      intro K hK
      simp only [over, overL, Nat.reduceAdd, h15, h18]
      go_simp
      exact hK _ _ ⟨_, rfl, by simp only [over, overL, Nat.reduceAdd, h15, h18]; rfl, Below.refl _ _⟩
    · intro f w1 hb ⟨h15, h19, _⟩
      replace h15 : f 15 = _ := h15
      replace h19 : f 19 = _ := h19
      refine ⟨fun _ => ?_, fun hg => absurd h15 hg⟩
      intro K hK
      have q12 := (KB.out.later hb).c 12 rfl
      simp only [over, overL, Nat.reduceAdd, h15, h19]
      go_simp
      exact hK _ _ ⟨_, rfl, by simp only [over, overL, Nat.reduceAdd, h15, h19]; rfl, Below.refl _ _⟩
    · intro f w1 hb ⟨h15, h20, _⟩
      replace h15 : f 15 = _ := h15
      replace h20 : f 20 = _ := h20
      refine ⟨fun _ => ?_, fun hg => absurd h15 hg⟩
      intro K hK
      simp only [over, overL, Nat.reduceAdd, h15, h20]
      go_simp
      exact hK _ _ ⟨_, rfl, by simp only [over, overL, Nat.reduceAdd, h15, h20]; rfl, Below.refl _ _⟩
    · intro f w1 hb ⟨h21, _⟩
      replace h21 : f 21 = _ := h21
      exact ⟨fun hg => absurd (h21.symm.trans hg) (by simp), fun _ => trivial⟩
    · intro f w1 hb ⟨h21, h22, _⟩
      replace h21 : f 21 = _ := h21
      exact ⟨fun hg => absurd (h21.symm.trans hg) (by simp), fun _ => trivial⟩
    · intro f w1 hb ⟨h21, h23, _⟩
      replace h21 : f 21 = _ := h21
      exact ⟨fun hg => absurd (h21.symm.trans hg) (by simp), fun _ => trivial⟩
    · intro f w1 hb ⟨h21, h24, _⟩
      replace h21 : f 21 = _ := h21
      exact ⟨fun hg => absurd (h21.symm.trans hg) (by simp), fun _ => trivial⟩
    · intro f w1 hb ⟨h21, h25, _⟩
      replace h21 : f 21 = _ := h21
      exact ⟨fun hg => absurd (h21.symm.trans hg) (by simp), fun _ => trivial⟩
    · intro f w1 hb ⟨h21, _⟩
      replace h21 : f 21 = _ := h21
      exact ⟨fun hg => absurd (h21.symm.trans hg) (by simp), fun _ => trivial⟩
    · intro f w1 hb ⟨h21, h26, h27, _⟩
      replace h21 : f 21 = _ := h21
      exact ⟨fun hg => absurd (h21.symm.trans hg) (by simp), fun _ => trivial⟩
    · intro f w1 hb ⟨h15, h21, h28, _⟩
      replace h15 : f 15 = _ := h15
      replace h21 : f 21 = _ := h21
      refine ⟨fun _ => ?_, fun hg => absurd h15 hg⟩
      intro K hK
      simp only [over, overL, Nat.reduceAdd, h15, h21]
      go_simp
      exact hK _ _ ⟨_, rfl, by simp only [over, overL, Nat.reduceAdd, h15, h21]; rfl, Below.refl _ _⟩
    · intro f w1 hb ⟨h15, h29, _⟩ K hK
      replace h15 : f 15 = _ := h15
      replace h29 : f 29 = _ := h29
      simp only [over, overL, Nat.reduceAdd, h15, h29]
      go_simp
      exact hK _ _ ⟨_, rfl, by simp only [over, overL, Nat.reduceAdd, h15, h29]; rfl, Below.refl _ _⟩
    · intro f w1 hb ⟨h30, _⟩ K hK
      replace h30 : f 30 = _ := h30
      simp only [over, overL, Nat.reduceAdd, h30]
      go_simp
      exact hK _ _ ⟨_, rfl, by simp only [over, overL, Nat.reduceAdd, h30]; rfl, Below.refl _ _⟩
  · intro fr w1 hb1 hv
    have h3 : fr 3 = .bool true := hv.2.2.2.2.2.2.2.2.2.2.2.2.2.2.2.2.2.2.2.2.2.2.2.2.2.2.1
    have HB1 : Hid (Below w.heap.size w w1) := hb1
    have KB1 : Hid (Bk B (bdc r f M) w1) := KB0.out.later hb1
    simp only [over_eq, overL, h3, Nat.reduceAdd]
    clear hv h3 hb1 KB KB0
    refine HKK.out _ _ ?_
    clear HKK
    go_wp2_with fail
    rename_i KK2 hkk2
    have HKK := (show Hid _ from hkk2)
    clear hkk2
    cases h1 : inR 0 r.mo f.pl with
    | false =>
      have X1 : Hid (∀ W, Calls Tryd.prog 45 #[.int .i64 0, .int .i64 f.pl, .int .i64 r.mo] W fun e w' => e = .returned (.bool false) ∧ w' = W) := fun W => by have := HI.out 0 f.pl r.mo W; rwa [h1] at this
      refine region_inv [false, false, false, false, true, false, false, false, false, false, false, false, false, false, false, false, false, false, false, false, false, false, false, false, false, false, false, false, false, false, false, true, true, true, true, true, true, true, true, true, true, true, true, true, true, true, true, true, true, true, true, true, true, true, true, true, true, true, false, false, false, false, false, false, false, false, false, false, false, false]
        [(31, [], none), (32, [31], none), (33, [32], none), (34, [33], none), (35, [34], none), (36, [], none), (37, [36], none), (38, [37], none), (39, [38], none), (40, [39], none), (41, [35, 40], none), (42, [41], none), (43, [42], some (42, true)), (44, [42, 43], some (42, true)), (45, [42, 44], some (42, true)), (46, [42, 45], some (42, true)), (47, [42, 46], some (42, true)), (48, [42, 47], some (42, true)), (49, [42, 48], none), (50, [49], none), (51, [50], some (50, true)), (52, [50, 51], some (50, true)), (53, [50, 52], some (50, true)), (54, [50, 53], some (50, true)), (55, [50, 54], some (50, true)), (56, [50, 55], some (50, true)), (57, [50, 56], none), (4, [57], none)]
        (mopV B r f) (by kernel_rfl) (by kernel_rfl) (mopV_mono B r f) ?_ ?_
      · refine ⟨?_, ?_, ?_, ?_, ?_, ?_, ?_, ?_, ?_, ?_, ?_, ?_, ?_, ?_, ?_, ?_, ?_, ?_, ?_, ?_, ?_, ?_, ?_, ?_, ?_, ?_, ?_, ?_, trivial⟩
        · intro f w1 hb _ K hK
          simp only [over, overL, Nat.reduceAdd]
          go_simp
          exact hK _ _ ⟨_, rfl, by simp only [over, overL, Nat.reduceAdd]; rfl, Below.refl _ _⟩
        · intro f w1 hb ⟨h31, _⟩ K hK
          replace h31 : f 31 = _ := h31
          simp only [over, overL, Nat.reduceAdd, h31]
          go_simp
          exact hK _ _ ⟨_, rfl, by simp only [over, overL, Nat.reduceAdd, h31]; rfl, Below.refl _ _⟩
        · intro f w1 hb ⟨h32, _⟩ K hK
          replace h32 : f 32 = _ := h32
          simp only [over, overL, Nat.reduceAdd, h32]
          go_simp
          exact hK _ _ ⟨_, rfl, by simp only [over, overL, Nat.reduceAdd, h32]; rfl, Below.refl _ _⟩
        · intro f w1 hb ⟨h33, _⟩ K hK
          replace h33 : f 33 = _ := h33
          simp only [over, overL, Nat.reduceAdd, h33]
          go_simp
          exact hK _ _ ⟨_, rfl, by simp only [over, overL, Nat.reduceAdd, h33]; rfl, Below.refl _ _⟩
        · intro f w1 hb ⟨h34, _⟩ K hK
          replace h34 : f 34 = _ := h34
          have q16 := (KB1.out.later hb).c 16 rfl
          simp only [over, overL, Nat.reduceAdd, h34]
          go_simp
          exact hK _ _ ⟨_, rfl, by simp only [over, overL, Nat.reduceAdd, h34]; rfl, Below.refl _ _⟩
        · intro f w1 hb _ K hK
          simp only [over, overL, Nat.reduceAdd]
          go_simp
          exact hK _ _ ⟨_, rfl, by simp only [over, overL, Nat.reduceAdd]; rfl, Below.refl _ _⟩
        · intro f w1 hb ⟨h36, _⟩ K hK
          replace h36 : f 36 = _ := h36
          simp only [over, overL, Nat.reduceAdd, h36]
          go_simp
          exact hK _ _ ⟨_, rfl, by simp only [over, overL, Nat.reduceAdd, h36]; rfl, Below.refl _ _⟩
        · intro f w1 hb ⟨h37, _⟩ K hK
          replace h37 : f 37 = _ := h37
          simp only [over, overL, Nat.reduceAdd, h37]
          go_simp
          exact hK _ _ ⟨_, rfl, by simp only [over, overL, Nat.reduceAdd, h37]; rfl, Below.refl _ _⟩
        · intro f w1 hb ⟨h38, _⟩ K hK
          replace h38 : f 38 = _ := h38
          simp only [over, overL, Nat.reduceAdd, h38]
          go_simp
          exact hK _ _ ⟨_, rfl, by simp only [over, overL, Nat.reduceAdd, h38]; rfl, Below.refl _ _⟩
        · intro f w1 hb ⟨h39, _⟩ K hK
          replace h39 : f 39 = _ := h39
          have q11 := (KB1.out.later hb).c 11 rfl
          simp only [over, overL, Nat.reduceAdd, h39]
          go_simp
          exact hK _ _ ⟨_, rfl, by simp only [over, overL, Nat.reduceAdd, h39]; rfl, Below.refl _ _⟩
        · intro f w1 hb ⟨h35, h40, _⟩ K hK
          replace h35 : f 35 = _ := h35
          replace h40 : f 40 = _ := h40
          simp only [over, overL, Nat.reduceAdd, h35, h40]
          go_simp
          refine (X1.out _).mono ?_
          rintro e w2 ⟨rfl, hb2⟩
          exact hK _ _ ⟨_, rfl, by simp only [over, overL, Nat.reduceAdd, h35, h40]; rfl, by rw [hb2]; exact Below.refl _ _⟩
        · intro f w1 hb ⟨h41, _⟩ K hK
          replace h41 : f 41 = _ := h41
          simp only [over, overL, Nat.reduceAdd, h41]
          go_simp
          exact hK _ _ ⟨_, rfl, by simp only [over, overL, Nat.reduceAdd, h41]; rfl, Below.refl _ _⟩
        · intro f w1 hb ⟨h42, _⟩
          replace h42 : f 42 = _ := h42
          exact ⟨fun hg => absurd (h42.symm.trans hg) (by simp), fun _ => trivial⟩
        · intro f w1 hb ⟨h42, h43, _⟩
          replace h42 : f 42 = _ := h42
          exact ⟨fun hg => absurd (h42.symm.trans hg) (by simp), fun _ => trivial⟩
        · intro f w1 hb ⟨h42, h44, _⟩
          replace h42 : f 42 = _ := h42
          exact ⟨fun hg => absurd (h42.symm.trans hg) (by simp), fun _ => trivial⟩
        · intro f w1 hb ⟨h42, h45, _⟩
          replace h42 : f 42 = _ := h42
          exact ⟨fun hg => absurd (h42.symm.trans hg) (by simp), fun _ => trivial⟩
        · intro f w1 hb ⟨h42, h46, _⟩
          replace h42 : f 42 = _ := h42
          exact ⟨fun hg => absurd (h42.symm.trans hg) (by simp), fun _ => trivial⟩
        · intro f w1 hb ⟨h42, h47, _⟩
          replace h42 : f 42 = _ := h42
          exact ⟨fun hg => absurd (h42.symm.trans hg) (by simp), fun _ => trivial⟩
        · intro f w1 hb ⟨h42, h48, _⟩ K hK
          replace h42 : f 42 = _ := h42
          simp only [over, overL, Nat.reduceAdd, h42]
          go_simp
          exact hK _ _ ⟨_, rfl, by simp only [over, overL, Nat.reduceAdd, h42]; rfl, Below.refl _ _⟩
        · intro f w1 hb ⟨h49, _⟩ K hK
          replace h49 : f 49 = _ := h49
          simp only [over, overL, Nat.reduceAdd, h49]
          go_simp
          exact hK _ _ ⟨_, rfl, by simp only [over, overL, Nat.reduceAdd, h49]; rfl, Below.refl _ _⟩
        · intro f w1 hb ⟨h50, _⟩
          replace h50 : f 50 = _ := h50
          exact ⟨fun hg => absurd (h50.symm.trans hg) (by simp), fun _ => trivial⟩
        · intro f w1 hb ⟨h50, h51, _⟩
          replace h50 : f 50 = _ := h50
          exact ⟨fun hg => absurd (h50.symm.trans hg) (by simp), fun _ => trivial⟩
        · intro f w1 hb ⟨h50, h52, _⟩
          replace h50 : f 50 = _ := h50
          exact ⟨fun hg => absurd (h50.symm.trans hg) (by simp), fun _ => trivial⟩
        · intro f w1 hb ⟨h50, h53, _⟩
          replace h50 : f 50 = _ := h50
          exact ⟨fun hg => absurd (h50.symm.trans hg) (by simp), fun _ => trivial⟩
        · intro f w1 hb ⟨h50, h54, _⟩
          replace h50 : f 50 = _ := h50
          exact ⟨fun hg => absurd (h50.symm.trans hg) (by simp), fun _ => trivial⟩
        · intro f w1 hb ⟨h50, h55, _⟩
          replace h50 : f 50 = _ := h50
          exact ⟨fun hg => absurd (h50.symm.trans hg) (by simp), fun _ => trivial⟩
        · intro f w1 hb ⟨h50, h56, _⟩ K hK
          replace h50 : f 50 = _ := h50
          simp only [over, overL, Nat.reduceAdd, h50]
          go_simp
          exact hK _ _ ⟨_, rfl, by simp only [over, overL, Nat.reduceAdd, h50]; rfl, Below.refl _ _⟩
        · intro f w1 hb ⟨h57, _⟩ K hK
          replace h57 : f 57 = _ := h57
          simp only [over, overL, Nat.reduceAdd, h57]
          go_simp
          exact hK _ _ ⟨_, rfl, by simp only [over, overL, Nat.reduceAdd, h57]; rfl, Below.refl _ _⟩
      · intro fs w2 hb2 hv
        have h4 : fs 4 = .bool false := hv.2.2.2.2.2.2.2.2.2.2.2.2.2.2.2.2.2.2.2.2.2.2.2.2.2.2.2.1
        have HB2 : Hid (Below w.heap.size w w2) := below_on HB1.out hb2
        have q20 := (KB1.out.later hb2).c 20 rfl
        simp only [over_eq, overL, h4, Nat.reduceAdd]
        clear hv h4 hb2 KB1 HB1
        refine HKK.out _ _ ?_
        clear HKK
        (go_wp2; go_ret; exact ⟨ret_bool (by simp [fmOk, onB, h1]), HB2.out⟩)
    | true =>
      have X1 : Hid (∀ W, Calls Tryd.prog 45 #[.int .i64 0, .int .i64 f.pl, .int .i64 r.mo] W fun e w' => e = .returned (.bool true) ∧ w' = W) := fun W => by have := HI.out 0 f.pl r.mo W; rwa [h1] at this
      cases h2 : inR 0 1000000000 f.ht with
      | false =>
        have X2 : Hid (∀ W, Calls Tryd.prog 45 #[.int .i64 0, .int .i64 f.ht, .int .i64 1000000000] W fun e w' => e = .returned (.bool false) ∧ w' = W) := fun W => by have := HI.out 0 f.ht 1000000000 W; rwa [h2] at this
        refine region_inv [false, false, false, false, true, false, false, false, false, false, false, false, false, false, false, false, false, false, false, false, false, false, false, false, false, false, false, false, false, false, false, true, true, true, true, true, true, true, true, true, true, true, true, true, true, true, true, true, true, true, true, true, true, true, true, true, true, true, false, false, false, false, false, false, false, false, false, false, false, false]
          [(31, [], none), (32, [31], none), (33, [32], none), (34, [33], none), (35, [34], none), (36, [], none), (37, [36], none), (38, [37], none), (39, [38], none), (40, [39], none), (41, [35, 40], none), (42, [41], none), (43, [42], some (42, true)), (44, [42, 43], some (42, true)), (45, [42, 44], some (42, true)), (46, [42, 45], some (42, true)), (47, [42, 46], some (42, true)), (48, [42, 47], some (42, true)), (49, [42, 48], none), (50, [49], none), (51, [50], some (50, true)), (52, [50, 51], some (50, true)), (53, [50, 52], some (50, true)), (54, [50, 53], some (50, true)), (55, [50, 54], some (50, true)), (56, [50, 55], some (50, true)), (57, [50, 56], none), (4, [57], none)]
          (moqV B r f) (by kernel_rfl) (by kernel_rfl) (moqV_mono B r f) ?_ ?_
        · refine ⟨?_, ?_, ?_, ?_, ?_, ?_, ?_, ?_, ?_, ?_, ?_, ?_, ?_, ?_, ?_, ?_, ?_, ?_, ?_, ?_, ?_, ?_, ?_, ?_, ?_, ?_, ?_, ?_, trivial⟩
          · intro f w1 hb _ K hK
            simp only [over, overL, Nat.reduceAdd]
            go_simp
            exact hK _ _ ⟨_, rfl, by simp only [over, overL, Nat.reduceAdd]; rfl, Below.refl _ _⟩
          · intro f w1 hb ⟨h31, _⟩ K hK
            replace h31 : f 31 = _ := h31
            simp only [over, overL, Nat.reduceAdd, h31]
            go_simp
            exact hK _ _ ⟨_, rfl, by simp only [over, overL, Nat.reduceAdd, h31]; rfl, Below.refl _ _⟩
          · intro f w1 hb ⟨h32, _⟩ K hK
            replace h32 : f 32 = _ := h32
            simp only [over, overL, Nat.reduceAdd, h32]
            go_simp
            exact hK _ _ ⟨_, rfl, by simp only [over, overL, Nat.reduceAdd, h32]; rfl, Below.refl _ _⟩
          · intro f w1 hb ⟨h33, _⟩ K hK
            replace h33 : f 33 = _ := h33
            simp only [over, overL, Nat.reduceAdd, h33]
            go_simp
            exact hK _ _ ⟨_, rfl, by simp only [over, overL, Nat.reduceAdd, h33]; rfl, Below.refl _ _⟩
          · intro f w1 hb ⟨h34, _⟩ K hK
            replace h34 : f 34 = _ := h34
            have q16 := (KB1.out.later hb).c 16 rfl
            simp only [over, overL, Nat.reduceAdd, h34]
            go_simp
            exact hK _ _ ⟨_, rfl, by simp only [over, overL, Nat.reduceAdd, h34]; rfl, Below.refl _ _⟩
          · intro f w1 hb _ K hK
            simp only [over, overL, Nat.reduceAdd]
            go_simp
            exact hK _ _ ⟨_, rfl, by simp only [over, overL, Nat.reduceAdd]; rfl, Below.refl _ _⟩
          · intro f w1 hb ⟨h36, _⟩ K hK
            replace h36 : f 36 = _ := h36
            simp only [over, overL, Nat.reduceAdd, h36]
            go_simp
            exact hK _ _ ⟨_, rfl, by simp only [over, overL, Nat.reduceAdd, h36]; rfl, Below.refl _ _⟩
          · intro f w1 hb ⟨h37, _⟩ K hK
            replace h37 : f 37 = _ := h37
            simp only [over, overL, Nat.reduceAdd, h37]
            go_simp
            exact hK _ _ ⟨_, rfl, by simp only [over, overL, Nat.reduceAdd, h37]; rfl, Below.refl _ _⟩
          · intro f w1 hb ⟨h38, _⟩ K hK
            replace h38 : f 38 = _ := h38
            simp only [over, overL, Nat.reduceAdd, h38]
            go_simp
            exact hK _ _ ⟨_, rfl, by simp only [over, overL, Nat.reduceAdd, h38]; rfl, Below.refl _ _⟩
          · intro f w1 hb ⟨h39, _⟩ K hK
            replace h39 : f 39 = _ := h39
            have q11 := (KB1.out.later hb).c 11 rfl
            simp only [over, overL, Nat.reduceAdd, h39]
            go_simp
            exact hK _ _ ⟨_, rfl, by simp only [over, overL, Nat.reduceAdd, h39]; rfl, Below.refl _ _⟩
          · intro f w1 hb ⟨h35, h40, _⟩ K hK
            replace h35 : f 35 = _ := h35
            replace h40 : f 40 = _ := h40
            simp only [over, overL, Nat.reduceAdd, h35, h40]
            go_simp
            refine (X1.out _).mono ?_
            rintro e w2 ⟨rfl, hb2⟩
            exact hK _ _ ⟨_, rfl, by simp only [over, overL, Nat.reduceAdd, h35, h40]; rfl, by rw [hb2]; exact Below.refl _ _⟩
          · intro f w1 hb ⟨h41, _⟩ K hK
            replace h41 : f 41 = _ := h41
            simp only [over, overL, Nat.reduceAdd, h41]
            go_simp
            exact hK _ _ ⟨_, rfl, by simp only [over, overL, Nat.reduceAdd, h41]; rfl, Below.refl _ _⟩
          · intro f w1 hb ⟨h42, _⟩
            replace h42 : f 42 = _ := h42
            refine ⟨fun _ => ?_, fun hg => absurd h42 hg⟩
            intro K hK
            simp only [over, overL, Nat.reduceAdd, h42]
            go_simp
            exact hK _ _ ⟨_, rfl, by simp only [over, overL, Nat.reduceAdd, h42]; rfl, Below.refl _ _⟩
          · intro f w1 hb ⟨h42, h43, _⟩
            replace h42 : f 42 = _ := h42
            replace h43 : f 43 = _ := h43
            refine ⟨fun _ => ?_, fun hg => absurd h42 hg⟩
            intro K hK
            simp only [over, overL, Nat.reduceAdd, h42, h43]
            go_simp
            exact hK _ _ ⟨_, rfl, by simp only [over, overL, Nat.reduceAdd, h42, h43]; rfl, Below.refl _ _⟩
          · intro f w1 hb ⟨h42, h44, _⟩
            replace h42 : f 42 = _ := h42
            replace h44 : f 44 = _ := h44
            refine ⟨fun _ => ?_, fun hg => absurd h42 hg⟩
            intro K hK
            simp only [over, overL, Nat.reduceAdd, h42, h44]
            go_simp
            exact hK _ _ ⟨_, rfl, by simp only [over, overL, Nat.reduceAdd, h42, h44]; rfl, Below.refl _ _⟩
          · intro f w1 hb ⟨h42, h45, _⟩
            replace h42 : f 42 = _ := h42
            replace h45 : f 45 = _ := h45
            refine ⟨fun _ => ?_, fun hg => absurd h42 hg⟩
            intro K hK
            simp only [over, overL, Nat.reduceAdd, h42, h45]
            go_simp
            exact hK _ _ ⟨_, rfl, by simp only [over, overL, Nat.reduceAdd, h42, h45]; rfl, Below.refl _ _⟩
          · intro f w1 hb ⟨h42, h46, _⟩
            replace h42 : f 42 = _ := h42
            replace h46 : f 46 = _ := h46
            refine ⟨fun _ => ?_, fun hg => absurd h42 hg⟩
            intro K hK
            have q18 := (KB1.out.later hb).c 18 rfl
            simp only [over, overL, Nat.reduceAdd, h42, h46]
            go_simp
            exact hK _ _ ⟨_, rfl, by simp only [over, overL, Nat.reduceAdd, h42, h46]; rfl, Below.refl _ _⟩
          · intro f w1 hb ⟨h42, h47, _⟩
            replace h42 : f 42 = _ := h42
            replace h47 : f 47 = _ := h47
            refine ⟨fun _ => ?_, fun hg => absurd h42 hg⟩
            intro K hK
            simp only [over, overL, Nat.reduceAdd, h42, h47]
            go_simp
            refine (X2.out _).mono ?_
            rintro e w2 ⟨rfl, hb2⟩
            exact hK _ _ ⟨_, rfl, by simp only [over, overL, Nat.reduceAdd, h42, h47]; rfl, by rw [hb2]; exact Below.refl _ _⟩
          · intro f w1 hb ⟨h42, h48, _⟩ K hK
            replace h42 : f 42 = _ := h42
            replace h48 : f 48 = _ := h48
            simp only [over, overL, Nat.reduceAdd, h42, h48]
            go_simp
            exact hK _ _ ⟨_, rfl, by simp only [over, overL, Nat.reduceAdd, h42, h48]; rfl, Below.refl _ _⟩
          · intro f w1 hb ⟨h49, _⟩ K hK
            replace h49 : f 49 = _ := h49
            simp only [over, overL, Nat.reduceAdd, h49]
            go_simp
            exact hK _ _ ⟨_, rfl, by simp only [over, overL, Nat.reduceAdd, h49]; rfl, Below.refl _ _⟩
          · intro f w1 hb ⟨h50, _⟩
            replace h50 : f 50 = _ := h50
            exact ⟨fun hg => absurd (h50.symm.trans hg) (by simp), fun _ => trivial⟩
          · intro f w1 hb ⟨h50, h51, _⟩
            replace h50 : f 50 = _ := h50
            exact ⟨fun hg => absurd (h50.symm.trans hg) (by simp), fun _ => trivial⟩
          · intro f w1 hb ⟨h50, h52, _⟩
            replace h50 : f 50 = _ := h50
            exact ⟨fun hg => absurd (h50.symm.trans hg) (by simp), fun _ => trivial⟩
          · intro f w1 hb ⟨h50, h53, _⟩
            replace h50 : f 50 = _ := h50
            exact ⟨fun hg => absurd (h50.symm.trans hg) (by simp), fun _ => trivial⟩
          · intro f w1 hb ⟨h50, h54, _⟩
            replace h50 : f 50 = _ := h50
            exact ⟨fun hg => absurd (h50.symm.trans hg) (by simp), fun _ => trivial⟩
          · intro f w1 hb ⟨h50, h55, _⟩
            replace h50 : f 50 = _ := h50
            exact ⟨fun hg => absurd (h50.symm.trans hg) (by simp), fun _ => trivial⟩
          · intro f w1 hb ⟨h50, h56, _⟩ K hK
            replace h50 : f 50 = _ := h50
            simp only [over, overL, Nat.reduceAdd, h50]
            go_simp
            exact hK _ _ ⟨_, rfl, by simp only [over, overL, Nat.reduceAdd, h50]; rfl, Below.refl _ _⟩
          · intro f w1 hb ⟨h57, _⟩ K hK
            replace h57 : f 57 = _ := h57
            simp only [over, overL, Nat.reduceAdd, h57]
            go_simp
            exact hK _ _ ⟨_, rfl, by simp only [over, overL, Nat.reduceAdd, h57]; rfl, Below.refl _ _⟩
        · intro fs w2 hb2 hv
          have h4 : fs 4 = .bool false := hv.2.2.2.2.2.2.2.2.2.2.2.2.2.2.2.2.2.2.2.2.2.2.2.2.2.2.2.1
          have HB2 : Hid (Below w.heap.size w w2) := below_on HB1.out hb2
          have q20 := (KB1.out.later hb2).c 20 rfl
          simp only [over_eq, overL, h4, Nat.reduceAdd]
          clear hv h4 hb2 KB1 HB1
          refine HKK.out _ _ ?_
          clear HKK
          (go_wp2; go_ret; exact ⟨ret_bool (by simp [fmOk, onB, h2]), HB2.out⟩)
      | true =>
        have X2 : Hid (∀ W, Calls Tryd.prog 45 #[.int .i64 0, .int .i64 f.ht, .int .i64 1000000000] W fun e w' => e = .returned (.bool true) ∧ w' = W) := fun W => by have := HI.out 0 f.ht 1000000000 W; rwa [h2] at this
        obtain ⟨c, hc⟩ : ∃ c, c = inR 0 1000000000 f.tu := ⟨_, rfl⟩
        have X3 : Hid (∀ W, Calls Tryd.prog 45 #[.int .i64 0, .int .i64 f.tu, .int .i64 1000000000] W fun e w' => e = .returned (.bool c) ∧ w' = W) := fun W => by rw [hc]; exact HI.out 0 f.tu 1000000000 W
        have HC : Hid (inR 0 1000000000 f.tu = c) := hc.symm
        clear hc
        refine region_inv [false, false, false, false, true, false, false, false, false, false, false, false, false, false, false, false, false, false, false, false, false, false, false, false, false, false, false, false, false, false, false, true, true, true, true, true, true, true, true, true, true, true, true, true, true, true, true, true, true, true, true, true, true, true, true, true, true, true, false, false, false, false, false, false, false, false, false, false, false, false]
          [(31, [], none), (32, [31], none), (33, [32], none), (34, [33], none), (35, [34], none), (36, [], none), (37, [36], none), (38, [37], none), (39, [38], none), (40, [39], none), (41, [35, 40], none), (42, [41], none), (43, [42], some (42, true)), (44, [42, 43], some (42, true)), (45, [42, 44], some (42, true)), (46, [42, 45], some (42, true)), (47, [42, 46], some (42, true)), (48, [42, 47], some (42, true)), (49, [42, 48], none), (50, [49], none), (51, [50], some (50, true)), (52, [50, 51], some (50, true)), (53, [50, 52], some (50, true)), (54, [50, 53], some (50, true)), (55, [50, 54], some (50, true)), (56, [50, 55], some (50, true)), (57, [50, 56], none), (4, [57], none)]
          (mosV B r f c) (by kernel_rfl) (by kernel_rfl) (mosV_mono B r f c) ?_ ?_
        · refine ⟨?_, ?_, ?_, ?_, ?_, ?_, ?_, ?_, ?_, ?_, ?_, ?_, ?_, ?_, ?_, ?_, ?_, ?_, ?_, ?_, ?_, ?_, ?_, ?_, ?_, ?_, ?_, ?_, trivial⟩
          · intro f w1 hb _ K hK
            simp only [over, overL, Nat.reduceAdd]
            go_simp
            exact hK _ _ ⟨_, rfl, by simp only [over, overL, Nat.reduceAdd]; rfl, Below.refl _ _⟩
          · intro f w1 hb ⟨h31, _⟩ K hK
            replace h31 : f 31 = _ := h31
            simp only [over, overL, Nat.reduceAdd, h31]
            go_simp
            exact hK _ _ ⟨_, rfl, by simp only [over, overL, Nat.reduceAdd, h31]; rfl, Below.refl _ _⟩
          · intro f w1 hb ⟨h32, _⟩ K hK
            replace h32 : f 32 = _ := h32
            simp only [over, overL, Nat.reduceAdd, h32]
            go_simp
            exact hK _ _ ⟨_, rfl, by simp only [over, overL, Nat.reduceAdd, h32]; rfl, Below.refl _ _⟩
          · intro f w1 hb ⟨h33, _⟩ K hK
            replace h33 : f 33 = _ := h33
            simp only [over, overL, Nat.reduceAdd, h33]
            go_simp
            exact hK _ _ ⟨_, rfl, by simp only [over, overL, Nat.reduceAdd, h33]; rfl, Below.refl _ _⟩
          · intro f w1 hb ⟨h34, _⟩ K hK
            replace h34 : f 34 = _ := h34
            have q16 := (KB1.out.later hb).c 16 rfl
            simp only [over, overL, Nat.reduceAdd, h34]
            go_simp
            exact hK _ _ ⟨_, rfl, by simp only [over, overL, Nat.reduceAdd, h34]; rfl, Below.refl _ _⟩
          · intro f w1 hb _ K hK
            simp only [over, overL, Nat.reduceAdd]
            go_simp
            exact hK _ _ ⟨_, rfl, by simp only [over, overL, Nat.reduceAdd]; rfl, Below.refl _ _⟩
          · intro f w1 hb ⟨h36, _⟩ K hK
            replace h36 : f 36 = _ := h36
            simp only [over, overL, Nat.reduceAdd, h36]
            go_simp
            exact hK _ _ ⟨_, rfl, by simp only [over, overL, Nat.reduceAdd, h36]; rfl, Below.refl _ _⟩
          · intro f w1 hb ⟨h37, _⟩ K hK
            replace h37 : f 37 = _ := h37
            simp only [over, overL, Nat.reduceAdd, h37]
            go_simp
            exact hK _ _ ⟨_, rfl, by simp only [over, overL, Nat.reduceAdd, h37]; rfl, Below.refl _ _⟩
          · intro f w1 hb ⟨h38, _⟩ K hK
            replace h38 : f 38 = _ := h38
            simp only [over, overL, Nat.reduceAdd, h38]
            go_simp
            exact hK _ _ ⟨_, rfl, by simp only [over, overL, Nat.reduceAdd, h38]; rfl, Below.refl _ _⟩
          · intro f w1 hb ⟨h39, _⟩ K hK
            replace h39 : f 39 = _ := h39
            have q11 := (KB1.out.later hb).c 11 rfl
            simp only [over, overL, Nat.reduceAdd, h39]
            go_simp
            exact hK _ _ ⟨_, rfl, by simp only [over, overL, Nat.reduceAdd, h39]; rfl, Below.refl _ _⟩
          · intro f w1 hb ⟨h35, h40, _⟩ K hK
            replace h35 : f 35 = _ := h35
            replace h40 : f 40 = _ := h40
            simp only [over, overL, Nat.reduceAdd, h35, h40]
            go_simp
            refine (X1.out _).mono ?_
            rintro e w2 ⟨rfl, hb2⟩
            exact hK _ _ ⟨_, rfl, by simp only [over, overL, Nat.reduceAdd, h35, h40]; rfl, by rw [hb2]; exact Below.refl _ _⟩
          · intro f w1 hb ⟨h41, _⟩ K hK
            replace h41 : f 41 = _ := h41
            simp only [over, overL, Nat.reduceAdd, h41]
            go_simp
            exact hK _ _ ⟨_, rfl, by simp only [over, overL, Nat.reduceAdd, h41]; rfl, Below.refl _ _⟩
          · intro f w1 hb ⟨h42, _⟩
            replace h42 : f 42 = _ := h42
            refine ⟨fun _ => ?_, fun hg => absurd h42 hg⟩
            intro K hK
            simp only [over, overL, Nat.reduceAdd, h42]
            go_simp
            exact hK _ _ ⟨_, rfl, by simp only [over, overL, Nat.reduceAdd, h42]; rfl, Below.refl _ _⟩
          · intro f w1 hb ⟨h42, h43, _⟩
            replace h42 : f 42 = _ := h42
            replace h43 : f 43 = _ := h43
            refine ⟨fun _ => ?_, fun hg => absurd h42 hg⟩
            intro K hK
            simp only [over, overL, Nat.reduceAdd, h42, h43]
            go_simp
            exact hK _ _ ⟨_, rfl, by simp only [over, overL, Nat.reduceAdd, h42, h43]; rfl, Below.refl _ _⟩
          · intro f w1 hb ⟨h42, h44, _⟩
            replace h42 : f 42 = _ := h42
            replace h44 : f 44 = _ := h44
            refine ⟨fun _ => ?_, fun hg => absurd h42 hg⟩
            intro K hK
            simp only [over, overL, Nat.reduceAdd, h42, h44]
            go_simp
            exact hK _ _ ⟨_, rfl, by simp only [over, overL, Nat.reduceAdd, h42, h44]; rfl, Below.refl _ _⟩
          · intro f w1 hb ⟨h42, h45, _⟩
            replace h42 : f 42 = _ := h42
            replace h45 : f 45 = _ := h45
            refine ⟨fun _ => ?_, fun hg => absurd h42 hg⟩
            intro K hK
            simp only [over, overL, Nat.reduceAdd, h42, h45]
            go_simp
            exact hK _ _ ⟨_, rfl, by simp only [over, overL, Nat.reduceAdd, h42, h45]; rfl, Below.refl _ _⟩
          · intro f w1 hb ⟨h42, h46, _⟩
            replace h42 : f 42 = _ := h42
            replace h46 : f 46 = _ := h46
            refine ⟨fun _ => ?_, fun hg => absurd h42 hg⟩
            intro K hK
            have q18 := (KB1.out.later hb).c 18 rfl
            simp only [over, overL, Nat.reduceAdd, h42, h46]
            go_simp
            exact hK _ _ ⟨_, rfl, by simp only [over, overL, Nat.reduceAdd, h42, h46]; rfl, Below.refl _ _⟩
          · intro f w1 hb ⟨h42, h47, _⟩
            replace h42 : f 42 = _ := h42
            replace h47 : f 47 = _ := h47
            refine ⟨fun _ => ?_, fun hg => absurd h42 hg⟩
            intro K hK
            simp only [over, overL, Nat.reduceAdd, h42, h47]
            go_simp
            refine (X2.out _).mono ?_
            rintro e w2 ⟨rfl, hb2⟩
            exact hK _ _ ⟨_, rfl, by simp only [over, overL, Nat.reduceAdd, h42, h47]; rfl, by rw [hb2]; exact Below.refl _ _⟩
          · intro f w1 hb ⟨h42, h48, _⟩ K hK
            replace h42 : f 42 = _ := h42
            replace h48 : f 48 = _ := h48
            simp only [over, overL, Nat.reduceAdd, h42, h48]
            go_simp
            exact hK _ _ ⟨_, rfl, by simp only [over, overL, Nat.reduceAdd, h42, h48]; rfl, Below.refl _ _⟩
          · intro f w1 hb ⟨h49, _⟩ K hK
            replace h49 : f 49 = _ := h49
            simp only [over, overL, Nat.reduceAdd, h49]
            go_simp
            exact hK _ _ ⟨_, rfl, by simp only [over, overL, Nat.reduceAdd, h49]; rfl, Below.refl _ _⟩
          · intro f w1 hb ⟨h50, _⟩
            replace h50 : f 50 = _ := h50
            refine ⟨fun _ => ?_, fun hg => absurd h50 hg⟩
            intro K hK
            simp only [over, overL, Nat.reduceAdd, h50]
            go_simp
            exact hK _ _ ⟨_, rfl, by simp only [over, overL, Nat.reduceAdd, h50]; rfl, Below.refl _ _⟩
          · intro f w1 hb ⟨h50, h51, _⟩
            replace h50 : f 50 = _ := h50
            replace h51 : f 51 = _ := h51
            refine ⟨fun _ => ?_, fun hg => absurd h50 hg⟩
            intro K hK
            simp only [over, overL, Nat.reduceAdd, h50, h51]
            go_simp
            exact hK _ _ ⟨_, rfl, by simp only [over, overL, Nat.reduceAdd, h50, h51]; rfl, Below.refl _ _⟩
          · intro f w1 hb ⟨h50, h52, _⟩
            replace h50 : f 50 = _ := h50
            replace h52 : f 52 = _ := h52
            refine ⟨fun _ => ?_, fun hg => absurd h50 hg⟩
            intro K hK
            simp only [over, overL, Nat.reduceAdd, h50, h52]
            go_simp
            exact hK _ _ ⟨_, rfl, by simp only [over, overL, Nat.reduceAdd, h50, h52]; rfl, Below.refl _ _⟩
          · intro f w1 hb ⟨h50, h53, _⟩
            replace h50 : f 50 = _ := h50
            replace h53 : f 53 = _ := h53
            refine ⟨fun _ => ?_, fun hg => absurd h50 hg⟩
            intro K hK
            simp only [over, overL, Nat.reduceAdd, h50, h53]
            go_simp
            exact hK _ _ ⟨_, rfl, by simp only [over, overL, Nat.reduceAdd, h50, h53]; rfl, Below.refl _ _⟩
          · intro f w1 hb ⟨h50, h54, _⟩
            replace h50 : f 50 = _ := h50
            replace h54 : f 54 = _ := h54
            refine ⟨fun _ => ?_, fun hg => absurd h50 hg⟩
            intro K hK
            have q19 := (KB1.out.later hb).c 19 rfl
            simp only [over, overL, Nat.reduceAdd, h50, h54]
            go_simp
            exact hK _ _ ⟨_, rfl, by simp only [over, overL, Nat.reduceAdd, h50, h54]; rfl, Below.refl _ _⟩
          · intro f w1 hb ⟨h50, h55, _⟩
            replace h50 : f 50 = _ := h50
            replace h55 : f 55 = _ := h55
            refine ⟨fun _ => ?_, fun hg => absurd h50 hg⟩
            intro K hK
            simp only [over, overL, Nat.reduceAdd, h50, h55]
            go_simp
            refine (X3.out _).mono ?_
            rintro e w2 ⟨rfl, hb2⟩
            exact hK _ _ ⟨_, rfl, by simp only [over, overL, Nat.reduceAdd, h50, h55]; rfl, by rw [hb2]; exact Below.refl _ _⟩
          · intro f w1 hb ⟨h50, h56, _⟩ K hK
            replace h50 : f 50 = _ := h50
            replace h56 : f 56 = _ := h56
            simp only [over, overL, Nat.reduceAdd, h50, h56]
            go_simp
            exact hK _ _ ⟨_, rfl, by simp only [over, overL, Nat.reduceAdd, h50, h56]; rfl, Below.refl _ _⟩
          · intro f w1 hb ⟨h57, _⟩ K hK
            replace h57 : f 57 = _ := h57
            simp only [over, overL, Nat.reduceAdd, h57]
            go_simp
            exact hK _ _ ⟨_, rfl, by simp only [over, overL, Nat.reduceAdd, h57]; rfl, Below.refl _ _⟩
        · intro fs w2 hb2 hv
          have h4 : fs 4 = .bool c := hv.2.2.2.2.2.2.2.2.2.2.2.2.2.2.2.2.2.2.2.2.2.2.2.2.2.2.2.1
          have HB2 : Hid (Below w.heap.size w w2) := below_on HB1.out hb2
          have q20 := (KB1.out.later hb2).c 20 rfl
          simp only [over_eq, overL, h4, Nat.reduceAdd]
          clear hv h4 hb2 KB1 HB1
          refine HKK.out _ _ ?_
          clear HKK
          cases c with
          | false => (go_wp2; go_ret; exact ⟨ret_bool (by simp [fmOk, onB, HC.out]), HB2.out⟩)
          | true =>
            go_wp2_with fail
            refine (HI.out _ _ _ _).mono ?_
            rintro e w3 ⟨rfl, rfl⟩
            go_wp2
            go_ret
            exact ⟨ret_bool (by simp [fmOk, onB, HH.out, h1, h2, HC.out]), HB2.out⟩
set_option linter.unusedVariables false in
def mbcV (B : Nat) (r : Rg) (f : Fm) (d : Nat) (v : Value) (_ : World) : Prop :=
  match d with
  | 5 => v = .pointer (some ⟨B, 0, none⟩)
  | 6 => v = .pointer (some ⟨B, 0, none⟩)
  | 7 => v = .pointer (some ⟨B, 0, none⟩)
  | 8 => v = .agg #[.int .i64 r.lo.x, .int .i64 r.lo.y, .int .i64 r.lo.z, .int .i64 r.hi.x, .int .i64 r.hi.y, .int .i64 r.hi.z, .int .i64 r.rp.c, .int .i64 r.rp.f, .int .i64 r.rp.m, .int .i64 r.rp.r, .int .i64 r.ps, .int .i64 r.mo]
  | 9 => v = .pointer (some ⟨B, 0, none⟩)
  | 10 => v = .pointer (some ⟨B, 0, none⟩)
  | 11 => v = .pointer (some ⟨B, 12, none⟩)
  | 12 => v = .pointer (some ⟨B, 13, none⟩)
  | 13 => v = .agg #[.int .i64 f.pt.x, .int .i64 f.pt.y, .int .i64 f.pt.z]
  | 14 => v = .bool true
  | 15 => v = .bool true
  | 16 => v = .pointer (some ⟨B, 0, none⟩)
  | 17 => v = .pointer (some ⟨B, 0, none⟩)
  | 18 => v = .pointer (some ⟨B, 12, none⟩)
  | 19 => v = .pointer (some ⟨B, 12, none⟩)
  | 20 => v = .bool false
  | 21 => v = .bool false
  | 22 => v = .pointer (some ⟨B, 0, none⟩)
  | 23 => v = .pointer (some ⟨B, 0, none⟩)
  | 24 => v = .pointer (some ⟨B, 12, none⟩)
  | 25 => v = .pointer (some ⟨B, 13, none⟩)
  | 26 => v = .agg #[.int .i64 f.pt.x, .int .i64 f.pt.y, .int .i64 f.pt.z]
  | 27 => v = .agg #[.int .i64 0, .int .i64 0, .int .i64 0]
  | 28 => v = .bool (ptE f.pt p0)
  | 29 => v = .bool (ptE f.pt p0)
  | 30 => v = .bool (ptE f.pt p0)
  | 3 => v = .bool (ptE f.pt p0)
  | _ => True
set_option linter.unusedVariables false in
theorem mbcV_mono (B : Nat) (r : Rg) (f : Fm) (d : Nat) (v : Value) (w w' : World) (h : mbcV B r f d v w) (_ : Below w.heap.size w w') : mbcV B r f d v w' := h
set_option maxHeartbeats 6400000 in
set_option maxRecDepth 100000 in
theorem mayBe_c (B M : Nat) (r : Rg) (f : Fm) (w : World) (h : Bk B (bdc r f M) w) (hp : inS r f.pt = true) (hm : f.hm = false) :
    Calls Tryd.prog 34 #[ptr B] w fun e w' => e = .returned (.bool (fmOk r f)) ∧ Below w.heap.size w w' := by
  have HP : Hid (∀ W, Calls Tryd.prog 37 #[rgv r, v3 f.pt] W fun e w' => e = .returned (.bool true) ∧ Below W.heap.size W w') := fun W => by have := isWithin_any r f.pt W; rwa [hp] at this
  have HI : Hid (∀ lo x hi W, Calls Tryd.prog 45 #[.int .i64 lo, .int .i64 x, .int .i64 hi] W fun e w' => e = .returned (.bool (inR lo hi x)) ∧ w' = W) := isFrom_any
  have KB0 : Hid (Bk B (bdc r f M) w) := h
  have KB : Hid (Bk B (bdc r ⟨false, f.pt, f.pl, f.tp, f.ht, f.tu, f.tk⟩ M) w) := by show Bk _ _ _; rw [← hm]; exact h
  have HH : Hid (hereB r f = (ptE f.pt p0)) := by show _ = _; unfold hereB; rw [hp, hm]; rfl
  clear h hp hm
  go_enter Tryd.func34, Tryd.ntmps34
  go_wp2_with fail
  rename_i KK hkk
  have HKK := (show Hid _ from hkk)
  clear hkk
  refine region_inv [false, false, false, true, false, true, true, true, true, true, true, true, true, true, true, true, true, true, true, true, true, true, true, true, true, true, true, true, true, true, true, false, false, false, false, false, false, false, false, false, false, false, false, false, false, false, false, false, false, false, false, false, false, false, false, false, false, false, false, false, false, false, false, false, false, false, false, false, false, false]
    [(5, [], none), (6, [5], none), (7, [6], none), (8, [7], none), (9, [], none), (10, [9], none), (11, [10], none), (12, [11], none), (13, [12], none), (14, [8, 13], none), (15, [14], none), (16, [15], some (15, true)), (17, [15, 16], some (15, true)), (18, [15, 17], some (15, true)), (19, [15, 18], some (15, true)), (20, [15, 19], some (15, true)), (21, [15, 20], some (15, true)), (22, [21], some (21, false)), (23, [21, 22], some (21, false)), (24, [21, 23], some (21, false)), (25, [21, 24], some (21, false)), (26, [21, 25], some (21, false)), (27, [21], some (21, false)), (28, [21, 26, 27], some (21, false)), (29, [15, 21, 28], some (15, true)), (30, [15, 29], none), (3, [30], none)]
    (mbcV B r f) (by kernel_rfl) (by kernel_rfl) (mbcV_mono B r f) ?_ ?_
  · refine ⟨?_, ?_, ?_, ?_, ?_, ?_, ?_, ?_, ?_, ?_, ?_, ?_, ?_, ?_, ?_, ?_, ?_, ?_, ?_, ?_, ?_, ?_, ?_, ?_, ?_, ?_, ?_, trivial⟩
    · intro f w1 hb _ K hK
      simp only [over, overL, Nat.reduceAdd]
      go_simp
      exact hK _ _ ⟨_, rfl, by simp only [over, overL, Nat.reduceAdd]; rfl, Below.refl _ _⟩
    · intro f w1 hb ⟨h5, _⟩ K hK
      replace h5 : f 5 = _ := h5
      simp only [over, overL, Nat.reduceAdd, h5]
      go_simp
      exact hK _ _ ⟨_, rfl, by simp only [over, overL, Nat.reduceAdd, h5]; rfl, Below.refl _ _⟩
    · intro f w1 hb ⟨h6, _⟩ K hK
      replace h6 : f 6 = _ := h6
      simp only [over, overL, Nat.reduceAdd, h6]
      go_simp
      exact hK _ _ ⟨_, rfl, by simp only [over, overL, Nat.reduceAdd, h6]; rfl, Below.refl _ _⟩
    · intro f w1 hb ⟨h7, _⟩ K hK
      replace h7 : f 7 = _ := h7
      have q0 := (KB.out.later hb).c 0 rfl
      have q1 := (KB.out.later hb).c 1 rfl
      have q2 := (KB.out.later hb).c 2 rfl
      have q3 := (KB.out.later hb).c 3 rfl
      have q4 := (KB.out.later hb).c 4 rfl
      have q5 := (KB.out.later hb).c 5 rfl
      have q6 := (KB.out.later hb).c 6 rfl
      have q7 := (KB.out.later hb).c 7 rfl
      have q8 := (KB.out.later hb).c 8 rfl
      have q9 := (KB.out.later hb).c 9 rfl
      have q10 := (KB.out.later hb).c 10 rfl
      have q11 := (KB.out.later hb).c 11 rfl
      simp only [over, overL, Nat.reduceAdd, h7]
      go_simp
      exact hK _ _ ⟨_, rfl, by simp only [over, overL, Nat.reduceAdd, h7]; rfl, Below.refl _ _⟩
    · intro f w1 hb _ K hK
      simp only [over, overL, Nat.reduceAdd]
      go_simp
      exact hK _ _ ⟨_, rfl, by simp only [over, overL, Nat.reduceAdd]; rfl, Below.refl _ _⟩
    · intro f w1 hb ⟨h9, _⟩ K hK
      replace h9 : f 9 = _ := h9
      simp only [over, overL, Nat.reduceAdd, h9]
      go_simp
      exact hK _ _ ⟨_, rfl, by simp only [over, overL, Nat.reduceAdd, h9]; rfl, Below.refl _ _⟩
    · intro f w1 hb ⟨h10, _⟩ K hK
      replace h10 : f 10 = _ := h10
      simp only [over, overL, Nat.reduceAdd, h10]
      go_simp
      exact hK _ _ ⟨_, rfl, by simp only [over, overL, Nat.reduceAdd, h10]; rfl, Below.refl _ _⟩
    · intro f w1 hb ⟨h11, _⟩ K hK
      replace h11 : f 11 = _ := h11
      simp only [over, overL, Nat.reduceAdd, h11]
      go_simp
      exact hK _ _ ⟨_, rfl, by simp only [over, overL, Nat.reduceAdd, h11]; rfl, Below.refl _ _⟩
    · intro f w1 hb ⟨h12, _⟩ K hK
      replace h12 : f 12 = _ := h12
      have q13 := (KB.out.later hb).c 13 rfl
      have q14 := (KB.out.later hb).c 14 rfl
      have q15 := (KB.out.later hb).c 15 rfl
      simp only [over, overL, Nat.reduceAdd, h12]
      go_simp
      exact hK _ _ ⟨_, rfl, by simp only [over, overL, Nat.reduceAdd, h12]; rfl, Below.refl _ _⟩
    · intro f w1 hb ⟨h8, h13, _⟩ K hK
      replace h8 : f 8 = _ := h8
      replace h13 : f 13 = _ := h13
      simp only [over, overL, Nat.reduceAdd, h8, h13]
      go_simp
      refine (HP.out _).mono ?_
      rintro e w2 ⟨rfl, hb2⟩
      exact hK _ _ ⟨_, rfl, by simp only [over, overL, Nat.reduceAdd, h8, h13]; rfl, hb2⟩
    · intro f w1 hb ⟨h14, _⟩ K hK
      replace h14 : f 14 = _ := h14
      simp only [over, overL, Nat.reduceAdd, h14]
      go_simp
      exact hK _ _ ⟨_, rfl, by simp only [over, overL, Nat.reduceAdd, h14]; rfl, Below.refl _ _⟩
    · intro f w1 hb ⟨h15, _⟩
      replace h15 : f 15 = _ := h15
      refine ⟨fun _ => ?_, fun hg => absurd h15 hg⟩
      intro K hK
      simp only [over, overL, Nat.reduceAdd, h15]
      go_simp
      exact hK _ _ ⟨_, rfl, by simp only [over, overL, Nat.reduceAdd, h15]; rfl, Below.refl _ _⟩
    · intro f w1 hb ⟨h15, h16, _⟩
      replace h15 : f 15 = _ := h15
      replace h16 : f 16 = _ := h16
      refine ⟨fun _ => ?_, fun hg => absurd h15 hg⟩
      intro K hK
      simp only [over, overL, Nat.reduceAdd, h15, h16]
      go_simp
      exact hK _ _ ⟨_, rfl, by simp only [over, overL, Nat.reduceAdd, h15, h16]; rfl, Below.refl _ _⟩
    · intro f w1 hb ⟨h15, h17, _⟩
      replace h15 : f 15 = _ := h15
      replace h17 : f 17 = _ := h17
      refine ⟨fun _ => ?_, fun hg => absurd h15 hg⟩
      intro K hK
      simp only [over, overL, Nat.reduceAdd, h15, h17]
      go_simp
      exact hK _ _ ⟨_, rfl, by simp only [over, overL, Nat.reduceAdd, h15, h17]; rfl, Below.refl _ _⟩
    · intro f w1 hb ⟨h15, h18, _⟩
      replace h15 : f 15 = _ := h15
      replace h18 : f 18 = _ := h18
      refine ⟨fun _ => ?_, fun hg => absurd h15 hg⟩
      intro K hK
      simp only [over, overL, Nat.reduceAdd, h15, h18]
      go_simp
      exact hK _ _ ⟨_, rfl, by simp only [over, overL, Nat.reduceAdd, h15, h18]; rfl, Below.refl _ _⟩
    · intro f w1 hb ⟨h15, h19, _⟩
      replace h15 : f 15 = _ := h15
      replace h19 : f 19 = _ := h19
      refine ⟨fun _ => ?_, fun hg => absurd h15 hg⟩
      intro K hK
      have q12 := (KB.out.later hb).c 12 rfl
      simp only [over, overL, Nat.reduceAdd, h15, h19]
      go_simp
      exact hK _ _ ⟨_, rfl, by simp only [over, overL, Nat.reduceAdd, h15, h19]; rfl, Below.refl _ _⟩
    · intro f w1 hb ⟨h15, h20, _⟩
      replace h15 : f 15 = _ := h15
      replace h20 : f 20 = _ := h20
      refine ⟨fun _ => ?_, fun hg => absurd h15 hg⟩
      intro K hK
      simp only [over, overL, Nat.reduceAdd, h15, h20]
      go_simp
      exact hK _ _ ⟨_, rfl, by simp only [over, overL, Nat.reduceAdd, h15, h20]; rfl, Below.refl _ _⟩
    · intro f w1 hb ⟨h21, _⟩
      replace h21 : f 21 = _ := h21
      refine ⟨fun _ => ?_, fun hg => absurd h21 hg⟩
      intro K hK
      simp only [over, overL, Nat.reduceAdd, h21]
      go_simp
      exact hK _ _ ⟨_, rfl, by simp only [over, overL, Nat.reduceAdd, h21]; rfl, Below.refl _ _⟩
    · intro f w1 hb ⟨h21, h22, _⟩
      replace h21 : f 21 = _ := h21
      replace h22 : f 22 = _ := h22
      refine ⟨fun _ => ?_, fun hg => absurd h21 hg⟩
      intro K hK
      simp only [over, overL, Nat.reduceAdd, h21, h22]
      go_simp
      exact hK _ _ ⟨_, rfl, by simp only [over, overL, Nat.reduceAdd, h21, h22]; rfl, Below.refl _ _⟩
    · intro f w1 hb ⟨h21, h23, _⟩
      replace h21 : f 21 = _ := h21
      replace h23 : f 23 = _ := h23
      refine ⟨fun _ => ?_, fun hg => absurd h21 hg⟩
      intro K hK
      simp only [over, overL, Nat.reduceAdd, h21, h23]
      go_simp
      exact hK _ _ ⟨_, rfl, by simp only [over, overL, Nat.reduceAdd, h21, h23]; rfl, Below.refl _ _⟩
    · intro f w1 hb ⟨h21, h24, _⟩
      replace h21 : f 21 = _ := h21
      replace h24 : f 24 = _ := h24
      refine ⟨fun _ => ?_, fun hg => absurd h21 hg⟩
      intro K hK
      simp only [over, overL, Nat.reduceAdd, h21, h24]
      go_simp
      exact hK _ _ ⟨_, rfl, by simp only [over, overL, Nat.reduceAdd, h21, h24]; rfl, Below.refl _ _⟩
    · intro f w1 hb ⟨h21, h25, _⟩
      replace h21 : f 21 = _ := h21
      replace h25 : f 25 = _ := h25
      refine ⟨fun _ => ?_, fun hg => absurd h21 hg⟩
      intro K hK
      have q13 := (KB.out.later hb).c 13 rfl
      have q14 := (KB.out.later hb).c 14 rfl
      have q15 := (KB.out.later hb).c 15 rfl
      simp only [over, overL, Nat.reduceAdd, h21, h25]
      go_simp
      exact hK _ _ ⟨_, rfl, by simp only [over, overL, Nat.reduceAdd, h21, h25]; rfl, Below.refl _ _⟩
    · intro f w1 hb ⟨h21, _⟩
      replace h21 : f 21 = _ := h21
      refine ⟨fun _ => ?_, fun hg => absurd h21 hg⟩
      intro K hK
      simp only [over, overL, Nat.reduceAdd, h21]
      go_simp
      exact hK _ _ ⟨_, rfl, by simp only [over, overL, Nat.reduceAdd, h21]; rfl, Below.refl _ _⟩
    · intro f w1 hb ⟨h21, h26, h27, _⟩
      replace h21 : f 21 = _ := h21
      replace h26 : f 26 = _ := h26
      replace h27 : f 27 = _ := h27
      refine ⟨fun _ => ?_, fun hg => absurd h21 hg⟩
      intro K hK
      simp only [over, overL, Nat.reduceAdd, h21, h26, h27]
      refine wp_binop rfl (by go_simp) (pt_eql _ p0 w1) ?_
      exact hK _ _ ⟨_, rfl, by simp only [over, overL, Nat.reduceAdd, h21, h26, h27], Below.refl _ _⟩
    · intro f w1 hb ⟨h15, h21, h28, _⟩
      replace h15 : f 15 = _ := h15
      replace h21 : f 21 = _ := h21
      replace h28 : f 28 = _ := h28
      refine ⟨fun _ => ?_, fun hg => absurd h15 hg⟩
      intro K hK
      simp only [over, overL, Nat.reduceAdd, h15, h21, h28]
      go_simp
      exact hK _ _ ⟨_, rfl, by simp only [over, overL, Nat.reduceAdd, h15, h21, h28]; rfl, Below.refl _ _⟩
    · intro f w1 hb ⟨h15, h29, _⟩ K hK
      replace h15 : f 15 = _ := h15
      replace h29 : f 29 = _ := h29
      simp only [over, overL, Nat.reduceAdd, h15, h29]
      go_simp
      exact hK _ _ ⟨_, rfl, by simp only [over, overL, Nat.reduceAdd, h15, h29]; rfl, Below.refl _ _⟩
    · intro f w1 hb ⟨h30, _⟩ K hK
      replace h30 : f 30 = _ := h30
      simp only [over, overL, Nat.reduceAdd, h30]
      go_simp
      exact hK _ _ ⟨_, rfl, by simp only [over, overL, Nat.reduceAdd, h30]; rfl, Below.refl _ _⟩
  · intro fr w1 hb1 hv
    have h3 : fr 3 = .bool (ptE f.pt p0) := hv.2.2.2.2.2.2.2.2.2.2.2.2.2.2.2.2.2.2.2.2.2.2.2.2.2.2.1
    have HB1 : Hid (Below w.heap.size w w1) := hb1
    have KB1 : Hid (Bk B (bdc r f M) w1) := KB0.out.later hb1
    simp only [over_eq, overL, h3, Nat.reduceAdd]
    clear hv h3 hb1 KB KB0
    refine HKK.out _ _ ?_
    clear HKK
    obtain ⟨hq, hhq⟩ : ∃ b, b = ptE f.pt p0 := ⟨_, rfl⟩
    rw [← hhq] at HH
    rw [← hhq]
    clear hhq
    go_wp2_with fail
    rename_i KK2 hkk2
    have HKK := (show Hid _ from hkk2)
    clear hkk2
    cases h1 : inR 0 r.mo f.pl with
    | false =>
      have X1 : Hid (∀ W, Calls Tryd.prog 45 #[.int .i64 0, .int .i64 f.pl, .int .i64 r.mo] W fun e w' => e = .returned (.bool false) ∧ w' = W) := fun W => by have := HI.out 0 f.pl r.mo W; rwa [h1] at this
      refine region_inv [false, false, false, false, true, false, false, false, false, false, false, false, false, false, false, false, false, false, false, false, false, false, false, false, false, false, false, false, false, false, false, true, true, true, true, true, true, true, true, true, true, true, true, true, true, true, true, true, true, true, true, true, true, true, true, true, true, true, false, false, false, false, false, false, false, false, false, false, false, false]
        [(31, [], none), (32, [31], none), (33, [32], none), (34, [33], none), (35, [34], none), (36, [], none), (37, [36], none), (38, [37], none), (39, [38], none), (40, [39], none), (41, [35, 40], none), (42, [41], none), (43, [42], some (42, true)), (44, [42, 43], some (42, true)), (45, [42, 44], some (42, true)), (46, [42, 45], some (42, true)), (47, [42, 46], some (42, true)), (48, [42, 47], some (42, true)), (49, [42, 48], none), (50, [49], none), (51, [50], some (50, true)), (52, [50, 51], some (50, true)), (53, [50, 52], some (50, true)), (54, [50, 53], some (50, true)), (55, [50, 54], some (50, true)), (56, [50, 55], some (50, true)), (57, [50, 56], none), (4, [57], none)]
        (mopV B r f) (by kernel_rfl) (by kernel_rfl) (mopV_mono B r f) ?_ ?_
      · refine ⟨?_, ?_, ?_, ?_, ?_, ?_, ?_, ?_, ?_, ?_, ?_, ?_, ?_, ?_, ?_, ?_, ?_, ?_, ?_, ?_, ?_, ?_, ?_, ?_, ?_, ?_, ?_, ?_, trivial⟩
        · intro f w1 hb _ K hK
          simp only [over, overL, Nat.reduceAdd]
          go_simp
          exact hK _ _ ⟨_, rfl, by simp only [over, overL, Nat.reduceAdd]; rfl, Below.refl _ _⟩
        · intro f w1 hb ⟨h31, _⟩ K hK
          replace h31 : f 31 = _ := h31
          simp only [over, overL, Nat.reduceAdd, h31]
          go_simp
          exact hK _ _ ⟨_, rfl, by simp only [over, overL, Nat.reduceAdd, h31]; rfl, Below.refl _ _⟩
        · intro f w1 hb ⟨h32, _⟩ K hK
          replace h32 : f 32 = _ := h32
          simp only [over, overL, Nat.reduceAdd, h32]
          go_simp
          exact hK _ _ ⟨_, rfl, by simp only [over, overL, Nat.reduceAdd, h32]; rfl, Below.refl _ _⟩
        · intro f w1 hb ⟨h33, _⟩ K hK
          replace h33 : f 33 = _ := h33
          simp only [over, overL, Nat.reduceAdd, h33]
          go_simp
          exact hK _ _ ⟨_, rfl, by simp only [over, overL, Nat.reduceAdd, h33]; rfl, Below.refl _ _⟩
        · intro f w1 hb ⟨h34, _⟩ K hK
          replace h34 : f 34 = _ := h34
          have q16 := (KB1.out.later hb).c 16 rfl
          simp only [over, overL, Nat.reduceAdd, h34]
          go_simp
          exact hK _ _ ⟨_, rfl, by simp only [over, overL, Nat.reduceAdd, h34]; rfl, Below.refl _ _⟩
        · intro f w1 hb _ K hK
          simp only [over, overL, Nat.reduceAdd]
          go_simp
          exact hK _ _ ⟨_, rfl, by simp only [over, overL, Nat.reduceAdd]; rfl, Below.refl _ _⟩
        · intro f w1 hb ⟨h36, _⟩ K hK
          replace h36 : f 36 = _ := h36
          simp only [over, overL, Nat.reduceAdd, h36]
          go_simp
          exact hK _ _ ⟨_, rfl, by simp only [over, overL, Nat.reduceAdd, h36]; rfl, Below.refl _ _⟩
        · intro f w1 hb ⟨h37, _⟩ K hK
          replace h37 : f 37 = _ := h37
          simp only [over, overL, Nat.reduceAdd, h37]
          go_simp
          exact hK _ _ ⟨_, rfl, by simp only [over, overL, Nat.reduceAdd, h37]; rfl, Below.refl _ _⟩
        · intro f w1 hb ⟨h38, _⟩ K hK
          replace h38 : f 38 = _ := h38
          simp only [over, overL, Nat.reduceAdd, h38]
          go_simp
          exact hK _ _ ⟨_, rfl, by simp only [over, overL, Nat.reduceAdd, h38]; rfl, Below.refl _ _⟩
        · intro f w1 hb ⟨h39, _⟩ K hK
          replace h39 : f 39 = _ := h39
          have q11 := (KB1.out.later hb).c 11 rfl
          simp only [over, overL, Nat.reduceAdd, h39]
          go_simp
          exact hK _ _ ⟨_, rfl, by simp only [over, overL, Nat.reduceAdd, h39]; rfl, Below.refl _ _⟩
        · intro f w1 hb ⟨h35, h40, _⟩ K hK
          replace h35 : f 35 = _ := h35
          replace h40 : f 40 = _ := h40
          simp only [over, overL, Nat.reduceAdd, h35, h40]
          go_simp
          refine (X1.out _).mono ?_
          rintro e w2 ⟨rfl, hb2⟩
          exact hK _ _ ⟨_, rfl, by simp only [over, overL, Nat.reduceAdd, h35, h40]; rfl, by rw [hb2]; exact Below.refl _ _⟩
        · intro f w1 hb ⟨h41, _⟩ K hK
          replace h41 : f 41 = _ := h41
          simp only [over, overL, Nat.reduceAdd, h41]
          go_simp
          exact hK _ _ ⟨_, rfl, by simp only [over, overL, Nat.reduceAdd, h41]; rfl, Below.refl _ _⟩
        · intro f w1 hb ⟨h42, _⟩
          replace h42 : f 42 = _ := h42
          exact ⟨fun hg => absurd (h42.symm.trans hg) (by simp), fun _ => trivial⟩
        · intro f w1 hb ⟨h42, h43, _⟩
          replace h42 : f 42 = _ := h42
          exact ⟨fun hg => absurd (h42.symm.trans hg) (by simp), fun _ => trivial⟩
        · intro f w1 hb ⟨h42, h44, _⟩
          replace h42 : f 42 = _ := h42
          exact ⟨fun hg => absurd (h42.symm.trans hg) (by simp), fun _ => trivial⟩
        · intro f w1 hb ⟨h42, h45, _⟩
          replace h42 : f 42 = _ := h42
          exact ⟨fun hg => absurd (h42.symm.trans hg) (by simp), fun _ => trivial⟩
        · intro f w1 hb ⟨h42, h46, _⟩
          replace h42 : f 42 = _ := h42
          exact ⟨fun hg => absurd (h42.symm.trans hg) (by simp), fun _ => trivial⟩
        · intro f w1 hb ⟨h42, h47, _⟩
          replace h42 : f 42 = _ := h42
          exact ⟨fun hg => absurd (h42.symm.trans hg) (by simp), fun _ => trivial⟩
        · intro f w1 hb ⟨h42, h48, _⟩ K hK
          replace h42 : f 42 = _ := h42
          simp only [over, overL, Nat.reduceAdd, h42]
          go_simp
          exact hK _ _ ⟨_, rfl, by simp only [over, overL, Nat.reduceAdd, h42]; rfl, Below.refl _ _⟩
        · intro f w1 hb ⟨h49, _⟩ K hK
          replace h49 : f 49 = _ := h49
          simp only [over, overL, Nat.reduceAdd, h49]
          go_simp
          exact hK _ _ ⟨_, rfl, by simp only [over, overL, Nat.reduceAdd, h49]; rfl, Below.refl _ _⟩
        · intro f w1 hb ⟨h50, _⟩
          replace h50 : f 50 = _ := h50
          exact ⟨fun hg => absurd (h50.symm.trans hg) (by simp), fun _ => trivial⟩
        · intro f w1 hb ⟨h50, h51, _⟩
          replace h50 : f 50 = _ := h50
          exact ⟨fun hg => absurd (h50.symm.trans hg) (by simp), fun _ => trivial⟩
        · intro f w1 hb ⟨h50, h52, _⟩
          replace h50 : f 50 = _ := h50
          exact ⟨fun hg => absurd (h50.symm.trans hg) (by simp), fun _ => trivial⟩
        · intro f w1 hb ⟨h50, h53, _⟩
          replace h50 : f 50 = _ := h50
          exact ⟨fun hg => absurd (h50.symm.trans hg) (by simp), fun _ => trivial⟩
        · intro f w1 hb ⟨h50, h54, _⟩
          replace h50 : f 50 = _ := h50
          exact ⟨fun hg => absurd (h50.symm.trans hg) (by simp), fun _ => trivial⟩
        · intro f w1 hb ⟨h50, h55, _⟩
          replace h50 : f 50 = _ := h50
          exact ⟨fun hg => absurd (h50.symm.trans hg) (by simp), fun _ => trivial⟩
        · intro f w1 hb ⟨h50, h56, _⟩ K hK
          replace h50 : f 50 = _ := h50
          simp only [over, overL, Nat.reduceAdd, h50]
          go_simp
          exact hK _ _ ⟨_, rfl, by simp only [over, overL, Nat.reduceAdd, h50]; rfl, Below.refl _ _⟩
        · intro f w1 hb ⟨h57, _⟩ K hK
          replace h57 : f 57 = _ := h57
          simp only [over, overL, Nat.reduceAdd, h57]
          go_simp
          exact hK _ _ ⟨_, rfl, by simp only [over, overL, Nat.reduceAdd, h57]; rfl, Below.refl _ _⟩
      · intro fs w2 hb2 hv
        have h4 : fs 4 = .bool false := hv.2.2.2.2.2.2.2.2.2.2.2.2.2.2.2.2.2.2.2.2.2.2.2.2.2.2.2.1
        have HB2 : Hid (Below w.heap.size w w2) := below_on HB1.out hb2
        have q20 := (KB1.out.later hb2).c 20 rfl
        simp only [over_eq, overL, h4, Nat.reduceAdd]
        clear hv h4 hb2 KB1 HB1
        refine HKK.out _ _ ?_
        clear HKK
        cases hq <;> (go_wp2; go_ret; exact ⟨ret_bool (by simp [fmOk, onB, h1]), HB2.out⟩)
    | true =>
      have X1 : Hid (∀ W, Calls Tryd.prog 45 #[.int .i64 0, .int .i64 f.pl, .int .i64 r.mo] W fun e w' => e = .returned (.bool true) ∧ w' = W) := fun W => by have := HI.out 0 f.pl r.mo W; rwa [h1] at this
      cases h2 : inR 0 1000000000 f.ht with
      | false =>
        have X2 : Hid (∀ W, Calls Tryd.prog 45 #[.int .i64 0, .int .i64 f.ht, .int .i64 1000000000] W fun e w' => e = .returned (.bool false) ∧ w' = W) := fun W => by have := HI.out 0 f.ht 1000000000 W; rwa [h2] at this
        refine region_inv [false, false, false, false, true, false, false, false, false, false, false, false, false, false, false, false, false, false, false, false, false, false, false, false, false, false, false, false, false, false, false, true, true, true, true, true, true, true, true, true, true, true, true, true, true, true, true, true, true, true, true, true, true, true, true, true, true, true, false, false, false, false, false, false, false, false, false, false, false, false]
          [(31, [], none), (32, [31], none), (33, [32], none), (34, [33], none), (35, [34], none), (36, [], none), (37, [36], none), (38, [37], none), (39, [38], none), (40, [39], none), (41, [35, 40], none), (42, [41], none), (43, [42], some (42, true)), (44, [42, 43], some (42, true)), (45, [42, 44], some (42, true)), (46, [42, 45], some (42, true)), (47, [42, 46], some (42, true)), (48, [42, 47], some (42, true)), (49, [42, 48], none), (50, [49], none), (51, [50], some (50, true)), (52, [50, 51], some (50, true)), (53, [50, 52], some (50, true)), (54, [50, 53], some (50, true)), (55, [50, 54], some (50, true)), (56, [50, 55], some (50, true)), (57, [50, 56], none), (4, [57], none)]
          (moqV B r f) (by kernel_rfl) (by kernel_rfl) (moqV_mono B r f) ?_ ?_
        · refine ⟨?_, ?_, ?_, ?_, ?_, ?_, ?_, ?_, ?_, ?_, ?_, ?_, ?_, ?_, ?_, ?_, ?_, ?_, ?_, ?_, ?_, ?_, ?_, ?_, ?_, ?_, ?_, ?_, trivial⟩
          · intro f w1 hb _ K hK
            simp only [over, overL, Nat.reduceAdd]
            go_simp
            exact hK _ _ ⟨_, rfl, by simp only [over, overL, Nat.reduceAdd]; rfl, Below.refl _ _⟩
          · intro f w1 hb ⟨h31, _⟩ K hK
            replace h31 : f 31 = _ := h31
            simp only [over, overL, Nat.reduceAdd, h31]
            go_simp
            exact hK _ _ ⟨_, rfl, by simp only [over, overL, Nat.reduceAdd, h31]; rfl, Below.refl _ _⟩
          · intro f w1 hb ⟨h32, _⟩ K hK
            replace h32 : f 32 = _ := h32
            simp only [over, overL, Nat.reduceAdd, h32]
            go_simp
            exact hK _ _ ⟨_, rfl, by simp only [over, overL, Nat.reduceAdd, h32]; rfl, Below.refl _ _⟩
          · intro f w1 hb ⟨h33, _⟩ K hK
            replace h33 : f 33 = _ := h33
            simp only [over, overL, Nat.reduceAdd, h33]
            go_simp
            exact hK _ _ ⟨_, rfl, by simp only [over, overL, Nat.reduceAdd, h33]; rfl, Below.refl _ _⟩
          · intro f w1 hb ⟨h34, _⟩ K hK
            replace h34 : f 34 = _ := h34
            have q16 := (KB1.out.later hb).c 16 rfl
            simp only [over, overL, Nat.reduceAdd, h34]
            go_simp
            exact hK _ _ ⟨_, rfl, by simp only [over, overL, Nat.reduceAdd, h34]; rfl, Below.refl _ _⟩
          · intro f w1 hb _ K hK
            simp only [over, overL, Nat.reduceAdd]
            go_simp
            exact hK _ _ ⟨_, rfl, by simp only [over, overL, Nat.reduceAdd]; rfl, Below.refl _ _⟩
          · intro f w1 hb ⟨h36, _⟩ K hK
            replace h36 : f 36 = _ := h36
            simp only [over, overL, Nat.reduceAdd, h36]
            go_simp
            exact hK _ _ ⟨_, rfl, by simp only [over, overL, Nat.reduceAdd, h36]; rfl, Below.refl _ _⟩
          · intro f w1 hb ⟨h37, _⟩ K hK
            replace h37 : f 37 = _ := h37
            simp only [over, overL, Nat.reduceAdd, h37]
            go_simp
            exact hK _ _ ⟨_, rfl, by simp only [over, overL, Nat.reduceAdd, h37]; rfl, Below.refl _ _⟩
          · intro f w1 hb ⟨h38, _⟩ K hK
            replace h38 : f 38 = _ := h38
            simp only [over, overL, Nat.reduceAdd, h38]
            go_simp
            exact hK _ _ ⟨_, rfl, by simp only [over, overL, Nat.reduceAdd, h38]; rfl, Below.refl _ _⟩
          · intro f w1 hb ⟨h39, _⟩ K hK
            replace h39 : f 39 = _ := h39
            have q11 := (KB1.out.later hb).c 11 rfl
            simp only [over, overL, Nat.reduceAdd, h39]
            go_simp
            exact hK _ _ ⟨_, rfl, by simp only [over, overL, Nat.reduceAdd, h39]; rfl, Below.refl _ _⟩
          · intro f w1 hb ⟨h35, h40, _⟩ K hK
            replace h35 : f 35 = _ := h35
            replace h40 : f 40 = _ := h40
            simp only [over, overL, Nat.reduceAdd, h35, h40]
            go_simp
            refine (X1.out _).mono ?_
            rintro e w2 ⟨rfl, hb2⟩
            exact hK _ _ ⟨_, rfl, by simp only [over, overL, Nat.reduceAdd, h35, h40]; rfl, by rw [hb2]; exact Below.refl _ _⟩
          · intro f w1 hb ⟨h41, _⟩ K hK
            replace h41 : f 41 = _ := h41
            simp only [over, overL, Nat.reduceAdd, h41]
            go_simp
            exact hK _ _ ⟨_, rfl, by simp only [over, overL, Nat.reduceAdd, h41]; rfl, Below.refl _ _⟩
          · intro f w1 hb ⟨h42, _⟩
            replace h42 : f 42 = _ := h42
            refine ⟨fun _ => ?_, fun hg => absurd h42 hg⟩
            intro K hK
            simp only [over, overL, Nat.reduceAdd, h42]
            go_simp
            exact hK _ _ ⟨_, rfl, by simp only [over, overL, Nat.reduceAdd, h42]; rfl, Below.refl _ _⟩
          · intro f w1 hb ⟨h42, h43, _⟩
            replace h42 : f 42 = _ := h42
            replace h43 : f 43 = _ := h43
            refine ⟨fun _ => ?_, fun hg => absurd h42 hg⟩
            intro K hK
            simp only [over, overL, Nat.reduceAdd, h42, h43]
            go_simp
            exact hK _ _ ⟨_, rfl, by simp only [over, overL, Nat.reduceAdd, h42, h43]; rfl, Below.refl _ _⟩
          · intro f w1 hb ⟨h42, h44, _⟩
            replace h42 : f 42 = _ := h42
            replace h44 : f 44 = _ := h44
            refine ⟨fun _ => ?_, fun hg => absurd h42 hg⟩
            intro K hK
            simp only [over, overL, Nat.reduceAdd, h42, h44]
            go_simp
            exact hK _ _ ⟨_, rfl, by simp only [over, overL, Nat.reduceAdd, h42, h44]; rfl, Below.refl _ _⟩
          · intro f w1 hb ⟨h42, h45, _⟩
            replace h42 : f 42 = _ := h42
            replace h45 : f 45 = _ := h45
            refine ⟨fun _ => ?_, fun hg => absurd h42 hg⟩
            intro K hK
            simp only [over, overL, Nat.reduceAdd, h42, h45]
            go_simp
            exact hK _ _ ⟨_, rfl, by simp only [over, overL, Nat.reduceAdd, h42, h45]; rfl, Below.refl _ _⟩
          · intro f w1 hb ⟨h42, h46, _⟩
            replace h42 : f 42 = _ := h42
            replace h46 : f 46 = _ := h46
            refine ⟨fun _ => ?_, fun hg => absurd h42 hg⟩
            intro K hK
            have q18 := (KB1.out.later hb).c 18 rfl
            simp only [over, overL, Nat.reduceAdd, h42, h46]
            go_simp
            exact hK _ _ ⟨_, rfl, by simp only [over, overL, Nat.reduceAdd, h42, h46]; rfl, Below.refl _ _⟩
          · intro f w1 hb ⟨h42, h47, _⟩
            replace h42 : f 42 = _ := h42
            replace h47 : f 47 = _ := h47
            refine ⟨fun _ => ?_, fun hg => absurd h42 hg⟩
            intro K hK
            simp only [over, overL, Nat.reduceAdd, h42, h47]
            go_simp
            refine (X2.out _).mono ?_
            rintro e w2 ⟨rfl, hb2⟩
            exact hK _ _ ⟨_, rfl, by simp only [over, overL, Nat.reduceAdd, h42, h47]; rfl, by rw [hb2]; exact Below.refl _ _⟩
          · intro f w1 hb ⟨h42, h48, _⟩ K hK
            replace h42 : f 42 = _ := h42
            replace h48 : f 48 = _ := h48
            simp only [over, overL, Nat.reduceAdd, h42, h48]
            go_simp
            exact hK _ _ ⟨_, rfl, by simp only [over, overL, Nat.reduceAdd, h42, h48]; rfl, Below.refl _ _⟩
          · intro f w1 hb ⟨h49, _⟩ K hK
            replace h49 : f 49 = _ := h49
            simp only [over, overL, Nat.reduceAdd, h49]
            go_simp
            exact hK _ _ ⟨_, rfl, by simp only [over, overL, Nat.reduceAdd, h49]; rfl, Below.refl _ _⟩
          · intro f w1 hb ⟨h50, _⟩
            replace h50 : f 50 = _ := h50
            exact ⟨fun hg => absurd (h50.symm.trans hg) (by simp), fun _ => trivial⟩
          · intro f w1 hb ⟨h50, h51, _⟩
            replace h50 : f 50 = _ := h50
            exact ⟨fun hg => absurd (h50.symm.trans hg) (by simp), fun _ => trivial⟩
          · intro f w1 hb ⟨h50, h52, _⟩
            replace h50 : f 50 = _ := h50
            exact ⟨fun hg => absurd (h50.symm.trans hg) (by simp), fun _ => trivial⟩
          · intro f w1 hb ⟨h50, h53, _⟩
            replace h50 : f 50 = _ := h50
            exact ⟨fun hg => absurd (h50.symm.trans hg) (by simp), fun _ => trivial⟩
          · intro f w1 hb ⟨h50, h54, _⟩
            replace h50 : f 50 = _ := h50
            exact ⟨fun hg => absurd (h50.symm.trans hg) (by simp), fun _ => trivial⟩
          · intro f w1 hb ⟨h50, h55, _⟩
            replace h50 : f 50 = _ := h50
            exact ⟨fun hg => absurd (h50.symm.trans hg) (by simp), fun _ => trivial⟩
          · intro f w1 hb ⟨h50, h56, _⟩ K hK
            replace h50 : f 50 = _ := h50
            simp only [over, overL, Nat.reduceAdd, h50]
            go_simp
            exact hK _ _ ⟨_, rfl, by simp only [over, overL, Nat.reduceAdd, h50]; rfl, Below.refl _ _⟩
          · intro f w1 hb ⟨h57, _⟩ K hK
            replace h57 : f 57 = _ := h57
            simp only [over, overL, Nat.reduceAdd, h57]
            go_simp
            exact hK _ _ ⟨_, rfl, by simp only [over, overL, Nat.reduceAdd, h57]; rfl, Below.refl _ _⟩
        · intro fs w2 hb2 hv
          have h4 : fs 4 = .bool false := hv.2.2.2.2.2.2.2.2.2.2.2.2.2.2.2.2.2.2.2.2.2.2.2.2.2.2.2.1
          have HB2 : Hid (Below w.heap.size w w2) := below_on HB1.out hb2
          have q20 := (KB1.out.later hb2).c 20 rfl
          simp only [over_eq, overL, h4, Nat.reduceAdd]
          clear hv h4 hb2 KB1 HB1
          refine HKK.out _ _ ?_
          clear HKK
          cases hq <;> (go_wp2; go_ret; exact ⟨ret_bool (by simp [fmOk, onB, h2]), HB2.out⟩)
      | true =>
        have X2 : Hid (∀ W, Calls Tryd.prog 45 #[.int .i64 0, .int .i64 f.ht, .int .i64 1000000000] W fun e w' => e = .returned (.bool true) ∧ w' = W) := fun W => by have := HI.out 0 f.ht 1000000000 W; rwa [h2] at this
        obtain ⟨c, hc⟩ : ∃ c, c = inR 0 1000000000 f.tu := ⟨_, rfl⟩
        have X3 : Hid (∀ W, Calls Tryd.prog 45 #[.int .i64 0, .int .i64 f.tu, .int .i64 1000000000] W fun e w' => e = .returned (.bool c) ∧ w' = W) := fun W => by rw [hc]; exact HI.out 0 f.tu 1000000000 W
        have HC : Hid (inR 0 1000000000 f.tu = c) := hc.symm
        clear hc
        refine region_inv [false, false, false, false, true, false, false, false, false, false, false, false, false, false, false, false, false, false, false, false, false, false, false, false, false, false, false, false, false, false, false, true, true, true, true, true, true, true, true, true, true, true, true, true, true, true, true, true, true, true, true, true, true, true, true, true, true, true, false, false, false, false, false, false, false, false, false, false, false, false]
          [(31, [], none), (32, [31], none), (33, [32], none), (34, [33], none), (35, [34], none), (36, [], none), (37, [36], none), (38, [37], none), (39, [38], none), (40, [39], none), (41, [35, 40], none), (42, [41], none), (43, [42], some (42, true)), (44, [42, 43], some (42, true)), (45, [42, 44], some (42, true)), (46, [42, 45], some (42, true)), (47, [42, 46], some (42, true)), (48, [42, 47], some (42, true)), (49, [42, 48], none), (50, [49], none), (51, [50], some (50, true)), (52, [50, 51], some (50, true)), (53, [50, 52], some (50, true)), (54, [50, 53], some (50, true)), (55, [50, 54], some (50, true)), (56, [50, 55], some (50, true)), (57, [50, 56], none), (4, [57], none)]
          (mosV B r f c) (by kernel_rfl) (by kernel_rfl) (mosV_mono B r f c) ?_ ?_
        · refine ⟨?_, ?_, ?_, ?_, ?_, ?_, ?_, ?_, ?_, ?_, ?_, ?_, ?_, ?_, ?_, ?_, ?_, ?_, ?_, ?_, ?_, ?_, ?_, ?_, ?_, ?_, ?_, ?_, trivial⟩
          · intro f w1 hb _ K hK
            simp only [over, overL, Nat.reduceAdd]
            go_simp
            exact hK _ _ ⟨_, rfl, by simp only [over, overL, Nat.reduceAdd]; rfl, Below.refl _ _⟩
          · intro f w1 hb ⟨h31, _⟩ K hK
            replace h31 : f 31 = _ := h31
            simp only [over, overL, Nat.reduceAdd, h31]
            go_simp
            exact hK _ _ ⟨_, rfl, by simp only [over, overL, Nat.reduceAdd, h31]; rfl, Below.refl _ _⟩
          · intro f w1 hb ⟨h32, _⟩ K hK
            replace h32 : f 32 = _ := h32
            simp only [over, overL, Nat.reduceAdd, h32]
            go_simp
            exact hK _ _ ⟨_, rfl, by simp only [over, overL, Nat.reduceAdd, h32]; rfl, Below.refl _ _⟩
          · intro f w1 hb ⟨h33, _⟩ K hK
            replace h33 : f 33 = _ := h33
            simp only [over, overL, Nat.reduceAdd, h33]
            go_simp
            exact hK _ _ ⟨_, rfl, by simp only [over, overL, Nat.reduceAdd, h33]; rfl, Below.refl _ _⟩
          · intro f w1 hb ⟨h34, _⟩ K hK
            replace h34 : f 34 = _ := h34
            have q16 := (KB1.out.later hb).c 16 rfl
            simp only [over, overL, Nat.reduceAdd, h34]
            go_simp
            exact hK _ _ ⟨_, rfl, by simp only [over, overL, Nat.reduceAdd, h34]; rfl, Below.refl _ _⟩
          · intro f w1 hb _ K hK
            simp only [over, overL, Nat.reduceAdd]
            go_simp
            exact hK _ _ ⟨_, rfl, by simp only [over, overL, Nat.reduceAdd]; rfl, Below.refl _ _⟩
          · intro f w1 hb ⟨h36, _⟩ K hK
            replace h36 : f 36 = _ := h36
            simp only [over, overL, Nat.reduceAdd, h36]
            go_simp
            exact hK _ _ ⟨_, rfl, by simp only [over, overL, Nat.reduceAdd, h36]; rfl, Below.refl _ _⟩
          · intro f w1 hb ⟨h37, _⟩ K hK
            replace h37 : f 37 = _ := h37
            simp only [over, overL, Nat.reduceAdd, h37]
            go_simp
            exact hK _ _ ⟨_, rfl, by simp only [over, overL, Nat.reduceAdd, h37]; rfl, Below.refl _ _⟩
          · intro f w1 hb ⟨h38, _⟩ K hK
            replace h38 : f 38 = _ := h38
            simp only [over, overL, Nat.reduceAdd, h38]
            go_simp
            exact hK _ _ ⟨_, rfl, by simp only [over, overL, Nat.reduceAdd, h38]; rfl, Below.refl _ _⟩
          · intro f w1 hb ⟨h39, _⟩ K hK
            replace h39 : f 39 = _ := h39
            have q11 := (KB1.out.later hb).c 11 rfl
            simp only [over, overL, Nat.reduceAdd, h39]
            go_simp
            exact hK _ _ ⟨_, rfl, by simp only [over, overL, Nat.reduceAdd, h39]; rfl, Below.refl _ _⟩
          · intro f w1 hb ⟨h35, h40, _⟩ K hK
            replace h35 : f 35 = _ := h35
            replace h40 : f 40 = _ := h40
            simp only [over, overL, Nat.reduceAdd, h35, h40]
            go_simp
            refine (X1.out _).mono ?_
            rintro e w2 ⟨rfl, hb2⟩
            exact hK _ _ ⟨_, rfl, by simp only [over, overL, Nat.reduceAdd, h35, h40]; rfl, by rw [hb2]; exact Below.refl _ _⟩
          · intro f w1 hb ⟨h41, _⟩ K hK
            replace h41 : f 41 = _ := h41
            simp only [over, overL, Nat.reduceAdd, h41]
            go_simp
            exact hK _ _ ⟨_, rfl, by simp only [over, overL, Nat.reduceAdd, h41]; rfl, Below.refl _ _⟩
          · intro f w1 hb ⟨h42, _⟩
            replace h42 : f 42 = _ := h42
            refine ⟨fun _ => ?_, fun hg => absurd h42 hg⟩
            intro K hK
            simp only [over, overL, Nat.reduceAdd, h42]
            go_simp
            exact hK _ _ ⟨_, rfl, by simp only [over, overL, Nat.reduceAdd, h42]; rfl, Below.refl _ _⟩
          · intro f w1 hb ⟨h42, h43, _⟩
            replace h42 : f 42 = _ := h42
            replace h43 : f 43 = _ := h43
            refine ⟨fun _ => ?_, fun hg => absurd h42 hg⟩
            intro K hK
            simp only [over, overL, Nat.reduceAdd, h42, h43]
            go_simp
            exact hK _ _ ⟨_, rfl, by simp only [over, overL, Nat.reduceAdd, h42, h43]; rfl, Below.refl _ _⟩
          · intro f w1 hb ⟨h42, h44, _⟩
            replace h42 : f 42 = _ := h42
            replace h44 : f 44 = _ := h44
            refine ⟨fun _ => ?_, fun hg => absurd h42 hg⟩
            intro K hK
            simp only [over, overL, Nat.reduceAdd, h42, h44]
            go_simp
            exact hK _ _ ⟨_, rfl, by simp only [over, overL, Nat.reduceAdd, h42, h44]; rfl, Below.refl _ _⟩
          · intro f w1 hb ⟨h42, h45, _⟩
            replace h42 : f 42 = _ := h42
            replace h45 : f 45 = _ := h45
            refine ⟨fun _ => ?_, fun hg => absurd h42 hg⟩
            intro K hK
            simp only [over, overL, Nat.reduceAdd, h42, h45]
            go_simp
            exact hK _ _ ⟨_, rfl, by simp only [over, overL, Nat.reduceAdd, h42, h45]; rfl, Below.refl _ _⟩
          · intro f w1 hb ⟨h42, h46, _⟩
            replace h42 : f 42 = _ := h42
            replace h46 : f 46 = _ := h46
            refine ⟨fun _ => ?_, fun hg => absurd h42 hg⟩
            intro K hK
            have q18 := (KB1.out.later hb).c 18 rfl
            simp only [over, overL, Nat.reduceAdd, h42, h46]
            go_simp
            exact hK _ _ ⟨_, rfl, by simp only [over, overL, Nat.reduceAdd, h42, h46]; rfl, Below.refl _ _⟩
          · intro f w1 hb ⟨h42, h47, _⟩
            replace h42 : f 42 = _ := h42
            replace h47 : f 47 = _ := h47
            refine ⟨fun _ => ?_, fun hg => absurd h42 hg⟩
            intro K hK
            simp only [over, overL, Nat.reduceAdd, h42, h47]
            go_simp
            refine (X2.out _).mono ?_
            rintro e w2 ⟨rfl, hb2⟩
            exact hK _ _ ⟨_, rfl, by simp only [over, overL, Nat.reduceAdd, h42, h47]; rfl, by rw [hb2]; exact Below.refl _ _⟩
          · intro f w1 hb ⟨h42, h48, _⟩ K hK
            replace h42 : f 42 = _ := h42
            replace h48 : f 48 = _ := h48
            simp only [over, overL, Nat.reduceAdd, h42, h48]
            go_simp
            exact hK _ _ ⟨_, rfl, by simp only [over, overL, Nat.reduceAdd, h42, h48]; rfl, Below.refl _ _⟩
          · intro f w1 hb ⟨h49, _⟩ K hK
            replace h49 : f 49 = _ := h49
            simp only [over, overL, Nat.reduceAdd, h49]
            go_simp
            exact hK _ _ ⟨_, rfl, by simp only [over, overL, Nat.reduceAdd, h49]; rfl, Below.refl _ _⟩
          · intro f w1 hb ⟨h50, _⟩
            replace h50 : f 50 = _ := h50
            refine ⟨fun _ => ?_, fun hg => absurd h50 hg⟩
            intro K hK
            simp only [over, overL, Nat.reduceAdd, h50]
            go_simp
            exact hK _ _ ⟨_, rfl, by simp only [over, overL, Nat.reduceAdd, h50]; rfl, Below.refl _ _⟩
          · intro f w1 hb ⟨h50, h51, _⟩
            replace h50 : f 50 = _ := h50
            replace h51 : f 51 = _ := h51
            refine ⟨fun _ => ?_, fun hg => absurd h50 hg⟩
            intro K hK
            simp only [over, overL, Nat.reduceAdd, h50, h51]
            go_simp
            exact hK _ _ ⟨_, rfl, by simp only [over, overL, Nat.reduceAdd, h50, h51]; rfl, Below.refl _ _⟩
          · intro f w1 hb ⟨h50, h52, _⟩
            replace h50 : f 50 = _ := h50
            replace h52 : f 52 = _ := h52
            refine ⟨fun _ => ?_, fun hg => absurd h50 hg⟩
            intro K hK
            simp only [over, overL, Nat.reduceAdd, h50, h52]
            go_simp
            exact hK _ _ ⟨_, rfl, by simp only [over, overL, Nat.reduceAdd, h50, h52]; rfl, Below.refl _ _⟩
          · intro f w1 hb ⟨h50, h53, _⟩
            replace h50 : f 50 = _ := h50
            replace h53 : f 53 = _ := h53
            refine ⟨fun _ => ?_, fun hg => absurd h50 hg⟩
            intro K hK
            simp only [over, overL, Nat.reduceAdd, h50, h53]
            go_simp
            exact hK _ _ ⟨_, rfl, by simp only [over, overL, Nat.reduceAdd, h50, h53]; rfl, Below.refl _ _⟩
          · intro f w1 hb ⟨h50, h54, _⟩
            replace h50 : f 50 = _ := h50
            replace h54 : f 54 = _ := h54
            refine ⟨fun _ => ?_, fun hg => absurd h50 hg⟩
            intro K hK
            have q19 := (KB1.out.later hb).c 19 rfl
            simp only [over, overL, Nat.reduceAdd, h50, h54]
            go_simp
            exact hK _ _ ⟨_, rfl, by simp only [over, overL, Nat.reduceAdd, h50, h54]; rfl, Below.refl _ _⟩
          · intro f w1 hb ⟨h50, h55, _⟩
            replace h50 : f 50 = _ := h50
            replace h55 : f 55 = _ := h55
            refine ⟨fun _ => ?_, fun hg => absurd h50 hg⟩
            intro K hK
            simp only [over, overL, Nat.reduceAdd, h50, h55]
            go_simp
            refine (X3.out _).mono ?_
            rintro e w2 ⟨rfl, hb2⟩
            exact hK _ _ ⟨_, rfl, by simp only [over, overL, Nat.reduceAdd, h50, h55]; rfl, by rw [hb2]; exact Below.refl _ _⟩
          · intro f w1 hb ⟨h50, h56, _⟩ K hK
            replace h50 : f 50 = _ := h50
            replace h56 : f 56 = _ := h56
            simp only [over, overL, Nat.reduceAdd, h50, h56]
            go_simp
            exact hK _ _ ⟨_, rfl, by simp only [over, overL, Nat.reduceAdd, h50, h56]; rfl, Below.refl _ _⟩
          · intro f w1 hb ⟨h57, _⟩ K hK
            replace h57 : f 57 = _ := h57
            simp only [over, overL, Nat.reduceAdd, h57]
            go_simp
            exact hK _ _ ⟨_, rfl, by simp only [over, overL, Nat.reduceAdd, h57]; rfl, Below.refl _ _⟩
        · intro fs w2 hb2 hv
          have h4 : fs 4 = .bool c := hv.2.2.2.2.2.2.2.2.2.2.2.2.2.2.2.2.2.2.2.2.2.2.2.2.2.2.2.1
          have HB2 : Hid (Below w.heap.size w w2) := below_on HB1.out hb2
          have q20 := (KB1.out.later hb2).c 20 rfl
          simp only [over_eq, overL, h4, Nat.reduceAdd]
          clear hv h4 hb2 KB1 HB1
          refine HKK.out _ _ ?_
          clear HKK
          cases hq with
          | false => (go_wp2; go_ret; exact ⟨ret_bool (by simp [fmOk, HH.out]), HB2.out⟩)
          | true =>
            cases c with
            | false => (go_wp2; go_ret; exact ⟨ret_bool (by simp [fmOk, onB, HC.out]), HB2.out⟩)
            | true =>
              go_wp2_with fail
              refine (HI.out _ _ _ _).mono ?_
              rintro e w3 ⟨rfl, rfl⟩
              go_wp2
              go_ret
              exact ⟨ret_bool (by simp [fmOk, onB, HH.out, h1, h2, HC.out]), HB2.out⟩
theorem mayBe_any (B M : Nat) (r : Rg) (f : Fm) (w : World) (h : Bk B (bdc r f M) w) : Calls Tryd.prog 34 #[ptr B] w fun e w' => e = .returned (.bool (fmOk r f)) ∧ Below w.heap.size w w' := by
  cases hp : inS r f.pt with
  | false => exact mayBe_a B M r f w h hp
  | true =>
    cases hm : f.hm with
    | true => exact mayBe_b B M r f w h hp hm
    | false => exact mayBe_c B M r f w h hp hm
end Go.Proofs.YtgahlhfgpkklaaaDoor
