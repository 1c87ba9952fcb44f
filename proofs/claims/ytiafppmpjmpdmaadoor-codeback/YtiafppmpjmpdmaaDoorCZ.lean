/- The law CodeBack. -/
import Derived.Test.YtiafppmpjmpdmaaDoorCU
namespace Go.Proofs.YtiafppmpjmpdmaaDoor
open Go.RowKit Go.Shelf

/-- Cells of a block that can be read. -/
def Ck (g : Nat) (cs : List Value) (w : World) : Prop := g < w.heap.size ∧ ∀ k v, cs[k]? = some v → w.cell? ⟨g, k, none⟩ = some v
theorem Ck.later {g : Nat} {cs : List Value} {w w' : World} (h : Ck g cs w) (hb : Below w.heap.size w w') : Ck g cs w' := ⟨Nat.lt_of_lt_of_le h.1 hb.size, fun k v hv => (hb.cell (p := ⟨g, k, none⟩) h.1).trans (h.2 k v hv)⟩
theorem Ck.c {g : Nat} {cs : List Value} {w : World} (h : Ck g cs w) (k : Nat) {v : Value} (hv : cs[k]? = some v) : w.cell? ⟨g, k, none⟩ = some v := h.2 k v hv
theorem two_read {w : World} {base : Nat} {v : Value} {k x y z u : Int} (h : OwnR encC w base v [(k, x, y, z, u), (k, x, y, z, u)]) : ∃ g cap, v = .slice (some ⟨g, 0, none⟩) 2 cap ∧ Ck g (c5 k x y z u ++ c5 k x y z u) w := by
  rcases h.read goodC with ⟨h0, _⟩ | ⟨g, cap, hv, _, _, hg, hc⟩
  · cases h0
  · refine ⟨g, cap, hv, hg, fun j q hq => ?_⟩
    have hj : j < 10 := (List.getElem?_eq_some_iff.1 hq).1
    have h1 := hc 0 (by simp)
    have h2 := hc 1 (by simp)
    rcases (show j = 0 ∨ j = 1 ∨ j = 2 ∨ j = 3 ∨ j = 4 ∨ j = 5 ∨ j = 6 ∨ j = 7 ∨ j = 8 ∨ j = 9 by omega) with e | e | e | e | e | e | e | e | e | e
    all_goals subst e
    · exact (h1 0 (by decide)).trans hq
    · exact (h1 1 (by decide)).trans hq
    · exact (h1 2 (by decide)).trans hq
    · exact (h1 3 (by decide)).trans hq
    · exact (h1 4 (by decide)).trans hq
    · exact (h2 0 (by decide)).trans hq
    · exact (h2 1 (by decide)).trans hq
    · exact (h2 2 (by decide)).trans hq
    · exact (h2 3 (by decide)).trans hq
    · exact (h2 4 (by decide)).trans hq
theorem refu_other {n m k x y z u : Int} (h : refuC n k x y z u = 0) (h0 : 0 ≤ m) (h1 : m ≤ 100000) : refuC m k x y z u = 0 := by
  obtain ⟨_, hk, hr, hu⟩ := refu_ok.1 h
  exact refu_ok.2 ⟨⟨h0, h1⟩, hk, hr, hu⟩
set_option linter.unusedVariables false in
def cbV (n k x y z u : Int) (A X g cap : Nat) (d : Nat) (v : Value) (_ : World) : Prop :=
  match d with
  | 70 => v = .int .i64 0
  | 71 => v = .bool true
  | 72 => v = .bool true
  | 73 => v = .int .i64 n
  | 74 => v = .int .i64 n
  | 75 => v = .bool true
  | 76 => v = .bool true
  | 77 => v = .bool true
  | 78 => v = .agg #[.int .i64 k, .int .i64 x, .int .i64 y, .int .i64 z, .int .i64 u]
  | 79 => v = .agg #[.int .i64 k, .int .i64 x, .int .i64 y, .int .i64 z, .int .i64 u]
  | 80 => v = .bool true
  | 81 => v = .bool true
  | 82 => v = .bool true
  | 83 => v = .int .i64 0
  | 84 => v = .bool true
  | 85 => v = .bool true
  | 86 => v = .bool true
  | 87 => v = .int .i64 0
  | 88 => v = .bool true
  | 89 => v = .bool true
  | 90 => v = .bool true
  | 91 => v = .int .i64 0
  | 92 => v = .bool true
  | 93 => v = .bool true
  | 94 => v = .bool true
  | 95 => v = .slice (some ⟨g, 0, none⟩) 2 cap
  | 96 => v = .int .i64 2
  | 97 => v = .bool true
  | 98 => v = .bool true
  | 99 => v = .bool true
  | 100 => v = .slice (some ⟨g, 0, none⟩) 2 cap
  | 101 => v = .pointer (some ⟨g, 0, none⟩)
  | 102 => v = .agg #[.int .i64 k, .int .i64 x, .int .i64 y, .int .i64 z, .int .i64 u]
  | 103 => v = .agg #[.int .i64 k, .int .i64 x, .int .i64 y, .int .i64 z, .int .i64 u]
  | 104 => v = .bool true
  | 105 => v = .bool true
  | 106 => v = .bool true
  | 107 => v = .slice (some ⟨g, 0, none⟩) 2 cap
  | 108 => v = .pointer (some ⟨g, 5, none⟩)
  | 109 => v = .agg #[.int .i64 k, .int .i64 x, .int .i64 y, .int .i64 z, .int .i64 u]
  | 110 => v = .agg #[.int .i64 k, .int .i64 x, .int .i64 y, .int .i64 z, .int .i64 u]
  | 111 => v = .bool true
  | 112 => v = .bool true
  | 4 => v = .bool true
  | _ => True
set_option linter.unusedVariables false in
theorem cbV_mono (n k x y z u : Int) (A X g cap : Nat) (d : Nat) (v : Value) (w w' : World) (h : cbV n k x y z u A X g cap d v w) (_ : Below w.heap.size w w') : cbV n k x y z u A X g cap d v w' := h
set_option maxHeartbeats 6400000 in
set_option maxRecDepth 100000 in
theorem codeBack_any (k x y z u n : Int) (w : World) (hT : Tall w) : Calls Tryd.prog 4 #[cm k x y z u, .int .i64 n] w fun e w' => e = .returned (.bool true) ∧ Below w.heap.size w w' := by
  have hg0 : refuC 7 2 1 (-2) 3 0 = 0 := by decide
  have HPg : Hid (∀ W, Tabs W → Calls Tryd.prog 8 #[.int .i64 7, cm 2 1 (-2) 3 0] W fun e w' => e = .returned (.tuple #[sA (lineL 7 2 1 (-2) 3 0), .int .i64 0]) ∧ Below W.heap.size W w') := fun W h => by
    have := print_any 7 2 1 (-2) 3 0 W h
    rw [prL_ok hg0, hg0] at this
    exact this
  have HQg : Hid (∀ W, Tall W → Calls Tryd.prog 9 #[sA (lineL 7 2 1 (-2) 3 0)] W fun e w' => e = .returned (pv 7 2 1 (-2) 3 0 0) ∧ Below W.heap.size W w') := parse_line (k := 2) hg0
  have HA0 : Hid (Bk w.heap.size (c5 k x y z u) (w.alloc (o5 k x y z u))) := Bk.new w (c5 k x y z u) 23 _ rfl
  have HB0 : Hid (Below w.heap.size w (w.alloc (o5 k x y z u))) := (Below.refl _ _).alloc (Nat.le_refl _) _
  have HT : Hid (Tall w) := hT
  have HPn : Hid (∀ W, Tabs W → Calls Tryd.prog 8 #[.int .i64 n, cm k x y z u] W fun e w' => e = .returned (.tuple #[sA (prL n k x y z u), .int .i64 (refuC n k x y z u)]) ∧ Below W.heap.size W w') := fun W h => print_any n k x y z u W h
  generalize lineL 7 2 1 (-2) 3 0 = Lg at *
  clear hg0 hT
  go_enter Tryd.func4, Tryd.ntmps4
  go_wp2_with fail
  generalize w.alloc (o5 k x y z u) = w0 at *
  obtain ⟨A, hA⟩ : ∃ A, A = w.heap.size := ⟨_, rfl⟩
  have HA : Hid (Bk A (c5 k x y z u) w0) := by show Bk _ _ _; rw [hA]; exact HA0.out
  simp only [← hA]
  have hwA : w.heap.size ≤ A := by omega
  clear hA HA0
  refine (HPg.out _ (HT.out.later HB0.out).tabs).mono ?_
  rintro e w1 ⟨rfl, hb⟩
  have HB1 : Hid (Below w.heap.size w w1) := HB0.out.trans (hb.mono HB0.out.size)
  have HA1 : Hid (Bk A (c5 k x y z u) w1) := HA.out.later hb
  clear hb HB0 HA HPg
  go_wp2_with fail
  refine (HQg.out _ (HT.out.later HB1.out)).mono ?_
  rintro e w2 ⟨rfl, hb⟩
  have HB2 : Hid (Below w.heap.size w w2) := HB1.out.trans (hb.mono HB1.out.size)
  have HA2 : Hid (Bk A (c5 k x y z u) w2) := HA1.out.later hb
  have HX3 : Hid (Bk w2.heap.size (c5 2 1 (-2) 3 0) (w2.alloc (o5 2 1 (-2) 3 0))) := Bk.new w2 (c5 2 1 (-2) 3 0) 23 _ rfl
  have HB3 : Hid (Below w.heap.size w (w2.alloc (o5 2 1 (-2) 3 0))) := HB2.out.alloc HB2.out.size _
  have HA3 : Hid (Bk A (c5 k x y z u) (w2.alloc (o5 2 1 (-2) 3 0))) := HA2.out.later ((Below.refl _ _).alloc (Nat.le_refl _) _)
  have hAX : A < w2.heap.size := HA2.out.1
  have hwX : w.heap.size ≤ w2.heap.size := HB2.out.size
  clear hb HB1 HA1 HQg HB2 HA2
  have a0 := HA3.out.c 0 rfl
  have a1 := HA3.out.c 1 rfl
  have a2 := HA3.out.c 2 rfl
  have a3 := HA3.out.c 3 rfl
  have a4 := HA3.out.c 4 rfl
  go_wp2_with fail
  clear a0 a1 a2 a3 a4
  generalize w2.alloc (o5 2 1 (-2) 3 0) = w3 at *
  obtain ⟨X, hX⟩ : ∃ X, X = w2.heap.size := ⟨_, rfl⟩
  rw [← hX] at HX3
  simp only [← hX]
  have hne : A ≠ X := by omega
  have hwX2 : w.heap.size ≤ X := by omega
  clear hX hAX hwX
  by_cases hr : refuC n k x y z u = 0
  · obtain ⟨_, k1, k8⟩ := refu_fit hr
    obtain ⟨m, rfl⟩ := Int.eq_ofNat_of_zero_le (show 0 ≤ k by omega)
    have HPm : Hid (∀ W, Tabs W → Calls Tryd.prog 8 #[.int .i64 n, cm m x y z u] W fun e w' => e = .returned (.tuple #[sA (lineL n m x y z u), .int .i64 0]) ∧ Below W.heap.size W w') := fun W h => by
      have := HPn.out W h
      rw [prL_ok hr, hr, show (m : Int).toNat = m by omega] at this
      exact this
    have HQm : Hid (∀ W, Tall W → Calls Tryd.prog 9 #[sA (lineL n m x y z u)] W fun e w' => e = .returned (pv n m x y z u 0) ∧ Below W.heap.size W w') := parse_line hr
    have r1 : refuC 1 m x y z u = 0 := refu_other hr (by decide) (by decide)
    have r2 : refuC 2 m x y z u = 0 := refu_other hr (by decide) (by decide)
    have HPg : Hid (∀ S W, Bk S (c5 m x y z u ++ c5 m x y z u) W → Tall W → Calls Tryd.prog 13 #[.slice (some ⟨S, 0, none⟩) 2 2] W fun e w' => e = .returned (.tuple #[sA (twoL m x y z u), .int .i64 0]) ∧ Below W.heap.size W w') := fun S W h hW => program_two S m x y z u W h r1 r2 hW
    have HRd : Hid (∀ W, Tall W → Calls Tryd.prog 14 #[sA (twoL m x y z u)] W fun e w' => ∃ v, e = .returned (.tuple #[v, .int .i64 0, .int .i64 0]) ∧ OwnR encC w' W.heap.size v [((m : Int), x, y, z, u), ((m : Int), x, y, z, u)] ∧ Below W.heap.size W w') := fun W hW => read_two m x y z u W r1 r2 hW
    generalize lineL n m x y z u = Ln at *
    generalize twoL m x y z u = Tx at *
    obtain ⟨k, hk⟩ : ∃ k : Int, k = (m : Int) := ⟨_, rfl⟩
    rw [← hk] at HPm HQm HPg HRd HA3
    simp only [← hk]
    clear r1 r2 k1 k8 HPn hr hk
    refine (HPm.out _ (HT.out.later HB3.out).tabs).mono ?_
    rintro e w4 ⟨rfl, hb⟩
    have HB4 : Hid (Below w.heap.size w w4) := HB3.out.trans (hb.mono HB3.out.size)
    have HA4 : Hid (Bk A (c5 k x y z u) w4) := HA3.out.later hb
    have HX4 : Hid (Bk X (c5 2 1 (-2) 3 0) w4) := HX3.out.later hb
    clear hb HB3 HA3 HX3 HPm
    go_wp2_with fail
    refine (HQm.out _ (HT.out.later HB4.out)).mono ?_
    rintro e w5 ⟨rfl, hb⟩
    have HB5 : Hid (Below w.heap.size w w5) := HB4.out.trans (hb.mono HB4.out.size)
    have HA5 : Hid (Bk A (c5 k x y z u) w5) := HA4.out.later hb
    have HX5 : Hid (Bk X (c5 2 1 (-2) 3 0) w5) := HX4.out.later hb
    clear hb HB4 HA4 HX4 HQm
    have HB6 : Hid (Below w.heap.size w (((((w5.setCell ⟨X, 0, none⟩ (.int .i64 k)).setCell ⟨X, 1, none⟩ (.int .i64 x)).setCell ⟨X, 2, none⟩ (.int .i64 y)).setCell ⟨X, 3, none⟩ (.int .i64 z)).setCell ⟨X, 4, none⟩ (.int .i64 u))) := ((((HB5.out.setCell hwX2 _).setCell hwX2 _).setCell hwX2 _).setCell hwX2 _).setCell hwX2 _
    have HX6 : Hid (Bk X (c5 k x y z u) (((((w5.setCell ⟨X, 0, none⟩ (.int .i64 k)).setCell ⟨X, 1, none⟩ (.int .i64 x)).setCell ⟨X, 2, none⟩ (.int .i64 y)).setCell ⟨X, 3, none⟩ (.int .i64 z)).setCell ⟨X, 4, none⟩ (.int .i64 u))) := ((((HX5.out.put 0 _).put 1 _).put 2 _).put 3 _).put 4 _
    have HA6 : Hid (Bk A (c5 k x y z u) (((((w5.setCell ⟨X, 0, none⟩ (.int .i64 k)).setCell ⟨X, 1, none⟩ (.int .i64 x)).setCell ⟨X, 2, none⟩ (.int .i64 y)).setCell ⟨X, 3, none⟩ (.int .i64 z)).setCell ⟨X, 4, none⟩ (.int .i64 u))) := ((((HA5.out.other hne 0 _).other hne 1 _).other hne 2 _).other hne 3 _).other hne 4 _
    have HBn : Hid (Below ((((((w5.setCell ⟨X, 0, none⟩ (.int .i64 k)).setCell ⟨X, 1, none⟩ (.int .i64 x)).setCell ⟨X, 2, none⟩ (.int .i64 y)).setCell ⟨X, 3, none⟩ (.int .i64 z)).setCell ⟨X, 4, none⟩ (.int .i64 u))).heap.size (((((w5.setCell ⟨X, 0, none⟩ (.int .i64 k)).setCell ⟨X, 1, none⟩ (.int .i64 x)).setCell ⟨X, 2, none⟩ (.int .i64 y)).setCell ⟨X, 3, none⟩ (.int .i64 z)).setCell ⟨X, 4, none⟩ (.int .i64 u)) ((((((w5.setCell ⟨X, 0, none⟩ (.int .i64 k)).setCell ⟨X, 1, none⟩ (.int .i64 x)).setCell ⟨X, 2, none⟩ (.int .i64 y)).setCell ⟨X, 3, none⟩ (.int .i64 z)).setCell ⟨X, 4, none⟩ (.int .i64 u)).alloc (.cells #[.int .i64 k, .int .i64 x, .int .i64 y, .int .i64 z, .int .i64 u, .int .i64 k, .int .i64 x, .int .i64 y, .int .i64 z, .int .i64 u] 23))) := (Below.refl _ _).alloc (Nat.le_refl _) _
    have HB7 : Hid (Below w.heap.size w ((((((w5.setCell ⟨X, 0, none⟩ (.int .i64 k)).setCell ⟨X, 1, none⟩ (.int .i64 x)).setCell ⟨X, 2, none⟩ (.int .i64 y)).setCell ⟨X, 3, none⟩ (.int .i64 z)).setCell ⟨X, 4, none⟩ (.int .i64 u)).alloc (.cells #[.int .i64 k, .int .i64 x, .int .i64 y, .int .i64 z, .int .i64 u, .int .i64 k, .int .i64 x, .int .i64 y, .int .i64 z, .int .i64 u] 23))) := HB6.out.trans (HBn.out.mono HB6.out.size)
    have HA7 : Hid (Bk A (c5 k x y z u) ((((((w5.setCell ⟨X, 0, none⟩ (.int .i64 k)).setCell ⟨X, 1, none⟩ (.int .i64 x)).setCell ⟨X, 2, none⟩ (.int .i64 y)).setCell ⟨X, 3, none⟩ (.int .i64 z)).setCell ⟨X, 4, none⟩ (.int .i64 u)).alloc (.cells #[.int .i64 k, .int .i64 x, .int .i64 y, .int .i64 z, .int .i64 u, .int .i64 k, .int .i64 x, .int .i64 y, .int .i64 z, .int .i64 u] 23))) := HA6.out.later HBn.out
    have HX7 : Hid (Bk X (c5 k x y z u) ((((((w5.setCell ⟨X, 0, none⟩ (.int .i64 k)).setCell ⟨X, 1, none⟩ (.int .i64 x)).setCell ⟨X, 2, none⟩ (.int .i64 y)).setCell ⟨X, 3, none⟩ (.int .i64 z)).setCell ⟨X, 4, none⟩ (.int .i64 u)).alloc (.cells #[.int .i64 k, .int .i64 x, .int .i64 y, .int .i64 z, .int .i64 u, .int .i64 k, .int .i64 x, .int .i64 y, .int .i64 z, .int .i64 u] 23))) := HX6.out.later HBn.out
    have HS7 : Hid (Bk w5.heap.size (c5 k x y z u ++ c5 k x y z u) ((((((w5.setCell ⟨X, 0, none⟩ (.int .i64 k)).setCell ⟨X, 1, none⟩ (.int .i64 x)).setCell ⟨X, 2, none⟩ (.int .i64 y)).setCell ⟨X, 3, none⟩ (.int .i64 z)).setCell ⟨X, 4, none⟩ (.int .i64 u)).alloc (.cells #[.int .i64 k, .int .i64 x, .int .i64 y, .int .i64 z, .int .i64 u, .int .i64 k, .int .i64 x, .int .i64 y, .int .i64 z, .int .i64 u] 23))) := Bk.new _ (c5 k x y z u ++ c5 k x y z u) 23 _ (by simp)
    clear HB6 HX6 HA6 HBn
    have a0 := HA5.out.c 0 rfl
    have b0 := HX5.out.c 0 rfl
    have f0 := HX5.out.f 0 rfl
    have a1 := HA5.out.c 1 rfl
    have b1 := HX5.out.c 1 rfl
    have f1 := HX5.out.f 1 rfl
    have a2 := HA5.out.c 2 rfl
    have b2 := HX5.out.c 2 rfl
    have f2 := HX5.out.f 2 rfl
    have a3 := HA5.out.c 3 rfl
    have b3 := HX5.out.c 3 rfl
    have f3 := HX5.out.f 3 rfl
    have a4 := HA5.out.c 4 rfl
    have b4 := HX5.out.c 4 rfl
    have f4 := HX5.out.f 4 rfl
    go_wp2_with fail
    clear a0 b0 f0 a1 b1 f1 a2 b2 f2 a3 b3 f3 a4 b4 f4
    generalize (((((w5.setCell ⟨X, 0, none⟩ (.int .i64 k)).setCell ⟨X, 1, none⟩ (.int .i64 x)).setCell ⟨X, 2, none⟩ (.int .i64 y)).setCell ⟨X, 3, none⟩ (.int .i64 z)).setCell ⟨X, 4, none⟩ (.int .i64 u)).alloc (.cells #[.int .i64 k, .int .i64 x, .int .i64 y, .int .i64 z, .int .i64 u, .int .i64 k, .int .i64 x, .int .i64 y, .int .i64 z, .int .i64 u] 23) = w7 at *
    obtain ⟨S, hS⟩ : ∃ S, S = w5.heap.size := ⟨_, rfl⟩
    rw [← hS] at HS7
    simp only [← hS]
    clear hS HB5 HA5 HX5
    refine (HPg.out S _ HS7.out (HT.out.later HB7.out)).mono ?_
    rintro e w8 ⟨rfl, hb⟩
    have HB8 : Hid (Below w.heap.size w w8) := HB7.out.trans (hb.mono HB7.out.size)
    have HA8 : Hid (Bk A (c5 k x y z u) w8) := HA7.out.later hb
    have HX8 : Hid (Bk X (c5 k x y z u) w8) := HX7.out.later hb
    clear hb HB7 HA7 HX7 HS7 HPg
    go_wp2_with fail
    refine (HRd.out _ (HT.out.later HB8.out)).mono ?_
    rintro e w9 ⟨v9, rfl, ho, hb⟩
    obtain ⟨g, cap, rfl, hck⟩ := two_read ho
    have HB9 : Hid (Below w.heap.size w w9) := HB8.out.trans (hb.mono HB8.out.size)
    have HAz : Hid (Bk A (c5 k x y z u) w9) := HA8.out.later hb
    have HXz : Hid (Bk X (c5 k x y z u) w9) := HX8.out.later hb
    have HGz : Hid (Ck g (c5 k x y z u ++ c5 k x y z u) w9) := hck
    clear hb ho hck HB8 HA8 HX8 HRd
    go_wp2_with fail
    refine region_inv [false, false, false, false, true, false, false, false, false, false, false, false, false, false, false, false, false, false, false, false, false, false, false, false, false, false, false, false, false, false, false, false, false, false, false, false, false, false, false, false, false, false, false, false, false, false, false, false, false, false, false, false, false, false, false, false, false, false, false, false, false, false, false, false, false, false, false, false, false, false, true, true, true, true, true, true, true, true, true, true, true, true, true, true, true, true, true, true, true, true, true, true, true, true, true, true, true, true, true, true, true, true, true, true, true, true, true, true, true, true, true, true, true]
      [(70, [], none), (71, [70], none), (72, [71], none), (73, [72], some (72, true)), (74, [72], some (72, true)), (75, [72, 73, 74], some (72, true)), (76, [72, 75], none), (77, [76], none), (78, [77], some (77, true)), (79, [77], some (77, true)), (80, [77, 78, 79], some (77, true)), (81, [77, 80], none), (82, [81], none), (83, [82], some (82, true)), (84, [82, 83], some (82, true)), (85, [82, 84], none), (86, [85], none), (87, [86], some (86, true)), (88, [86, 87], some (86, true)), (89, [86, 88], none), (90, [89], none), (91, [90], some (90, true)), (92, [90, 91], some (90, true)), (93, [90, 92], none), (94, [93], none), (95, [94], some (94, true)), (96, [94, 95], some (94, true)), (97, [94, 96], some (94, true)), (98, [94, 97], none), (99, [98], none), (100, [99], some (99, true)), (101, [99, 100], some (99, true)), (102, [99, 101], some (99, true)), (103, [99], some (99, true)), (104, [99, 102, 103], some (99, true)), (105, [99, 104], none), (106, [105], none), (107, [106], some (106, true)), (108, [106, 107], some (106, true)), (109, [106, 108], some (106, true)), (110, [106], some (106, true)), (111, [106, 109, 110], some (106, true)), (112, [106, 111], none), (4, [112], none)]
      (cbV n k x y z u A X g cap) (by kernel_rfl) (by kernel_rfl) (cbV_mono n k x y z u A X g cap) ?_ ?_
    · refine ⟨?_, ?_, ?_, ?_, ?_, ?_, ?_, ?_, ?_, ?_, ?_, ?_, ?_, ?_, ?_, ?_, ?_, ?_, ?_, ?_, ?_, ?_, ?_, ?_, ?_, ?_, ?_, ?_, ?_, ?_, ?_, ?_, ?_, ?_, ?_, ?_, ?_, ?_, ?_, ?_, ?_, ?_, ?_, ?_, trivial⟩
      · intro f w1 hb _ K hK
        simp only [over, overL, Nat.reduceAdd]
        go_simp
        exact hK _ _ ⟨_, rfl, by simp only [over, overL, Nat.reduceAdd]; rfl, Below.refl _ _⟩
      · intro f w1 hb ⟨h70, _⟩ K hK
        replace h70 : f 70 = _ := h70
        simp only [over, overL, Nat.reduceAdd, h70]
        go_simp
        exact hK _ _ ⟨_, rfl, by simp only [over, overL, Nat.reduceAdd, h70]; rfl, Below.refl _ _⟩
      · intro f w1 hb ⟨h71, _⟩ K hK
        replace h71 : f 71 = _ := h71
        simp only [over, overL, Nat.reduceAdd, h71]
        go_simp
        exact hK _ _ ⟨_, rfl, by simp only [over, overL, Nat.reduceAdd, h71]; rfl, Below.refl _ _⟩
      · intro f w1 hb ⟨h72, _⟩
        replace h72 : f 72 = _ := h72
        refine ⟨fun _ => ?_, fun hg => absurd h72 hg⟩
        intro K hK
        simp only [over, overL, Nat.reduceAdd, h72]
        go_simp
        exact hK _ _ ⟨_, rfl, by simp only [over, overL, Nat.reduceAdd, h72]; rfl, Below.refl _ _⟩
      · intro f w1 hb ⟨h72, _⟩
        replace h72 : f 72 = _ := h72
        refine ⟨fun _ => ?_, fun hg => absurd h72 hg⟩
        intro K hK
        simp only [over, overL, Nat.reduceAdd, h72]
        go_simp
        exact hK _ _ ⟨_, rfl, by simp only [over, overL, Nat.reduceAdd, h72]; rfl, Below.refl _ _⟩
      · intro f w1 hb ⟨h72, h73, h74, _⟩
        replace h72 : f 72 = _ := h72
        replace h73 : f 73 = _ := h73
        replace h74 : f 74 = _ := h74
        refine ⟨fun _ => ?_, fun hg => absurd h72 hg⟩
        intro K hK
        simp only [over, overL, Nat.reduceAdd, h72, h73, h74]
        go_simp
        exact hK _ _ ⟨_, rfl, by simp only [over, overL, Nat.reduceAdd, h72, h73, h74]; rfl, Below.refl _ _⟩
      · intro f w1 hb ⟨h72, h75, _⟩ K hK
        replace h72 : f 72 = _ := h72
        replace h75 : f 75 = _ := h75
        simp only [over, overL, Nat.reduceAdd, h72, h75]
        go_simp
        exact hK _ _ ⟨_, rfl, by simp only [over, overL, Nat.reduceAdd, h72, h75]; rfl, Below.refl _ _⟩
      · intro f w1 hb ⟨h76, _⟩ K hK
        replace h76 : f 76 = _ := h76
        simp only [over, overL, Nat.reduceAdd, h76]
        go_simp
        exact hK _ _ ⟨_, rfl, by simp only [over, overL, Nat.reduceAdd, h76]; rfl, Below.refl _ _⟩
      · intro f w1 hb ⟨h77, _⟩
        replace h77 : f 77 = _ := h77
        refine ⟨fun _ => ?_, fun hg => absurd h77 hg⟩
        intro K hK
        have q0 := (HXz.out.later hb).c 0 rfl
        have q1 := (HXz.out.later hb).c 1 rfl
        have q2 := (HXz.out.later hb).c 2 rfl
        have q3 := (HXz.out.later hb).c 3 rfl
        have q4 := (HXz.out.later hb).c 4 rfl
        simp only [over, overL, Nat.reduceAdd, h77]
        go_simp
        exact hK _ _ ⟨_, rfl, by simp only [over, overL, Nat.reduceAdd, h77]; rfl, Below.refl _ _⟩
      · intro f w1 hb ⟨h77, _⟩
        replace h77 : f 77 = _ := h77
        refine ⟨fun _ => ?_, fun hg => absurd h77 hg⟩
        intro K hK
        have q0 := (HAz.out.later hb).c 0 rfl
        have q1 := (HAz.out.later hb).c 1 rfl
        have q2 := (HAz.out.later hb).c 2 rfl
        have q3 := (HAz.out.later hb).c 3 rfl
        have q4 := (HAz.out.later hb).c 4 rfl
        simp only [over, overL, Nat.reduceAdd, h77]
        go_simp
        exact hK _ _ ⟨_, rfl, by simp only [over, overL, Nat.reduceAdd, h77]; rfl, Below.refl _ _⟩
      · intro f w1 hb ⟨h77, h78, h79, _⟩
        replace h77 : f 77 = _ := h77
        replace h78 : f 78 = _ := h78
        replace h79 : f 79 = _ := h79
        refine ⟨fun _ => ?_, fun hg => absurd h77 hg⟩
        intro K hK
        simp only [over, overL, Nat.reduceAdd, h77, h78, h79]
        go_simp
        exact hK _ _ ⟨_, rfl, by simp only [over, overL, Nat.reduceAdd, h77, h78, h79]; rfl, Below.refl _ _⟩
      · intro f w1 hb ⟨h77, h80, _⟩ K hK
        replace h77 : f 77 = _ := h77
        replace h80 : f 80 = _ := h80
        simp only [over, overL, Nat.reduceAdd, h77, h80]
        go_simp
        exact hK _ _ ⟨_, rfl, by simp only [over, overL, Nat.reduceAdd, h77, h80]; rfl, Below.refl _ _⟩
      · intro f w1 hb ⟨h81, _⟩ K hK
        replace h81 : f 81 = _ := h81
        simp only [over, overL, Nat.reduceAdd, h81]
        go_simp
        exact hK _ _ ⟨_, rfl, by simp only [over, overL, Nat.reduceAdd, h81]; rfl, Below.refl _ _⟩
      · intro f w1 hb ⟨h82, _⟩
        replace h82 : f 82 = _ := h82
        refine ⟨fun _ => ?_, fun hg => absurd h82 hg⟩
        intro K hK
        simp only [over, overL, Nat.reduceAdd, h82]
        go_simp
        exact hK _ _ ⟨_, rfl, by simp only [over, overL, Nat.reduceAdd, h82]; rfl, Below.refl _ _⟩
      · intro f w1 hb ⟨h82, h83, _⟩
        replace h82 : f 82 = _ := h82
        replace h83 : f 83 = _ := h83
        refine ⟨fun _ => ?_, fun hg => absurd h82 hg⟩
        intro K hK
        simp only [over, overL, Nat.reduceAdd, h82, h83]
        go_simp
        exact hK _ _ ⟨_, rfl, by simp only [over, overL, Nat.reduceAdd, h82, h83]; rfl, Below.refl _ _⟩
      · intro f w1 hb ⟨h82, h84, _⟩ K hK
        replace h82 : f 82 = _ := h82
        replace h84 : f 84 = _ := h84
        simp only [over, overL, Nat.reduceAdd, h82, h84]
        go_simp
        exact hK _ _ ⟨_, rfl, by simp only [over, overL, Nat.reduceAdd, h82, h84]; rfl, Below.refl _ _⟩
      · intro f w1 hb ⟨h85, _⟩ K hK
        replace h85 : f 85 = _ := h85
        simp only [over, overL, Nat.reduceAdd, h85]
        go_simp
        exact hK _ _ ⟨_, rfl, by simp only [over, overL, Nat.reduceAdd, h85]; rfl, Below.refl _ _⟩
      · intro f w1 hb ⟨h86, _⟩
        replace h86 : f 86 = _ := h86
        refine ⟨fun _ => ?_, fun hg => absurd h86 hg⟩
        intro K hK
        simp only [over, overL, Nat.reduceAdd, h86]
        go_simp
        exact hK _ _ ⟨_, rfl, by simp only [over, overL, Nat.reduceAdd, h86]; rfl, Below.refl _ _⟩
      · intro f w1 hb ⟨h86, h87, _⟩
        replace h86 : f 86 = _ := h86
        replace h87 : f 87 = _ := h87
        refine ⟨fun _ => ?_, fun hg => absurd h86 hg⟩
        intro K hK
        simp only [over, overL, Nat.reduceAdd, h86, h87]
        go_simp
        exact hK _ _ ⟨_, rfl, by simp only [over, overL, Nat.reduceAdd, h86, h87]; rfl, Below.refl _ _⟩
      · intro f w1 hb ⟨h86, h88, _⟩ K hK
        replace h86 : f 86 = _ := h86
        replace h88 : f 88 = _ := h88
        simp only [over, overL, Nat.reduceAdd, h86, h88]
        go_simp
        exact hK _ _ ⟨_, rfl, by simp only [over, overL, Nat.reduceAdd, h86, h88]; rfl, Below.refl _ _⟩
      · intro f w1 hb ⟨h89, _⟩ K hK
        replace h89 : f 89 = _ := h89
        simp only [over, overL, Nat.reduceAdd, h89]
        go_simp
        exact hK _ _ ⟨_, rfl, by simp only [over, overL, Nat.reduceAdd, h89]; rfl, Below.refl _ _⟩
      · intro f w1 hb ⟨h90, _⟩
        replace h90 : f 90 = _ := h90
        refine ⟨fun _ => ?_, fun hg => absurd h90 hg⟩
        intro K hK
        simp only [over, overL, Nat.reduceAdd, h90]
        go_simp
        exact hK _ _ ⟨_, rfl, by simp only [over, overL, Nat.reduceAdd, h90]; rfl, Below.refl _ _⟩
      · intro f w1 hb ⟨h90, h91, _⟩
        replace h90 : f 90 = _ := h90
        replace h91 : f 91 = _ := h91
        refine ⟨fun _ => ?_, fun hg => absurd h90 hg⟩
        intro K hK
        simp only [over, overL, Nat.reduceAdd, h90, h91]
        go_simp
        exact hK _ _ ⟨_, rfl, by simp only [over, overL, Nat.reduceAdd, h90, h91]; rfl, Below.refl _ _⟩
      · intro f w1 hb ⟨h90, h92, _⟩ K hK
        replace h90 : f 90 = _ := h90
        replace h92 : f 92 = _ := h92
        simp only [over, overL, Nat.reduceAdd, h90, h92]
        go_simp
        exact hK _ _ ⟨_, rfl, by simp only [over, overL, Nat.reduceAdd, h90, h92]; rfl, Below.refl _ _⟩
      · intro f w1 hb ⟨h93, _⟩ K hK
        replace h93 : f 93 = _ := h93
        simp only [over, overL, Nat.reduceAdd, h93]
        go_simp
        exact hK _ _ ⟨_, rfl, by simp only [over, overL, Nat.reduceAdd, h93]; rfl, Below.refl _ _⟩
      · intro f w1 hb ⟨h94, _⟩
        replace h94 : f 94 = _ := h94
        refine ⟨fun _ => ?_, fun hg => absurd h94 hg⟩
        intro K hK
        simp only [over, overL, Nat.reduceAdd, h94]
        go_simp
        exact hK _ _ ⟨_, rfl, by simp only [over, overL, Nat.reduceAdd, h94]; rfl, Below.refl _ _⟩
      · intro f w1 hb ⟨h94, h95, _⟩
        replace h94 : f 94 = _ := h94
        replace h95 : f 95 = _ := h95
        refine ⟨fun _ => ?_, fun hg => absurd h94 hg⟩
        intro K hK
        simp only [over, overL, Nat.reduceAdd, h94, h95]
        go_simp
        exact hK _ _ ⟨_, rfl, by simp only [over, overL, Nat.reduceAdd, h94, h95]; rfl, Below.refl _ _⟩
      · intro f w1 hb ⟨h94, h96, _⟩
        replace h94 : f 94 = _ := h94
        replace h96 : f 96 = _ := h96
        refine ⟨fun _ => ?_, fun hg => absurd h94 hg⟩
        intro K hK
        simp only [over, overL, Nat.reduceAdd, h94, h96]
        go_simp
        exact hK _ _ ⟨_, rfl, by simp only [over, overL, Nat.reduceAdd, h94, h96]; rfl, Below.refl _ _⟩
      · intro f w1 hb ⟨h94, h97, _⟩ K hK
        replace h94 : f 94 = _ := h94
        replace h97 : f 97 = _ := h97
        simp only [over, overL, Nat.reduceAdd, h94, h97]
        go_simp
        exact hK _ _ ⟨_, rfl, by simp only [over, overL, Nat.reduceAdd, h94, h97]; rfl, Below.refl _ _⟩
      · intro f w1 hb ⟨h98, _⟩ K hK
        replace h98 : f 98 = _ := h98
        simp only [over, overL, Nat.reduceAdd, h98]
        go_simp
        exact hK _ _ ⟨_, rfl, by simp only [over, overL, Nat.reduceAdd, h98]; rfl, Below.refl _ _⟩
      · intro f w1 hb ⟨h99, _⟩
        replace h99 : f 99 = _ := h99
        refine ⟨fun _ => ?_, fun hg => absurd h99 hg⟩
        intro K hK
        simp only [over, overL, Nat.reduceAdd, h99]
        go_simp
        exact hK _ _ ⟨_, rfl, by simp only [over, overL, Nat.reduceAdd, h99]; rfl, Below.refl _ _⟩
      · intro f w1 hb ⟨h99, h100, _⟩
        replace h99 : f 99 = _ := h99
        replace h100 : f 100 = _ := h100
        refine ⟨fun _ => ?_, fun hg => absurd h99 hg⟩
        intro K hK
        simp only [over, overL, Nat.reduceAdd, h99, h100]
        go_simp
        exact hK _ _ ⟨_, rfl, by simp only [over, overL, Nat.reduceAdd, h99, h100]; rfl, Below.refl _ _⟩
      · intro f w1 hb ⟨h99, h101, _⟩
        replace h99 : f 99 = _ := h99
        replace h101 : f 101 = _ := h101
        refine ⟨fun _ => ?_, fun hg => absurd h99 hg⟩
        intro K hK
        have q0 := (HGz.out.later hb).c 0 rfl
        have q1 := (HGz.out.later hb).c 1 rfl
        have q2 := (HGz.out.later hb).c 2 rfl
        have q3 := (HGz.out.later hb).c 3 rfl
        have q4 := (HGz.out.later hb).c 4 rfl
        simp only [over, overL, Nat.reduceAdd, h99, h101]
        go_simp
        exact hK _ _ ⟨_, rfl, by simp only [over, overL, Nat.reduceAdd, h99, h101]; rfl, Below.refl _ _⟩
      · intro f w1 hb ⟨h99, _⟩
        replace h99 : f 99 = _ := h99
        refine ⟨fun _ => ?_, fun hg => absurd h99 hg⟩
        intro K hK
        have q0 := (HAz.out.later hb).c 0 rfl
        have q1 := (HAz.out.later hb).c 1 rfl
        have q2 := (HAz.out.later hb).c 2 rfl
        have q3 := (HAz.out.later hb).c 3 rfl
        have q4 := (HAz.out.later hb).c 4 rfl
        simp only [over, overL, Nat.reduceAdd, h99]
        go_simp
        exact hK _ _ ⟨_, rfl, by simp only [over, overL, Nat.reduceAdd, h99]; rfl, Below.refl _ _⟩
      · intro f w1 hb ⟨h99, h102, h103, _⟩
        replace h99 : f 99 = _ := h99
        replace h102 : f 102 = _ := h102
        replace h103 : f 103 = _ := h103
        refine ⟨fun _ => ?_, fun hg => absurd h99 hg⟩
        intro K hK
        simp only [over, overL, Nat.reduceAdd, h99, h102, h103]
        go_simp
        exact hK _ _ ⟨_, rfl, by simp only [over, overL, Nat.reduceAdd, h99, h102, h103]; rfl, Below.refl _ _⟩
      · intro f w1 hb ⟨h99, h104, _⟩ K hK
        replace h99 : f 99 = _ := h99
        replace h104 : f 104 = _ := h104
        simp only [over, overL, Nat.reduceAdd, h99, h104]
        go_simp
        exact hK _ _ ⟨_, rfl, by simp only [over, overL, Nat.reduceAdd, h99, h104]; rfl, Below.refl _ _⟩
      · intro f w1 hb ⟨h105, _⟩ K hK
        replace h105 : f 105 = _ := h105
        simp only [over, overL, Nat.reduceAdd, h105]
        go_simp
        exact hK _ _ ⟨_, rfl, by simp only [over, overL, Nat.reduceAdd, h105]; rfl, Below.refl _ _⟩
      · intro f w1 hb ⟨h106, _⟩
        replace h106 : f 106 = _ := h106
        refine ⟨fun _ => ?_, fun hg => absurd h106 hg⟩
        intro K hK
        simp only [over, overL, Nat.reduceAdd, h106]
        go_simp
        exact hK _ _ ⟨_, rfl, by simp only [over, overL, Nat.reduceAdd, h106]; rfl, Below.refl _ _⟩
      · intro f w1 hb ⟨h106, h107, _⟩
        replace h106 : f 106 = _ := h106
        replace h107 : f 107 = _ := h107
        refine ⟨fun _ => ?_, fun hg => absurd h106 hg⟩
        intro K hK
        simp only [over, overL, Nat.reduceAdd, h106, h107]
        go_simp
        exact hK _ _ ⟨_, rfl, by simp only [over, overL, Nat.reduceAdd, h106, h107]; rfl, Below.refl _ _⟩
      · intro f w1 hb ⟨h106, h108, _⟩
        replace h106 : f 106 = _ := h106
        replace h108 : f 108 = _ := h108
        refine ⟨fun _ => ?_, fun hg => absurd h106 hg⟩
        intro K hK
        have q5 := (HGz.out.later hb).c 5 rfl
        have q6 := (HGz.out.later hb).c 6 rfl
        have q7 := (HGz.out.later hb).c 7 rfl
        have q8 := (HGz.out.later hb).c 8 rfl
        have q9 := (HGz.out.later hb).c 9 rfl
        simp only [over, overL, Nat.reduceAdd, h106, h108]
        go_simp
        exact hK _ _ ⟨_, rfl, by simp only [over, overL, Nat.reduceAdd, h106, h108]; rfl, Below.refl _ _⟩
      · intro f w1 hb ⟨h106, _⟩
        replace h106 : f 106 = _ := h106
        refine ⟨fun _ => ?_, fun hg => absurd h106 hg⟩
        intro K hK
        have q0 := (HAz.out.later hb).c 0 rfl
        have q1 := (HAz.out.later hb).c 1 rfl
        have q2 := (HAz.out.later hb).c 2 rfl
        have q3 := (HAz.out.later hb).c 3 rfl
        have q4 := (HAz.out.later hb).c 4 rfl
        simp only [over, overL, Nat.reduceAdd, h106]
        go_simp
        exact hK _ _ ⟨_, rfl, by simp only [over, overL, Nat.reduceAdd, h106]; rfl, Below.refl _ _⟩
      · intro f w1 hb ⟨h106, h109, h110, _⟩
        replace h106 : f 106 = _ := h106
        replace h109 : f 109 = _ := h109
        replace h110 : f 110 = _ := h110
        refine ⟨fun _ => ?_, fun hg => absurd h106 hg⟩
        intro K hK
        simp only [over, overL, Nat.reduceAdd, h106, h109, h110]
        go_simp
        exact hK _ _ ⟨_, rfl, by simp only [over, overL, Nat.reduceAdd, h106, h109, h110]; rfl, Below.refl _ _⟩
      · intro f w1 hb ⟨h106, h111, _⟩ K hK
        replace h106 : f 106 = _ := h106
        replace h111 : f 111 = _ := h111
        simp only [over, overL, Nat.reduceAdd, h106, h111]
        go_simp
        exact hK _ _ ⟨_, rfl, by simp only [over, overL, Nat.reduceAdd, h106, h111]; rfl, Below.refl _ _⟩
      · intro f w1 hb ⟨h112, _⟩ K hK
        replace h112 : f 112 = _ := h112
        simp only [over, overL, Nat.reduceAdd, h112]
        go_simp
        exact hK _ _ ⟨_, rfl, by simp only [over, overL, Nat.reduceAdd, h112]; rfl, Below.refl _ _⟩
    intro f w10 hb hv
    have h4 : f 4 = .bool true := hv.2.2.2.2.2.2.2.2.2.2.2.2.2.2.2.2.2.2.2.2.2.2.2.2.2.2.2.2.2.2.2.2.2.2.2.2.2.2.2.2.2.2.2.1
    have HBF : Hid (Below w.heap.size w w10) := HB9.out.trans (hb.mono HB9.out.size)
    simp only [over_eq, overL, h4, Nat.reduceAdd]
    clear hv h4 hb
    go_wp2
    go_ret
    exact ⟨rfl, HBF.out⟩
  · have HPe : Hid (∀ W, Tabs W → Calls Tryd.prog 8 #[.int .i64 n, cm k x y z u] W fun e w' => e = .returned (.tuple #[.string ⟨#[]⟩, .int .i64 (refuC n k x y z u)]) ∧ Below W.heap.size W w') := fun W h => by
      have := HPn.out W h
      rw [prL_no hr] at this
      exact this
    have q1 : (refuC n k x y z u == 0) = false := by simp [hr]
    have q2 : (refuC n k x y z u != 0) = true := by simp [hr]
    generalize refuC n k x y z u = e0 at *
    clear hr HPn
    refine (HPe.out _ (HT.out.later HB3.out).tabs).mono ?_
    rintro e w4 ⟨rfl, hb⟩
    have HB4 : Hid (Below w.heap.size w w4) := HB3.out.trans (hb.mono HB3.out.size)
    clear hb
    go_wp2
    go_ret
    exact ⟨rfl, HB4.out⟩
end Go.Proofs.YtiafppmpjmpdmaaDoor
