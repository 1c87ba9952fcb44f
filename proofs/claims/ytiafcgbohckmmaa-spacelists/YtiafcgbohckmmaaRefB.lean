/- The document's answers on boxes alone, walked. -/
import Derived.Test.YtiafcgbohckmmaaPf
namespace Go.Proofs.Ytiafcgbohckmmaa
open Go.RowKit

theorem within_any (n : Int) (w : World) : Calls Try.prog 51 #[.int .i64 n, .int .i64 (-10000000), .int .i64 10000000] w fun e w' => e = .returned (.bool (nr n)) ∧ w' = w := by
  by_cases h : -10000000 ≤ n
  · by_cases h2 : n ≤ 10000000
    · have d1 : decide (-10000000 ≤ n) = true := decide_eq_true h
      have d2 : decide (n ≤ 10000000) = true := decide_eq_true h2
      go_enter Try.func51, Try.ntmps51
      go_wp2
      go_ret
      exact ⟨ret_bool (nr_yes h h2).symm, rfl⟩
    · have d1 : decide (-10000000 ≤ n) = true := decide_eq_true h
      have d2 : decide (n ≤ 10000000) = false := decide_eq_false h2
      go_enter Try.func51, Try.ntmps51
      go_wp2
      go_ret
      exact ⟨ret_bool (nr_no (by omega)).symm, rfl⟩
  · have d1 : decide (-10000000 ≤ n) = false := decide_eq_false h
    go_enter Try.func51, Try.ntmps51
    go_wp2
    go_ret
    exact ⟨ret_bool (nr_no (by omega)).symm, rfl⟩
theorem within_r (n : Int) (r : Bool) (h : nr n = r) (w : World) : Calls Try.prog 51 #[.int .i64 n, .int .i64 (-10000000), .int .i64 10000000] w fun e w' => e = .returned (.bool r) ∧ w' = w := by
  rw [← h]; exact within_any n w
set_option maxHeartbeats 1600000 in
theorem pointMay_any (p : Pt) (w : World) : Calls Try.prog 34 #[pv p] w fun e w' => e = .returned (.bool (nearP p)) ∧ w' = w.alloc (po p) := by
  obtain ⟨x, y, z⟩ := p
  have HN : Hid (nearP ⟨x, y, z⟩ = (nr x && nr y && nr z)) := rfl
  cases hx : nr x with
  | false =>
    go_enter Try.func34, Try.ntmps34
    go_wp2_with fail
    refine (within_r x false hx _).mono ?_
    rintro e w1 ⟨rfl, rfl⟩
    go_wp2
    go_ret
    exact ⟨ret_bool (by rw [HN.out, hx]; rfl), rfl⟩
  | true =>
    cases hy : nr y with
    | false =>
      go_enter Try.func34, Try.ntmps34
      go_wp2_with fail
      refine (within_r x true hx _).mono ?_
      rintro e w1 ⟨rfl, rfl⟩
      go_wp2_with fail
      refine (within_r y false hy _).mono ?_
      rintro e w1 ⟨rfl, rfl⟩
      go_wp2
      go_ret
      exact ⟨ret_bool (by rw [HN.out, hx, hy]; rfl), rfl⟩
    | true =>
      go_enter Try.func34, Try.ntmps34
      go_wp2_with fail
      refine (within_r x true hx _).mono ?_
      rintro e w1 ⟨rfl, rfl⟩
      go_wp2_with fail
      refine (within_r y true hy _).mono ?_
      rintro e w1 ⟨rfl, rfl⟩
      go_wp2_with fail
      refine (within_any z _).mono ?_
      rintro e w1 ⟨rfl, rfl⟩
      go_wp2
      go_ret
      exact ⟨ret_bool (by rw [HN.out, hx, hy]; rfl), rfl⟩
theorem PointMay_any (p : Pt) (w : World) : Calls Try.prog 16 #[pv p] w fun e w' => e = .returned (.bool (nearP p)) ∧ Below w.heap.size w w' := by
  go_enter Try.func16, Try.ntmps16
  go_wp2_with (go_at_call 34; refine (pointMay_any p _).mono ?_; rintro e w1 ⟨rfl, rfl⟩)
  go_ret
  exact ⟨rfl, below_grow _ (Nat.le_refl _) (below_grow _ (Nat.le_refl _) (Below.refl _ _) _) _⟩
theorem pointMay_r (p : Pt) (r : Bool) (h : nearP p = r) (w : World) : Calls Try.prog 34 #[pv p] w fun e w' => e = .returned (.bool r) ∧ w' = w.alloc (po p) := by
  rw [← h]; exact pointMay_any p w
theorem nearB_and (a : Bx) : nearB a = (nearP a.lo && nearP a.hi) := rfl
set_option maxHeartbeats 3200000 in
theorem BoxMay_any (a : Bx) (w : World) : Calls Try.prog 13 #[bv a] w fun e w' => e = .returned (.int .i64 (bad1 a)) ∧ Below w.heap.size w w' := by
  cases h1 : nearP a.lo with
  | false =>
    have HQ : Hid (bad1 a = 2) := bad1_far (by rw [nearB_and, h1]; rfl)
    go_enter Try.func13, Try.ntmps13
    go_wp2_with fail
    refine (pointMay_r a.lo false h1 _).mono ?_
    rintro e w1 ⟨rfl, rfl⟩
    go_wp2
    go_ret
    exact ⟨ret_int HQ.out.symm, below_grow _ (Nat.le_refl _) (below_grow _ (Nat.le_refl _) (Below.refl _ _) _) _⟩
  | true =>
    cases h2 : nearP a.hi with
    | false =>
      have HQ : Hid (bad1 a = 2) := bad1_far (by rw [nearB_and, h1, h2]; rfl)
      go_enter Try.func13, Try.ntmps13
      go_wp2_with fail
      refine (pointMay_r a.lo true h1 _).mono ?_
      rintro e w1 ⟨rfl, rfl⟩
      go_wp2_with fail
      refine (pointMay_r a.hi false h2 _).mono ?_
      rintro e w1 ⟨rfl, rfl⟩
      go_wp2
      go_ret
      exact ⟨ret_int HQ.out.symm, below_grow _ (Nat.le_refl _) (below_grow _ (Nat.le_refl _) (below_grow _ (Nat.le_refl _) (Below.refl _ _) _) _) _⟩
    | true =>
      have HNB : Hid (nearB a = true) := by show _ = _; rw [nearB_and, h1, h2]; rfl
      have HF : Hid (a.hx < a.lx ∨ a.hy < a.ly ∨ a.hz < a.lz → bad1 a = 1) := fun h => bad1_form HNB.out (atMost_no h).symm
      have HG : Hid (a.lx ≤ a.hx → a.ly ≤ a.hy → a.lz ≤ a.hz → bad1 a = 0) := fun h h' h'' => bad1_ok.2 ⟨HNB.out, (atMost_yes h h' h'').symm⟩
      by_cases g0 : a.hx < a.lx
      · have d0 : decide (a.hx < a.lx) = true := decide_eq_true g0
        go_enter Try.func13, Try.ntmps13
        go_wp2_with fail
        refine (pointMay_r a.lo true h1 _).mono ?_
        rintro e w1 ⟨rfl, rfl⟩
        go_wp2_with fail
        refine (pointMay_r a.hi true h2 _).mono ?_
        rintro e w1 ⟨rfl, rfl⟩
        go_wp2
        go_ret
        exact ⟨ret_int (HF.out (.inl g0)).symm, below_grow _ (Nat.le_refl _) (below_grow _ (Nat.le_refl _) (below_grow _ (Nat.le_refl _) (Below.refl _ _) _) _) _⟩
      have d0 : decide (a.hx < a.lx) = false := decide_eq_false g0
      by_cases g1 : a.hy < a.ly
      · have d1 : decide (a.hy < a.ly) = true := decide_eq_true g1
        go_enter Try.func13, Try.ntmps13
        go_wp2_with fail
        refine (pointMay_r a.lo true h1 _).mono ?_
        rintro e w1 ⟨rfl, rfl⟩
        go_wp2_with fail
        refine (pointMay_r a.hi true h2 _).mono ?_
        rintro e w1 ⟨rfl, rfl⟩
        go_wp2
        go_ret
        exact ⟨ret_int (HF.out (.inr (.inl g1))).symm, below_grow _ (Nat.le_refl _) (below_grow _ (Nat.le_refl _) (below_grow _ (Nat.le_refl _) (Below.refl _ _) _) _) _⟩
      have d1 : decide (a.hy < a.ly) = false := decide_eq_false g1
      by_cases g2 : a.hz < a.lz
      · have d2 : decide (a.hz < a.lz) = true := decide_eq_true g2
        go_enter Try.func13, Try.ntmps13
        go_wp2_with fail
        refine (pointMay_r a.lo true h1 _).mono ?_
        rintro e w1 ⟨rfl, rfl⟩
        go_wp2_with fail
        refine (pointMay_r a.hi true h2 _).mono ?_
        rintro e w1 ⟨rfl, rfl⟩
        go_wp2
        go_ret
        exact ⟨ret_int (HF.out (.inr (.inr g2))).symm, below_grow _ (Nat.le_refl _) (below_grow _ (Nat.le_refl _) (below_grow _ (Nat.le_refl _) (Below.refl _ _) _) _) _⟩
      have d2 : decide (a.hz < a.lz) = false := decide_eq_false g2
      go_enter Try.func13, Try.ntmps13
      go_wp2_with fail
      refine (pointMay_r a.lo true h1 _).mono ?_
      rintro e w1 ⟨rfl, rfl⟩
      go_wp2_with fail
      refine (pointMay_r a.hi true h2 _).mono ?_
      rintro e w1 ⟨rfl, rfl⟩
      go_wp2
      go_ret
      exact ⟨ret_int (HG.out (by omega) (by omega) (by omega)).symm, below_grow _ (Nat.le_refl _) (below_grow _ (Nat.le_refl _) (below_grow _ (Nat.le_refl _) (Below.refl _ _) _) _) _⟩
theorem meet_no {a b : Bx} (h : b.hx ≤ a.lx ∨ a.hx ≤ b.lx ∨ b.hy ≤ a.ly ∨ a.hy ≤ b.ly ∨ b.hz ≤ a.lz ∨ a.hz ≤ b.lz) : meet a b = false := by
  cases e : meet a b with
  | false => rfl
  | true => have := meet_iff.1 e; omega
set_option maxHeartbeats 6400000 in
theorem BoxMeet_any (a b : Bx) (w : World) : Calls Try.prog 14 #[bv a, bv b] w fun e w' => e = .returned (.bool (meet a b)) ∧ Below w.heap.size w w' := by
  by_cases g0 : a.lx < b.hx
  rotate_left
  · have HM : Hid (meet a b = false) := meet_no (by omega)
    have d0 : decide (a.lx < b.hx) = false := decide_eq_false g0
    clear g0
    go_enter Try.func14, Try.ntmps14
    go_wp2
    go_ret
    exact ⟨ret_bool HM.out.symm, below_grow _ (Nat.le_refl _) (below_grow _ (Nat.le_refl _) (Below.refl _ _) _) _⟩
  have d0 : decide (a.lx < b.hx) = true := decide_eq_true g0
  by_cases g1 : b.lx < a.hx
  rotate_left
  · have HM : Hid (meet a b = false) := meet_no (by omega)
    have d1 : decide (b.lx < a.hx) = false := decide_eq_false g1
    clear g0
    clear g1
    go_enter Try.func14, Try.ntmps14
    go_wp2
    go_ret
    exact ⟨ret_bool HM.out.symm, below_grow _ (Nat.le_refl _) (below_grow _ (Nat.le_refl _) (Below.refl _ _) _) _⟩
  have d1 : decide (b.lx < a.hx) = true := decide_eq_true g1
  by_cases g2 : a.ly < b.hy
  rotate_left
  · have HM : Hid (meet a b = false) := meet_no (by omega)
    have d2 : decide (a.ly < b.hy) = false := decide_eq_false g2
    clear g0
    clear g1
    clear g2
    go_enter Try.func14, Try.ntmps14
    go_wp2
    go_ret
    exact ⟨ret_bool HM.out.symm, below_grow _ (Nat.le_refl _) (below_grow _ (Nat.le_refl _) (Below.refl _ _) _) _⟩
  have d2 : decide (a.ly < b.hy) = true := decide_eq_true g2
  by_cases g3 : b.ly < a.hy
  rotate_left
  · have HM : Hid (meet a b = false) := meet_no (by omega)
    have d3 : decide (b.ly < a.hy) = false := decide_eq_false g3
    clear g0
    clear g1
    clear g2
    clear g3
    go_enter Try.func14, Try.ntmps14
    go_wp2
    go_ret
    exact ⟨ret_bool HM.out.symm, below_grow _ (Nat.le_refl _) (below_grow _ (Nat.le_refl _) (Below.refl _ _) _) _⟩
  have d3 : decide (b.ly < a.hy) = true := decide_eq_true g3
  by_cases g4 : a.lz < b.hz
  rotate_left
  · have HM : Hid (meet a b = false) := meet_no (by omega)
    have d4 : decide (a.lz < b.hz) = false := decide_eq_false g4
    clear g0
    clear g1
    clear g2
    clear g3
    clear g4
    go_enter Try.func14, Try.ntmps14
    go_wp2
    go_ret
    exact ⟨ret_bool HM.out.symm, below_grow _ (Nat.le_refl _) (below_grow _ (Nat.le_refl _) (Below.refl _ _) _) _⟩
  have d4 : decide (a.lz < b.hz) = true := decide_eq_true g4
  by_cases g5 : b.lz < a.hz
  rotate_left
  · have HM : Hid (meet a b = false) := meet_no (by omega)
    have d5 : decide (b.lz < a.hz) = false := decide_eq_false g5
    clear g0
    clear g1
    clear g2
    clear g3
    clear g4
    clear g5
    go_enter Try.func14, Try.ntmps14
    go_wp2
    go_ret
    exact ⟨ret_bool HM.out.symm, below_grow _ (Nat.le_refl _) (below_grow _ (Nat.le_refl _) (Below.refl _ _) _) _⟩
  have d5 : decide (b.lz < a.hz) = true := decide_eq_true g5
  have HM : Hid (meet a b = true) := meet_iff.2 ⟨⟨g0, g2, g4⟩, g1, g3, g5⟩
  clear g0 g1 g2 g3 g4 g5
  go_enter Try.func14, Try.ntmps14
  go_wp2
  go_ret
  exact ⟨ret_bool HM.out.symm, below_grow _ (Nat.le_refl _) (below_grow _ (Nat.le_refl _) (Below.refl _ _) _) _⟩
theorem lesser_any (x y : Int) (w : World) : Calls Try.prog 35 #[.int .i64 x, .int .i64 y] w fun e w' => e = .returned (.int .i64 (min x y)) ∧ w' = w := by
  go_enter Try.func35, Try.ntmps35
  go_wp2
  all_goals
    go_ret
    exact ⟨ret_int (by omega), rfl⟩
theorem greater_any (x y : Int) (w : World) : Calls Try.prog 36 #[.int .i64 x, .int .i64 y] w fun e w' => e = .returned (.int .i64 (max x y)) ∧ w' = w := by
  go_enter Try.func36, Try.ntmps36
  go_wp2
  all_goals
    go_ret
    exact ⟨ret_int (by omega), rfl⟩
set_option maxHeartbeats 1600000 in
theorem PointSum_any (p q : Pt) (w : World) (hp : SmP p) (hq : SmP q) : Calls Try.prog 37 #[pv p, pv q] w fun e w' => e = .returned (pv (addP p q)) ∧ Below w.heap.size w w' := by
  obtain ⟨⟨_, _⟩, ⟨_, _⟩, _, _⟩ := hp
  obtain ⟨⟨_, _⟩, ⟨_, _⟩, _, _⟩ := hq
  go_enter Try.func37, Try.ntmps37
  go_wp2
  refine bodyPost_ret (v := pv (addP p q)) (by simp [results, Try.results37, go_sem, addP]) rfl ⟨rfl, ?_⟩
  repeat (first | exact Below.refl _ _ | refine below_grow _ (Nat.le_refl _) ?_ _)
end Go.Proofs.Ytiafcgbohckmmaa
