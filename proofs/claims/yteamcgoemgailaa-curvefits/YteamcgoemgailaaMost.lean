/- Check, Most walked. -/
import Derived.Test.YteamcgoemgailaaChk
namespace Go.Proofs.Yteamcgoemgailaa
open Go.RowKit

theorem chk_count {c : List Kn} (h : c.length < 2 ∨ 50 < c.length) : chk c = 7 := if_pos h
theorem chk_range {c : List Kn} (h : ¬ (c.length < 2 ∨ 50 < c.length)) (h2 : c.any outK = true) : chk c = 2 := by rw [chk, if_neg h, if_pos h2]
theorem chk_order {c : List Kn} (h : ¬ (c.length < 2 ∨ 50 < c.length)) (h2 : c.any outK = false) (h3 : ¬ Rises c) : chk c = 15 := by rw [chk, if_neg h, if_neg (by simp [h2]), if_neg h3]
theorem chk_form {c : List Kn} (h : ¬ (c.length < 2 ∨ 50 < c.length)) (h2 : c.any outK = false) (h3 : Rises c) (h4 : ¬ (cv c 0 = 0 ∧ cs c 0 = 0)) : chk c = 1 := by rw [chk, if_neg h, if_neg (by simp [h2]), if_pos h3, if_neg h4]
theorem chk_fine {c : List Kn} (h : ¬ (c.length < 2 ∨ 50 < c.length)) (h2 : c.any outK = false) (h3 : Rises c) (h4 : cv c 0 = 0 ∧ cs c 0 = 0) : chk c = 0 := by rw [chk, if_neg h, if_neg (by simp [h2]), if_pos h3, if_pos h4]

set_option maxHeartbeats 3200000 in
theorem check_any (ao : Option Addr) (cap : Nat) (l : List Kn) (w : World) (hL : Kns w ao l) (hl : l.length ≤ 9223372036854775807) :
    Calls Try.prog 7 #[.slice ao l.length cap] w fun e w' => e = .returned (.int .i64 (chk l)) ∧ Below w.heap.size w w' := by
  have HL : Hid (Kns w ao l) := hL
  clear hL
  by_cases hn : l.length < 2
  · have HR : Hid (chk l = 7) := chk_count (.inl hn)
    go_enter Try.func7, Try.ntmps7
    go_wp2
    go_ret
    exact ⟨ret_int HR.out.symm, Below.refl _ _⟩
  by_cases hm : 50 < l.length
  · have HR : Hid (chk l = 7) := chk_count (.inr hm)
    go_enter Try.func7, Try.ntmps7
    go_wp2
    go_ret
    exact ⟨ret_int HR.out.symm, Below.refl _ _⟩
  have HN : Hid (¬ (l.length < 2 ∨ 50 < l.length)) := by show ¬ _; omega
  have hn2 : 2 ≤ l.length := by omega
  have hm2 : l.length ≤ 50 := by omega
  clear hn hm
  cases ho : l.any outK with
  | true =>
    have HR : Hid (chk l = 2) := chk_range HN.out ho
    go_enter Try.func7, Try.ntmps7
    go_wp2_with fail
    refine (outside_any ao cap l true ho w HL.out (by omega)).mono ?_
    rintro e w1 ⟨rfl, hb1⟩
    go_wp2
    go_ret
    exact ⟨ret_int HR.out.symm, hb1⟩
  | false =>
    have HO : Hid (l.any outK = false) := ho
    by_cases hr : Rises l
    · have HS : Hid (Rises l) := hr
      clear hr
      obtain ⟨b, off, rfl, _, c0, c1⟩ := HL.out.at (k := 0) (by omega)
      rw [← cv_at] at c0
      rw [← cs_at] at c1
      rw [Nat.zero_mul, Nat.add_zero] at c0 c1
      have HZ : Hid (∀ x y : Bool, (x = true ↔ cv l 0 = 0) → (y = true ↔ cs l 0 = 0) → chk l = if x && y then 0 else 1) := by
        intro x y hx hy
        split
        · rename_i h; rw [Bool.and_eq_true, hx, hy] at h; exact chk_fine HN.out HO.out HS.out h
        · rename_i h; rw [Bool.and_eq_true, hx, hy] at h; exact chk_form HN.out HO.out HS.out h
      clear ho
      go_enter Try.func7, Try.ntmps7
      go_wp2_with fail
      refine (outside_any _ cap l false HO.out w HL.out (by omega)).mono ?_
      rintro e w1 ⟨rfl, hb1⟩
      have HB1 : Hid (Below w.heap.size w w1) := hb1
      have K1 : Hid (Kns w1 (some ⟨b, off, none⟩) l) := HL.out.next hb1
      have d0 := cell_later hb1 c0
      have d1 := cell_later hb1 c1
      clear hb1 c0 c1
      go_wp2_with fail
      refine (isRising_any _ cap l true (iff_of_true rfl HS.out) w1 K1.out hn2 hm2).mono ?_
      rintro e w2 ⟨rfl, hb2⟩
      have HB2 : Hid (Below w.heap.size w w2) := below_on HB1.out hb2
      have c0 := cell_later hb2 d0
      have c1 := cell_later hb2 d1
      clear hb2 d0 d1
      generalize cv l 0 = v at *
      generalize cs l 0 = s at *
      by_cases hv : v = 0
      · by_cases hs : s = 0
        · have HR : Hid (chk l = 0) := HZ.out true true (by simp [hv]) (by simp [hs])
          clear HZ
          subst hv hs
          go_wp2
          go_ret
          exact ⟨ret_int HR.out.symm, HB2.out⟩
        · have HR : Hid (chk l = 1) := HZ.out true false (by simp [hv]) (by simp [hs])
          have ts : (s == 0) = false := by simp [hs]
          clear HZ hs
          subst hv
          go_wp2
          go_ret
          exact ⟨ret_int HR.out.symm, HB2.out⟩
      · have HR : Hid (chk l = 1) := HZ.out false (decide (s = 0)) (by simp [hv]) (by simp)
        have tv : (v == 0) = false := by simp [hv]
        clear HZ hv
        go_wp2
        go_ret
        exact ⟨ret_int HR.out.symm, HB2.out⟩
    · have HR : Hid (chk l = 15) := chk_order HN.out ho hr
      have HS : Hid (¬ Rises l) := hr
      clear hr
      go_enter Try.func7, Try.ntmps7
      go_wp2_with fail
      refine (outside_any ao cap l false HO.out w HL.out (by omega)).mono ?_
      rintro e w1 ⟨rfl, hb1⟩
      have HB1 : Hid (Below w.heap.size w w1) := hb1
      have K1 : Hid (Kns w1 ao l) := HL.out.next hb1
      clear hb1
      go_wp2_with fail
      refine (isRising_any ao cap l false (iff_of_false (by simp) HS.out) w1 K1.out hn2 hm2).mono ?_
      rintro e w2 ⟨rfl, hb2⟩
      go_wp2
      go_ret
      exact ⟨ret_int HR.out.symm, below_on HB1.out hb2⟩
theorem check_r (ao : Option Addr) (cap : Nat) (l : List Kn) (r : Int) (hr : chk l = r) (w : World) (hL : Kns w ao l) (hl : l.length ≤ 9223372036854775807) :
    Calls Try.prog 7 #[.slice ao l.length cap] w fun e w' => e = .returned (.int .i64 r) ∧ Below w.heap.size w w' := by
  rw [← hr]; exact check_any ao cap l w hL hl

/-- What Most answers. -/
abbrev tup3 (a b c : Int) : Ending := .returned (.tuple #[.int .i64 a, .int .i64 b, .int .i64 c])
abbrev tup2 (a b : Int) : Ending := .returned (.tuple #[.int .i64 a, .int .i64 b])
set_option maxHeartbeats 3200000 in
theorem most_bad (ao : Option Addr) (cap : Nat) (l : List Kn) (w : World) (hL : Kns w ao l) (hl : l.length ≤ 9223372036854775807) (hc : chk l ≠ 0) :
    Calls Try.prog 11 #[.slice ao l.length cap] w fun e w' => e = tup3 0 0 (chk l) ∧ Below w.heap.size w w' := by
  have HL : Hid (Kns w ao l) := hL
  have hne : (chk l != 0) = true := by simp [hc]
  have hcall := check_any ao cap l w hL hl
  clear hL hc
  generalize chk l = r at *
  go_enter Try.func11, Try.ntmps11
  go_wp2_with (go_at_call 7; refine hcall.mono ?_; rintro e w1 ⟨rfl, hb1⟩)
  go_ret3
  exact ⟨rfl, hb1⟩
set_option maxHeartbeats 3200000 in
theorem most_walk (b off cap n : Nat) (v s : Int) (w : World) (hn : n ≤ 49) (c0 : w.cell? ⟨b, off + n * 2, none⟩ = some (.int .i64 v)) (c1 : w.cell? ⟨b, off + n * 2 + 1, none⟩ = some (.int .i64 s))
    (hcall : Calls Try.prog 7 #[.slice (some ⟨b, off, none⟩) (n + 1) cap] w fun e w' => e = .returned (.int .i64 0) ∧ Below w.heap.size w w') :
    Calls Try.prog 11 #[.slice (some ⟨b, off, none⟩) (n + 1) cap] w fun e w' => e = tup3 v s 0 ∧ Below w.heap.size w w' := by
  go_enter Try.func11, Try.ntmps11
  go_wp2_with fail
  refine hcall.mono ?_
  rintro e w1 ⟨rfl, hb1⟩
  have HB1 : Hid (Below w.heap.size w w1) := hb1
  have d0 := cell_later hb1 c0
  have d1 := cell_later hb1 c1
  clear hb1 c0 c1
  go_wp2_with fail
  go_big_quiet (fail)
  go_wp2
  go_ret3
  exact ⟨rfl, below_drewN (below_on HB1.out ((Below.refl _ _).alloc (Nat.le_refl _) _)) _⟩
theorem most_ok (ao : Option Addr) (cap : Nat) (l : List Kn) (w : World) (hL : Kns w ao l) (hc : Curve l) :
    Calls Try.prog 11 #[.slice ao l.length cap] w fun e w' => e = tup3 (mostV l) (mostS l) 0 ∧ Below w.heap.size w w' := by
  have h2 := hc.two
  have h50 := hc.most
  have hcall := check_r ao cap l 0 (chk_ok.2 hc) w hL (by omega)
  obtain ⟨b, off, rfl, _, c0, c1⟩ := hL.at (k := l.length - 1) (by omega)
  rw [← cv_at] at c0
  rw [← cs_at] at c1
  have := most_walk b off cap (l.length - 1) (mostV l) (mostS l) w (by omega) c0 c1 (by rw [show l.length - 1 + 1 = l.length by omega]; exact hcall)
  rw [show l.length - 1 + 1 = l.length by omega] at this
  exact this
end Go.Proofs.Yteamcgoemgailaa
