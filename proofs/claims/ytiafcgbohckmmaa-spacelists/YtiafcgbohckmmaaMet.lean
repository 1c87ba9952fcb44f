/- The law SpaceMet walked. -/
import Derived.Test.YtiafcgbohckmmaaHM
namespace Go.Proofs.Ytiafcgbohckmmaa
open Go.RowKit

theorem cube2_meet : meetR cube2 cube2 = (true, 0) := by rw [meetR_ok cube2_good cube2_good]; decide
theorem moveR_good {a m : Bx} {p : Pt} (h : moveR a p = (m, 0)) : bad1 a = 0 ∧ nearP p = true ∧ m = movB a p ∧ bad1 m = 0 := by
  unfold moveR at h
  by_cases hr : bad1 a = 0
  · rw [if_pos hr] at h
    cases hp : nearP p with
    | false => rw [hp] at h; simp at h
    | true =>
      rw [hp, if_pos rfl] at h
      cases hm : nearB (movB a p) with
      | false => rw [hm] at h; simp at h
      | true =>
        rw [hm, if_pos rfl] at h
        simp only [Prod.mk.injEq, and_true] at h
        subst h
        refine ⟨hr, rfl, rfl, bad1_ok.2 ⟨hm, ?_⟩⟩
        have h1 := atMost_iff.1 (bad1_ok.1 hr).2
        rw [atMost_iff]
        simp only [movB]
        simp only at h1
        omega
  · rw [if_neg hr] at h
    simp only [Prod.mk.injEq] at h
    exact absurd h.2 hr
theorem meet_moved (a b : Bx) (p : Pt) : meet (movB a p) (movB b p) = meet a b := by
  rw [Bool.eq_iff_iff, meet_iff, meet_iff]
  simp only [movB]
  omega
theorem meet_hull {a b c : Bx} (h : meet a c = true) : meet (hullB a b) c = true := by
  rw [meet_iff] at *
  simp only [hullB]
  omega
theorem bool_or {x y : Bool} (h : x = true → y = true) : (!x || y) = true := by cases x <;> simp_all
set_option maxHeartbeats 6400000 in
set_option maxRecDepth 100000 in
theorem met_bad (a b c : Bx) (p : Pt) (w : World) (hr : badL [a, b] ≠ 0) : Calls Try.prog 5 #[bv a, bv b, bv c, pv p] w fun e w' => e = .returned (.bool true) ∧ Below w.heap.size w w' := by
  obtain ⟨r, hrr⟩ : ∃ r, r = badL [a, b] := ⟨_, rfl⟩
  have hne : (r != 0) = true := by simp [hrr, hr]
  have HX : Hid (meetR a b = (false, r)) := by show _ = _; rw [hrr]; exact if_neg hr
  clear hrr hr
  have HB0 : Hid (Below w.heap.size w w) := Below.refl _ _
  go_enter Try.func5, Try.ntmps5
  go_wp2_with fail
  refine (meet_r cube2 cube2 true 0 cube2_meet _).mono ?_
  rintro e w1 ⟨rfl, hb1⟩
  have hal : Below w.heap.size w (((((w.alloc (bo (a))).alloc (bo (b))).alloc (bo (c))).alloc (po (p))).alloc (bo (cube2))) := (below_grow _ (Nat.le_refl _) (below_grow _ (Nat.le_refl _) (below_grow _ (Nat.le_refl _) (below_grow _ (Nat.le_refl _) (below_grow _ (Nat.le_refl _) (Below.refl _ _) _) _) _) _) _)
  have hn : Below w.heap.size w w1 := hal.trans (hb1.mono hal.size)
  have HB1 : Hid (Below w.heap.size w w1) := HB0.out.trans (hn.mono HB0.out.size)
  have Ka1 : Hid (Bf (w.heap.size) (a) w1) := by
    have h := ((Bf.new w (a)).later (below_grow _ (Nat.le_refl _) (below_grow _ (Nat.le_refl _) (below_grow _ (Nat.le_refl _) (below_grow _ (Nat.le_refl _) (Below.refl _ _) _) _) _) _)).later hb1
    show Bf _ _ _
    simpa using h
  have Kb1 : Hid (Bf (w.heap.size + 1) (b) w1) := by
    have h := ((Bf.new (w.alloc (bo (a))) (b)).later (below_grow _ (Nat.le_refl _) (below_grow _ (Nat.le_refl _) (below_grow _ (Nat.le_refl _) (Below.refl _ _) _) _) _)).later hb1
    show Bf _ _ _
    simpa using h
  have Kc1 : Hid (Bf (w.heap.size + 1 + 1) (c) w1) := by
    have h := ((Bf.new ((w.alloc (bo (a))).alloc (bo (b))) (c)).later (below_grow _ (Nat.le_refl _) (below_grow _ (Nat.le_refl _) (Below.refl _ _) _) _)).later hb1
    show Bf _ _ _
    simpa using h
  have Kp1 : Hid (Pf (w.heap.size + 1 + 1 + 1) (p) w1) := by
    have h := ((Pf.new (((w.alloc (bo (a))).alloc (bo (b))).alloc (bo (c))) (p)).later (below_grow _ (Nat.le_refl _) (Below.refl _ _) _)).later hb1
    show Pf _ _ _
    simpa using h
  have Kd1 : Hid (Bf (w.heap.size + 1 + 1 + 1 + 1) (cube2) w1) := by
    have h := ((Bf.new ((((w.alloc (bo (a))).alloc (bo (b))).alloc (bo (c))).alloc (po (p))) (cube2)).later (Below.refl _ _)).later hb1
    show Bf _ _ _
    simpa using h
  clear hal hn hb1
  obtain ⟨⟨al, a0, a1, a2, a3, a4, a5⟩, af0, af1, af2, af3, af4, af5⟩ := Ka1.out
  simp only [Nat.zero_add] at a1 a2 a3 a4 a5
  obtain ⟨⟨bl, b0, b1, b2, b3, b4, b5⟩, bf0, bf1, bf2, bf3, bf4, bf5⟩ := Kb1.out
  simp only [Nat.zero_add] at b1 b2 b3 b4 b5
  go_wp2_with fail
  refine (meet_r a b false r HX.out _).mono ?_
  rintro e w2 ⟨rfl, hb2⟩
  clear al a0 a1 a2 a3 a4 a5 af0 af1 af2 af3 af4 af5 bl b0 b1 b2 b3 b4 b5 bf0 bf1 bf2 bf3 bf4 bf5
  have hal : Below w1.heap.size w1 w1 := (Below.refl _ _)
  have hn : Below w1.heap.size w1 w2 := hal.trans (hb2.mono hal.size)
  have HB2 : Hid (Below w.heap.size w w2) := HB1.out.trans (hn.mono HB1.out.size)
  have Ka2 : Hid (Bf (w.heap.size) (a) w2) := Ka1.out.later hn
  have Kb2 : Hid (Bf (w.heap.size + 1) (b) w2) := Kb1.out.later hn
  have Kc2 : Hid (Bf (w.heap.size + 1 + 1) (c) w2) := Kc1.out.later hn
  have Kp2 : Hid (Pf (w.heap.size + 1 + 1 + 1) (p) w2) := Kp1.out.later hn
  have Kd2 : Hid (Bf (w.heap.size + 1 + 1 + 1 + 1) (cube2) w2) := Kd1.out.later hn
  clear hal hn hb2
  go_wp2
  go_ret
  exact ⟨by simp, HB2.out⟩
set_option maxHeartbeats 6400000 in
set_option maxRecDepth 100000 in
theorem met_ok_c (a b c : Bx) (p : Pt) (w : World) (hr : badL [a, b] = 0) (h1 : (moveR a p).2 = 0) (h2 : (moveR b p).2 = 0) (hc : bad1 c = 0) : Calls Try.prog 5 #[bv a, bv b, bv c, pv p] w fun e w' => e = .returned (.bool true) ∧ Below w.heap.size w w' := by
  have ha := (badL2_zero.1 hr).1
  have hb := (badL2_zero.1 hr).2
  obtain ⟨x, hx⟩ : ∃ x, x = meet a b := ⟨_, rfl⟩
  have HX : Hid (meetR a b = (x, 0)) := by show _ = _; rw [hx, meetR_ok ha hb]
  have HY : Hid (meetR b a = (x, 0)) := by show _ = _; rw [hx, meetR_ok hb ha, meet_comm]
  obtain ⟨h, hh⟩ : ∃ h, h = hullB a b := ⟨_, rfl⟩
  have HH : Hid (hullR a b = (h, 0)) := by show _ = _; rw [hh, hullR_ok ha hb]
  obtain ⟨z, hz⟩ : ∃ z, z = meet a c := ⟨_, rfl⟩
  obtain ⟨y, hy⟩ : ∃ y, y = meet h c := ⟨_, rfl⟩
  have HZ : Hid (meetR a c = (z, 0)) := by show _ = _; rw [hz, meetR_ok ha hc]
  have HV : Hid (meetR h c = (y, 0)) := by show _ = _; rw [hy, meetR_ok (by rw [hh]; exact hull_good ha hb) hc]
  have HZY : Hid (z = true → y = true) := fun e => by rw [hy, hh]; exact meet_hull (by rw [← hz]; exact e)
  clear hz hy hc
  obtain ⟨m, hm⟩ : ∃ m, m = (moveR a p).1 := ⟨_, rfl⟩
  obtain ⟨n, hn⟩ : ∃ n, n = (moveR b p).1 := ⟨_, rfl⟩
  obtain ⟨r, hr0⟩ : ∃ r : Int, r = 0 := ⟨_, rfl⟩
  obtain ⟨s, hs0⟩ : ∃ s : Int, s = 0 := ⟨_, rfl⟩
  have HM : Hid (moveR a p = (m, 0)) := by show _ = _; rw [hm, ← h1]
  have HN : Hid (moveR b p = (n, 0)) := by show _ = _; rw [hn, ← h2]
  have HK : Hid (meetR m n = (x, 0)) := by
    show _ = _
    obtain ⟨_, _, e1, g1⟩ := moveR_good HM.out
    obtain ⟨_, _, e2, g2⟩ := moveR_good HN.out
    rw [meetR_ok g1 g2, e1, e2, meet_moved, ← hx]
  clear hr ha hb hx hh hm hn hr0 hs0 h1 h2
  have HB0 : Hid (Below w.heap.size w w) := Below.refl _ _
  go_enter Try.func5, Try.ntmps5
  go_wp2_with fail
  refine (meet_r cube2 cube2 true 0 cube2_meet _).mono ?_
  rintro e w1 ⟨rfl, hb1⟩
  have hal : Below w.heap.size w (((((w.alloc (bo (a))).alloc (bo (b))).alloc (bo (c))).alloc (po (p))).alloc (bo (cube2))) := (below_grow _ (Nat.le_refl _) (below_grow _ (Nat.le_refl _) (below_grow _ (Nat.le_refl _) (below_grow _ (Nat.le_refl _) (below_grow _ (Nat.le_refl _) (Below.refl _ _) _) _) _) _) _)
  have hn : Below w.heap.size w w1 := hal.trans (hb1.mono hal.size)
  have HB1 : Hid (Below w.heap.size w w1) := HB0.out.trans (hn.mono HB0.out.size)
  have Ka1 : Hid (Bf (w.heap.size) (a) w1) := by
    have h := ((Bf.new w (a)).later (below_grow _ (Nat.le_refl _) (below_grow _ (Nat.le_refl _) (below_grow _ (Nat.le_refl _) (below_grow _ (Nat.le_refl _) (Below.refl _ _) _) _) _) _)).later hb1
    show Bf _ _ _
    simpa using h
  have Kb1 : Hid (Bf (w.heap.size + 1) (b) w1) := by
    have h := ((Bf.new (w.alloc (bo (a))) (b)).later (below_grow _ (Nat.le_refl _) (below_grow _ (Nat.le_refl _) (below_grow _ (Nat.le_refl _) (Below.refl _ _) _) _) _)).later hb1
    show Bf _ _ _
    simpa using h
  have Kc1 : Hid (Bf (w.heap.size + 1 + 1) (c) w1) := by
    have h := ((Bf.new ((w.alloc (bo (a))).alloc (bo (b))) (c)).later (below_grow _ (Nat.le_refl _) (below_grow _ (Nat.le_refl _) (Below.refl _ _) _) _)).later hb1
    show Bf _ _ _
    simpa using h
  have Kp1 : Hid (Pf (w.heap.size + 1 + 1 + 1) (p) w1) := by
    have h := ((Pf.new (((w.alloc (bo (a))).alloc (bo (b))).alloc (bo (c))) (p)).later (below_grow _ (Nat.le_refl _) (Below.refl _ _) _)).later hb1
    show Pf _ _ _
    simpa using h
  have Kd1 : Hid (Bf (w.heap.size + 1 + 1 + 1 + 1) (cube2) w1) := by
    have h := ((Bf.new ((((w.alloc (bo (a))).alloc (bo (b))).alloc (bo (c))).alloc (po (p))) (cube2)).later (Below.refl _ _)).later hb1
    show Bf _ _ _
    simpa using h
  clear hal hn hb1
  obtain ⟨⟨al, a0, a1, a2, a3, a4, a5⟩, af0, af1, af2, af3, af4, af5⟩ := Ka1.out
  simp only [Nat.zero_add] at a1 a2 a3 a4 a5
  obtain ⟨⟨bl, b0, b1, b2, b3, b4, b5⟩, bf0, bf1, bf2, bf3, bf4, bf5⟩ := Kb1.out
  simp only [Nat.zero_add] at b1 b2 b3 b4 b5
  go_wp2_with fail
  refine (meet_r a b x 0 HX.out _).mono ?_
  rintro e w2 ⟨rfl, hb2⟩
  clear al a0 a1 a2 a3 a4 a5 af0 af1 af2 af3 af4 af5 bl b0 b1 b2 b3 b4 b5 bf0 bf1 bf2 bf3 bf4 bf5
  have hal : Below w1.heap.size w1 w1 := (Below.refl _ _)
  have hn : Below w1.heap.size w1 w2 := hal.trans (hb2.mono hal.size)
  have HB2 : Hid (Below w.heap.size w w2) := HB1.out.trans (hn.mono HB1.out.size)
  have Ka2 : Hid (Bf (w.heap.size) (a) w2) := Ka1.out.later hn
  have Kb2 : Hid (Bf (w.heap.size + 1) (b) w2) := Kb1.out.later hn
  have Kc2 : Hid (Bf (w.heap.size + 1 + 1) (c) w2) := Kc1.out.later hn
  have Kp2 : Hid (Pf (w.heap.size + 1 + 1 + 1) (p) w2) := Kp1.out.later hn
  have Kd2 : Hid (Bf (w.heap.size + 1 + 1 + 1 + 1) (cube2) w2) := Kd1.out.later hn
  clear hal hn hb2
  obtain ⟨⟨al, a0, a1, a2, a3, a4, a5⟩, af0, af1, af2, af3, af4, af5⟩ := Ka2.out
  simp only [Nat.zero_add] at a1 a2 a3 a4 a5
  obtain ⟨⟨bl, b0, b1, b2, b3, b4, b5⟩, bf0, bf1, bf2, bf3, bf4, bf5⟩ := Kb2.out
  simp only [Nat.zero_add] at b1 b2 b3 b4 b5
  go_wp2_with fail
  refine (meet_r b a x 0 HY.out _).mono ?_
  rintro e w3 ⟨rfl, hb3⟩
  clear al a0 a1 a2 a3 a4 a5 af0 af1 af2 af3 af4 af5 bl b0 b1 b2 b3 b4 b5 bf0 bf1 bf2 bf3 bf4 bf5
  have hal : Below w2.heap.size w2 w2 := (Below.refl _ _)
  have hn : Below w2.heap.size w2 w3 := hal.trans (hb3.mono hal.size)
  have HB3 : Hid (Below w.heap.size w w3) := HB2.out.trans (hn.mono HB2.out.size)
  have Ka3 : Hid (Bf (w.heap.size) (a) w3) := Ka2.out.later hn
  have Kb3 : Hid (Bf (w.heap.size + 1) (b) w3) := Kb2.out.later hn
  have Kc3 : Hid (Bf (w.heap.size + 1 + 1) (c) w3) := Kc2.out.later hn
  have Kp3 : Hid (Pf (w.heap.size + 1 + 1 + 1) (p) w3) := Kp2.out.later hn
  have Kd3 : Hid (Bf (w.heap.size + 1 + 1 + 1 + 1) (cube2) w3) := Kd2.out.later hn
  clear hal hn hb3
  obtain ⟨⟨al, a0, a1, a2, a3, a4, a5⟩, af0, af1, af2, af3, af4, af5⟩ := Ka3.out
  simp only [Nat.zero_add] at a1 a2 a3 a4 a5
  obtain ⟨pl, p0, p1, p2⟩ := Kp3.out
  go_wp2_with fail
  refine (move_r a p m 0 HM.out _).mono ?_
  rintro e w4 ⟨rfl, hb4⟩
  clear al a0 a1 a2 a3 a4 a5 af0 af1 af2 af3 af4 af5 pl p0 p1 p2
  have hal : Below w3.heap.size w3 w3 := (Below.refl _ _)
  have hn : Below w3.heap.size w3 w4 := hal.trans (hb4.mono hal.size)
  have HB4 : Hid (Below w.heap.size w w4) := HB3.out.trans (hn.mono HB3.out.size)
  have Ka4 : Hid (Bf (w.heap.size) (a) w4) := Ka3.out.later hn
  have Kb4 : Hid (Bf (w.heap.size + 1) (b) w4) := Kb3.out.later hn
  have Kc4 : Hid (Bf (w.heap.size + 1 + 1) (c) w4) := Kc3.out.later hn
  have Kp4 : Hid (Pf (w.heap.size + 1 + 1 + 1) (p) w4) := Kp3.out.later hn
  have Kd4 : Hid (Bf (w.heap.size + 1 + 1 + 1 + 1) (cube2) w4) := Kd3.out.later hn
  clear hal hn hb4
  obtain ⟨⟨bl, b0, b1, b2, b3, b4, b5⟩, bf0, bf1, bf2, bf3, bf4, bf5⟩ := Kb4.out
  simp only [Nat.zero_add] at b1 b2 b3 b4 b5
  obtain ⟨pl, p0, p1, p2⟩ := Kp4.out
  go_wp2_with fail
  refine (move_r b p n 0 HN.out _).mono ?_
  rintro e w5 ⟨rfl, hb5⟩
  clear bl b0 b1 b2 b3 b4 b5 bf0 bf1 bf2 bf3 bf4 bf5 pl p0 p1 p2
  have hal : Below w4.heap.size w4 (w4.alloc (bo (m))) := (below_grow _ (Nat.le_refl _) (Below.refl _ _) _)
  have hn : Below w4.heap.size w4 w5 := hal.trans (hb5.mono hal.size)
  have HB5 : Hid (Below w.heap.size w w5) := HB4.out.trans (hn.mono HB4.out.size)
  have Ka5 : Hid (Bf (w.heap.size) (a) w5) := Ka4.out.later hn
  have Kb5 : Hid (Bf (w.heap.size + 1) (b) w5) := Kb4.out.later hn
  have Kc5 : Hid (Bf (w.heap.size + 1 + 1) (c) w5) := Kc4.out.later hn
  have Kp5 : Hid (Pf (w.heap.size + 1 + 1 + 1) (p) w5) := Kp4.out.later hn
  have Kd5 : Hid (Bf (w.heap.size + 1 + 1 + 1 + 1) (cube2) w5) := Kd4.out.later hn
  have Km5 : Hid (Bf (w4.heap.size) (m) w5) := by
    have h := ((Bf.new w4 (m)).later (Below.refl _ _)).later hb5
    show Bf _ _ _
    simpa using h
  clear hal hn hb5
  obtain ⟨⟨ml, m0, m1, m2, m3, m4, m5⟩, mf0, mf1, mf2, mf3, mf4, mf5⟩ := Km5.out
  simp only [Nat.zero_add] at m1 m2 m3 m4 m5
  go_wp2_with fail
  refine (meet_r m n x 0 HK.out _).mono ?_
  rintro e w6 ⟨rfl, hb6⟩
  clear ml m0 m1 m2 m3 m4 m5 mf0 mf1 mf2 mf3 mf4 mf5
  have hal : Below w5.heap.size w5 (w5.alloc (bo (n))) := (below_grow _ (Nat.le_refl _) (Below.refl _ _) _)
  have hn : Below w5.heap.size w5 w6 := hal.trans (hb6.mono hal.size)
  have HB6 : Hid (Below w.heap.size w w6) := HB5.out.trans (hn.mono HB5.out.size)
  have Ka6 : Hid (Bf (w.heap.size) (a) w6) := Ka5.out.later hn
  have Kb6 : Hid (Bf (w.heap.size + 1) (b) w6) := Kb5.out.later hn
  have Kc6 : Hid (Bf (w.heap.size + 1 + 1) (c) w6) := Kc5.out.later hn
  have Kp6 : Hid (Pf (w.heap.size + 1 + 1 + 1) (p) w6) := Kp5.out.later hn
  have Kd6 : Hid (Bf (w.heap.size + 1 + 1 + 1 + 1) (cube2) w6) := Kd5.out.later hn
  have Km6 : Hid (Bf (w4.heap.size) (m) w6) := Km5.out.later hn
  have Kn6 : Hid (Bf (w5.heap.size) (n) w6) := by
    have h := ((Bf.new w5 (n)).later (Below.refl _ _)).later hb6
    show Bf _ _ _
    simpa using h
  clear hal hn hb6
  obtain ⟨⟨al, a0, a1, a2, a3, a4, a5⟩, af0, af1, af2, af3, af4, af5⟩ := Ka6.out
  simp only [Nat.zero_add] at a1 a2 a3 a4 a5
  obtain ⟨⟨bl, b0, b1, b2, b3, b4, b5⟩, bf0, bf1, bf2, bf3, bf4, bf5⟩ := Kb6.out
  simp only [Nat.zero_add] at b1 b2 b3 b4 b5
  go_wp2_with fail
  refine (fhull_r a b h 0 HH.out _).mono ?_
  rintro e w7 ⟨rfl, hb7⟩
  clear al a0 a1 a2 a3 a4 a5 af0 af1 af2 af3 af4 af5 bl b0 b1 b2 b3 b4 b5 bf0 bf1 bf2 bf3 bf4 bf5
  have hal : Below w6.heap.size w6 w6 := (Below.refl _ _)
  have hn : Below w6.heap.size w6 w7 := hal.trans (hb7.mono hal.size)
  have HB7 : Hid (Below w.heap.size w w7) := HB6.out.trans (hn.mono HB6.out.size)
  have Ka7 : Hid (Bf (w.heap.size) (a) w7) := Ka6.out.later hn
  have Kb7 : Hid (Bf (w.heap.size + 1) (b) w7) := Kb6.out.later hn
  have Kc7 : Hid (Bf (w.heap.size + 1 + 1) (c) w7) := Kc6.out.later hn
  have Kp7 : Hid (Pf (w.heap.size + 1 + 1 + 1) (p) w7) := Kp6.out.later hn
  have Kd7 : Hid (Bf (w.heap.size + 1 + 1 + 1 + 1) (cube2) w7) := Kd6.out.later hn
  have Km7 : Hid (Bf (w4.heap.size) (m) w7) := Km6.out.later hn
  have Kn7 : Hid (Bf (w5.heap.size) (n) w7) := Kn6.out.later hn
  clear hal hn hb7
  obtain ⟨⟨al, a0, a1, a2, a3, a4, a5⟩, af0, af1, af2, af3, af4, af5⟩ := Ka7.out
  simp only [Nat.zero_add] at a1 a2 a3 a4 a5
  obtain ⟨⟨cl, c0, c1, c2, c3, c4, c5⟩, cf0, cf1, cf2, cf3, cf4, cf5⟩ := Kc7.out
  simp only [Nat.zero_add] at c1 c2 c3 c4 c5
  go_wp2_with fail
  refine (meet_r a c z 0 HZ.out _).mono ?_
  rintro e w8 ⟨rfl, hb8⟩
  clear al a0 a1 a2 a3 a4 a5 af0 af1 af2 af3 af4 af5 cl c0 c1 c2 c3 c4 c5 cf0 cf1 cf2 cf3 cf4 cf5
  have hal : Below w7.heap.size w7 (w7.alloc (bo (h))) := (below_grow _ (Nat.le_refl _) (Below.refl _ _) _)
  have hn : Below w7.heap.size w7 w8 := hal.trans (hb8.mono hal.size)
  have HB8 : Hid (Below w.heap.size w w8) := HB7.out.trans (hn.mono HB7.out.size)
  have Ka8 : Hid (Bf (w.heap.size) (a) w8) := Ka7.out.later hn
  have Kb8 : Hid (Bf (w.heap.size + 1) (b) w8) := Kb7.out.later hn
  have Kc8 : Hid (Bf (w.heap.size + 1 + 1) (c) w8) := Kc7.out.later hn
  have Kp8 : Hid (Pf (w.heap.size + 1 + 1 + 1) (p) w8) := Kp7.out.later hn
  have Kd8 : Hid (Bf (w.heap.size + 1 + 1 + 1 + 1) (cube2) w8) := Kd7.out.later hn
  have Km8 : Hid (Bf (w4.heap.size) (m) w8) := Km7.out.later hn
  have Kn8 : Hid (Bf (w5.heap.size) (n) w8) := Kn7.out.later hn
  have Kh8 : Hid (Bf (w7.heap.size) (h) w8) := by
    have h := ((Bf.new w7 (h)).later (Below.refl _ _)).later hb8
    show Bf _ _ _
    simpa using h
  clear hal hn hb8
  obtain ⟨⟨hl, h0, h1, h2, h3, h4, h5⟩, hf0, hf1, hf2, hf3, hf4, hf5⟩ := Kh8.out
  simp only [Nat.zero_add] at h1 h2 h3 h4 h5
  obtain ⟨⟨cl, c0, c1, c2, c3, c4, c5⟩, cf0, cf1, cf2, cf3, cf4, cf5⟩ := Kc8.out
  simp only [Nat.zero_add] at c1 c2 c3 c4 c5
  go_wp2_with fail
  refine (meet_r h c y 0 HV.out _).mono ?_
  rintro e w9 ⟨rfl, hb9⟩
  clear hl h0 h1 h2 h3 h4 h5 hf0 hf1 hf2 hf3 hf4 hf5 cl c0 c1 c2 c3 c4 c5 cf0 cf1 cf2 cf3 cf4 cf5
  have hal : Below w8.heap.size w8 w8 := (Below.refl _ _)
  have hn : Below w8.heap.size w8 w9 := hal.trans (hb9.mono hal.size)
  have HB9 : Hid (Below w.heap.size w w9) := HB8.out.trans (hn.mono HB8.out.size)
  have Ka9 : Hid (Bf (w.heap.size) (a) w9) := Ka8.out.later hn
  have Kb9 : Hid (Bf (w.heap.size + 1) (b) w9) := Kb8.out.later hn
  have Kc9 : Hid (Bf (w.heap.size + 1 + 1) (c) w9) := Kc8.out.later hn
  have Kp9 : Hid (Pf (w.heap.size + 1 + 1 + 1) (p) w9) := Kp8.out.later hn
  have Kd9 : Hid (Bf (w.heap.size + 1 + 1 + 1 + 1) (cube2) w9) := Kd8.out.later hn
  have Km9 : Hid (Bf (w4.heap.size) (m) w9) := Km8.out.later hn
  have Kn9 : Hid (Bf (w5.heap.size) (n) w9) := Kn8.out.later hn
  have Kh9 : Hid (Bf (w7.heap.size) (h) w9) := Kh8.out.later hn
  clear hal hn hb9
  go_wp2
  all_goals
    go_ret
    exact ⟨by simp_all [HZY.out], HB9.out⟩
set_option maxHeartbeats 6400000 in
set_option maxRecDepth 100000 in
theorem met_ok_n (a b c : Bx) (p : Pt) (w : World) (hr : badL [a, b] = 0) (h1 : (moveR a p).2 = 0) (h2 : (moveR b p).2 = 0) (hc : bad1 c ≠ 0) : Calls Try.prog 5 #[bv a, bv b, bv c, pv p] w fun e w' => e = .returned (.bool true) ∧ Below w.heap.size w w' := by
  have ha := (badL2_zero.1 hr).1
  have hb := (badL2_zero.1 hr).2
  obtain ⟨x, hx⟩ : ∃ x, x = meet a b := ⟨_, rfl⟩
  have HX : Hid (meetR a b = (x, 0)) := by show _ = _; rw [hx, meetR_ok ha hb]
  have HY : Hid (meetR b a = (x, 0)) := by show _ = _; rw [hx, meetR_ok hb ha, meet_comm]
  obtain ⟨h, hh⟩ : ∃ h, h = hullB a b := ⟨_, rfl⟩
  have HH : Hid (hullR a b = (h, 0)) := by show _ = _; rw [hh, hullR_ok ha hb]
  obtain ⟨t, ht⟩ : ∃ t, t = badL [a, c] := ⟨_, rfl⟩
  have htn : ¬ badL [a, c] = 0 := fun e => hc (badL2_zero.1 e).2
  have hnt : (t != 0) = true := by simp [ht, htn]
  have HZ : Hid (meetR a c = (false, t)) := by show _ = _; rw [ht]; exact if_neg htn
  clear ht htn hc
  obtain ⟨m, hm⟩ : ∃ m, m = (moveR a p).1 := ⟨_, rfl⟩
  obtain ⟨n, hn⟩ : ∃ n, n = (moveR b p).1 := ⟨_, rfl⟩
  obtain ⟨r, hr0⟩ : ∃ r : Int, r = 0 := ⟨_, rfl⟩
  obtain ⟨s, hs0⟩ : ∃ s : Int, s = 0 := ⟨_, rfl⟩
  have HM : Hid (moveR a p = (m, 0)) := by show _ = _; rw [hm, ← h1]
  have HN : Hid (moveR b p = (n, 0)) := by show _ = _; rw [hn, ← h2]
  have HK : Hid (meetR m n = (x, 0)) := by
    show _ = _
    obtain ⟨_, _, e1, g1⟩ := moveR_good HM.out
    obtain ⟨_, _, e2, g2⟩ := moveR_good HN.out
    rw [meetR_ok g1 g2, e1, e2, meet_moved, ← hx]
  clear hr ha hb hx hh hm hn hr0 hs0 h1 h2
  have HB0 : Hid (Below w.heap.size w w) := Below.refl _ _
  go_enter Try.func5, Try.ntmps5
  go_wp2_with fail
  refine (meet_r cube2 cube2 true 0 cube2_meet _).mono ?_
  rintro e w1 ⟨rfl, hb1⟩
  have hal : Below w.heap.size w (((((w.alloc (bo (a))).alloc (bo (b))).alloc (bo (c))).alloc (po (p))).alloc (bo (cube2))) := (below_grow _ (Nat.le_refl _) (below_grow _ (Nat.le_refl _) (below_grow _ (Nat.le_refl _) (below_grow _ (Nat.le_refl _) (below_grow _ (Nat.le_refl _) (Below.refl _ _) _) _) _) _) _)
  have hn : Below w.heap.size w w1 := hal.trans (hb1.mono hal.size)
  have HB1 : Hid (Below w.heap.size w w1) := HB0.out.trans (hn.mono HB0.out.size)
  have Ka1 : Hid (Bf (w.heap.size) (a) w1) := by
    have h := ((Bf.new w (a)).later (below_grow _ (Nat.le_refl _) (below_grow _ (Nat.le_refl _) (below_grow _ (Nat.le_refl _) (below_grow _ (Nat.le_refl _) (Below.refl _ _) _) _) _) _)).later hb1
    show Bf _ _ _
    simpa using h
  have Kb1 : Hid (Bf (w.heap.size + 1) (b) w1) := by
    have h := ((Bf.new (w.alloc (bo (a))) (b)).later (below_grow _ (Nat.le_refl _) (below_grow _ (Nat.le_refl _) (below_grow _ (Nat.le_refl _) (Below.refl _ _) _) _) _)).later hb1
    show Bf _ _ _
    simpa using h
  have Kc1 : Hid (Bf (w.heap.size + 1 + 1) (c) w1) := by
    have h := ((Bf.new ((w.alloc (bo (a))).alloc (bo (b))) (c)).later (below_grow _ (Nat.le_refl _) (below_grow _ (Nat.le_refl _) (Below.refl _ _) _) _)).later hb1
    show Bf _ _ _
    simpa using h
  have Kp1 : Hid (Pf (w.heap.size + 1 + 1 + 1) (p) w1) := by
    have h := ((Pf.new (((w.alloc (bo (a))).alloc (bo (b))).alloc (bo (c))) (p)).later (below_grow _ (Nat.le_refl _) (Below.refl _ _) _)).later hb1
    show Pf _ _ _
    simpa using h
  have Kd1 : Hid (Bf (w.heap.size + 1 + 1 + 1 + 1) (cube2) w1) := by
    have h := ((Bf.new ((((w.alloc (bo (a))).alloc (bo (b))).alloc (bo (c))).alloc (po (p))) (cube2)).later (Below.refl _ _)).later hb1
    show Bf _ _ _
    simpa using h
  clear hal hn hb1
  obtain ⟨⟨al, a0, a1, a2, a3, a4, a5⟩, af0, af1, af2, af3, af4, af5⟩ := Ka1.out
  simp only [Nat.zero_add] at a1 a2 a3 a4 a5
  obtain ⟨⟨bl, b0, b1, b2, b3, b4, b5⟩, bf0, bf1, bf2, bf3, bf4, bf5⟩ := Kb1.out
  simp only [Nat.zero_add] at b1 b2 b3 b4 b5
  go_wp2_with fail
  refine (meet_r a b x 0 HX.out _).mono ?_
  rintro e w2 ⟨rfl, hb2⟩
  clear al a0 a1 a2 a3 a4 a5 af0 af1 af2 af3 af4 af5 bl b0 b1 b2 b3 b4 b5 bf0 bf1 bf2 bf3 bf4 bf5
  have hal : Below w1.heap.size w1 w1 := (Below.refl _ _)
  have hn : Below w1.heap.size w1 w2 := hal.trans (hb2.mono hal.size)
  have HB2 : Hid (Below w.heap.size w w2) := HB1.out.trans (hn.mono HB1.out.size)
  have Ka2 : Hid (Bf (w.heap.size) (a) w2) := Ka1.out.later hn
  have Kb2 : Hid (Bf (w.heap.size + 1) (b) w2) := Kb1.out.later hn
  have Kc2 : Hid (Bf (w.heap.size + 1 + 1) (c) w2) := Kc1.out.later hn
  have Kp2 : Hid (Pf (w.heap.size + 1 + 1 + 1) (p) w2) := Kp1.out.later hn
  have Kd2 : Hid (Bf (w.heap.size + 1 + 1 + 1 + 1) (cube2) w2) := Kd1.out.later hn
  clear hal hn hb2
  obtain ⟨⟨al, a0, a1, a2, a3, a4, a5⟩, af0, af1, af2, af3, af4, af5⟩ := Ka2.out
  simp only [Nat.zero_add] at a1 a2 a3 a4 a5
  obtain ⟨⟨bl, b0, b1, b2, b3, b4, b5⟩, bf0, bf1, bf2, bf3, bf4, bf5⟩ := Kb2.out
  simp only [Nat.zero_add] at b1 b2 b3 b4 b5
  go_wp2_with fail
  refine (meet_r b a x 0 HY.out _).mono ?_
  rintro e w3 ⟨rfl, hb3⟩
  clear al a0 a1 a2 a3 a4 a5 af0 af1 af2 af3 af4 af5 bl b0 b1 b2 b3 b4 b5 bf0 bf1 bf2 bf3 bf4 bf5
  have hal : Below w2.heap.size w2 w2 := (Below.refl _ _)
  have hn : Below w2.heap.size w2 w3 := hal.trans (hb3.mono hal.size)
  have HB3 : Hid (Below w.heap.size w w3) := HB2.out.trans (hn.mono HB2.out.size)
  have Ka3 : Hid (Bf (w.heap.size) (a) w3) := Ka2.out.later hn
  have Kb3 : Hid (Bf (w.heap.size + 1) (b) w3) := Kb2.out.later hn
  have Kc3 : Hid (Bf (w.heap.size + 1 + 1) (c) w3) := Kc2.out.later hn
  have Kp3 : Hid (Pf (w.heap.size + 1 + 1 + 1) (p) w3) := Kp2.out.later hn
  have Kd3 : Hid (Bf (w.heap.size + 1 + 1 + 1 + 1) (cube2) w3) := Kd2.out.later hn
  clear hal hn hb3
  obtain ⟨⟨al, a0, a1, a2, a3, a4, a5⟩, af0, af1, af2, af3, af4, af5⟩ := Ka3.out
  simp only [Nat.zero_add] at a1 a2 a3 a4 a5
  obtain ⟨pl, p0, p1, p2⟩ := Kp3.out
  go_wp2_with fail
  refine (move_r a p m 0 HM.out _).mono ?_
  rintro e w4 ⟨rfl, hb4⟩
  clear al a0 a1 a2 a3 a4 a5 af0 af1 af2 af3 af4 af5 pl p0 p1 p2
  have hal : Below w3.heap.size w3 w3 := (Below.refl _ _)
  have hn : Below w3.heap.size w3 w4 := hal.trans (hb4.mono hal.size)
  have HB4 : Hid (Below w.heap.size w w4) := HB3.out.trans (hn.mono HB3.out.size)
  have Ka4 : Hid (Bf (w.heap.size) (a) w4) := Ka3.out.later hn
  have Kb4 : Hid (Bf (w.heap.size + 1) (b) w4) := Kb3.out.later hn
  have Kc4 : Hid (Bf (w.heap.size + 1 + 1) (c) w4) := Kc3.out.later hn
  have Kp4 : Hid (Pf (w.heap.size + 1 + 1 + 1) (p) w4) := Kp3.out.later hn
  have Kd4 : Hid (Bf (w.heap.size + 1 + 1 + 1 + 1) (cube2) w4) := Kd3.out.later hn
  clear hal hn hb4
  obtain ⟨⟨bl, b0, b1, b2, b3, b4, b5⟩, bf0, bf1, bf2, bf3, bf4, bf5⟩ := Kb4.out
  simp only [Nat.zero_add] at b1 b2 b3 b4 b5
  obtain ⟨pl, p0, p1, p2⟩ := Kp4.out
  go_wp2_with fail
  refine (move_r b p n 0 HN.out _).mono ?_
  rintro e w5 ⟨rfl, hb5⟩
  clear bl b0 b1 b2 b3 b4 b5 bf0 bf1 bf2 bf3 bf4 bf5 pl p0 p1 p2
  have hal : Below w4.heap.size w4 (w4.alloc (bo (m))) := (below_grow _ (Nat.le_refl _) (Below.refl _ _) _)
  have hn : Below w4.heap.size w4 w5 := hal.trans (hb5.mono hal.size)
  have HB5 : Hid (Below w.heap.size w w5) := HB4.out.trans (hn.mono HB4.out.size)
  have Ka5 : Hid (Bf (w.heap.size) (a) w5) := Ka4.out.later hn
  have Kb5 : Hid (Bf (w.heap.size + 1) (b) w5) := Kb4.out.later hn
  have Kc5 : Hid (Bf (w.heap.size + 1 + 1) (c) w5) := Kc4.out.later hn
  have Kp5 : Hid (Pf (w.heap.size + 1 + 1 + 1) (p) w5) := Kp4.out.later hn
  have Kd5 : Hid (Bf (w.heap.size + 1 + 1 + 1 + 1) (cube2) w5) := Kd4.out.later hn
  have Km5 : Hid (Bf (w4.heap.size) (m) w5) := by
    have h := ((Bf.new w4 (m)).later (Below.refl _ _)).later hb5
    show Bf _ _ _
    simpa using h
  clear hal hn hb5
  obtain ⟨⟨ml, m0, m1, m2, m3, m4, m5⟩, mf0, mf1, mf2, mf3, mf4, mf5⟩ := Km5.out
  simp only [Nat.zero_add] at m1 m2 m3 m4 m5
  go_wp2_with fail
  refine (meet_r m n x 0 HK.out _).mono ?_
  rintro e w6 ⟨rfl, hb6⟩
  clear ml m0 m1 m2 m3 m4 m5 mf0 mf1 mf2 mf3 mf4 mf5
  have hal : Below w5.heap.size w5 (w5.alloc (bo (n))) := (below_grow _ (Nat.le_refl _) (Below.refl _ _) _)
  have hn : Below w5.heap.size w5 w6 := hal.trans (hb6.mono hal.size)
  have HB6 : Hid (Below w.heap.size w w6) := HB5.out.trans (hn.mono HB5.out.size)
  have Ka6 : Hid (Bf (w.heap.size) (a) w6) := Ka5.out.later hn
  have Kb6 : Hid (Bf (w.heap.size + 1) (b) w6) := Kb5.out.later hn
  have Kc6 : Hid (Bf (w.heap.size + 1 + 1) (c) w6) := Kc5.out.later hn
  have Kp6 : Hid (Pf (w.heap.size + 1 + 1 + 1) (p) w6) := Kp5.out.later hn
  have Kd6 : Hid (Bf (w.heap.size + 1 + 1 + 1 + 1) (cube2) w6) := Kd5.out.later hn
  have Km6 : Hid (Bf (w4.heap.size) (m) w6) := Km5.out.later hn
  have Kn6 : Hid (Bf (w5.heap.size) (n) w6) := by
    have h := ((Bf.new w5 (n)).later (Below.refl _ _)).later hb6
    show Bf _ _ _
    simpa using h
  clear hal hn hb6
  obtain ⟨⟨al, a0, a1, a2, a3, a4, a5⟩, af0, af1, af2, af3, af4, af5⟩ := Ka6.out
  simp only [Nat.zero_add] at a1 a2 a3 a4 a5
  obtain ⟨⟨bl, b0, b1, b2, b3, b4, b5⟩, bf0, bf1, bf2, bf3, bf4, bf5⟩ := Kb6.out
  simp only [Nat.zero_add] at b1 b2 b3 b4 b5
  go_wp2_with fail
  refine (fhull_r a b h 0 HH.out _).mono ?_
  rintro e w7 ⟨rfl, hb7⟩
  clear al a0 a1 a2 a3 a4 a5 af0 af1 af2 af3 af4 af5 bl b0 b1 b2 b3 b4 b5 bf0 bf1 bf2 bf3 bf4 bf5
  have hal : Below w6.heap.size w6 w6 := (Below.refl _ _)
  have hn : Below w6.heap.size w6 w7 := hal.trans (hb7.mono hal.size)
  have HB7 : Hid (Below w.heap.size w w7) := HB6.out.trans (hn.mono HB6.out.size)
  have Ka7 : Hid (Bf (w.heap.size) (a) w7) := Ka6.out.later hn
  have Kb7 : Hid (Bf (w.heap.size + 1) (b) w7) := Kb6.out.later hn
  have Kc7 : Hid (Bf (w.heap.size + 1 + 1) (c) w7) := Kc6.out.later hn
  have Kp7 : Hid (Pf (w.heap.size + 1 + 1 + 1) (p) w7) := Kp6.out.later hn
  have Kd7 : Hid (Bf (w.heap.size + 1 + 1 + 1 + 1) (cube2) w7) := Kd6.out.later hn
  have Km7 : Hid (Bf (w4.heap.size) (m) w7) := Km6.out.later hn
  have Kn7 : Hid (Bf (w5.heap.size) (n) w7) := Kn6.out.later hn
  clear hal hn hb7
  obtain ⟨⟨al, a0, a1, a2, a3, a4, a5⟩, af0, af1, af2, af3, af4, af5⟩ := Ka7.out
  simp only [Nat.zero_add] at a1 a2 a3 a4 a5
  obtain ⟨⟨cl, c0, c1, c2, c3, c4, c5⟩, cf0, cf1, cf2, cf3, cf4, cf5⟩ := Kc7.out
  simp only [Nat.zero_add] at c1 c2 c3 c4 c5
  go_wp2_with fail
  refine (meet_r a c false t HZ.out _).mono ?_
  rintro e w8 ⟨rfl, hb8⟩
  clear al a0 a1 a2 a3 a4 a5 af0 af1 af2 af3 af4 af5 cl c0 c1 c2 c3 c4 c5 cf0 cf1 cf2 cf3 cf4 cf5
  have hal : Below w7.heap.size w7 (w7.alloc (bo (h))) := (below_grow _ (Nat.le_refl _) (Below.refl _ _) _)
  have hn : Below w7.heap.size w7 w8 := hal.trans (hb8.mono hal.size)
  have HB8 : Hid (Below w.heap.size w w8) := HB7.out.trans (hn.mono HB7.out.size)
  have Ka8 : Hid (Bf (w.heap.size) (a) w8) := Ka7.out.later hn
  have Kb8 : Hid (Bf (w.heap.size + 1) (b) w8) := Kb7.out.later hn
  have Kc8 : Hid (Bf (w.heap.size + 1 + 1) (c) w8) := Kc7.out.later hn
  have Kp8 : Hid (Pf (w.heap.size + 1 + 1 + 1) (p) w8) := Kp7.out.later hn
  have Kd8 : Hid (Bf (w.heap.size + 1 + 1 + 1 + 1) (cube2) w8) := Kd7.out.later hn
  have Km8 : Hid (Bf (w4.heap.size) (m) w8) := Km7.out.later hn
  have Kn8 : Hid (Bf (w5.heap.size) (n) w8) := Kn7.out.later hn
  have Kh8 : Hid (Bf (w7.heap.size) (h) w8) := by
    have h := ((Bf.new w7 (h)).later (Below.refl _ _)).later hb8
    show Bf _ _ _
    simpa using h
  clear hal hn hb8
  go_wp2
  go_ret
  exact ⟨by simp, HB8.out⟩
set_option maxHeartbeats 6400000 in
set_option maxRecDepth 100000 in
theorem met_no_c (a b c : Bx) (p : Pt) (w : World) (hr : badL [a, b] = 0) (h1 : ¬ ((moveR a p).2 = 0 ∧ (moveR b p).2 = 0)) (hc : bad1 c = 0) : Calls Try.prog 5 #[bv a, bv b, bv c, pv p] w fun e w' => e = .returned (.bool true) ∧ Below w.heap.size w w' := by
  have ha := (badL2_zero.1 hr).1
  have hb := (badL2_zero.1 hr).2
  obtain ⟨x, hx⟩ : ∃ x, x = meet a b := ⟨_, rfl⟩
  have HX : Hid (meetR a b = (x, 0)) := by show _ = _; rw [hx, meetR_ok ha hb]
  have HY : Hid (meetR b a = (x, 0)) := by show _ = _; rw [hx, meetR_ok hb ha, meet_comm]
  obtain ⟨h, hh⟩ : ∃ h, h = hullB a b := ⟨_, rfl⟩
  have HH : Hid (hullR a b = (h, 0)) := by show _ = _; rw [hh, hullR_ok ha hb]
  obtain ⟨z, hz⟩ : ∃ z, z = meet a c := ⟨_, rfl⟩
  obtain ⟨y, hy⟩ : ∃ y, y = meet h c := ⟨_, rfl⟩
  have HZ : Hid (meetR a c = (z, 0)) := by show _ = _; rw [hz, meetR_ok ha hc]
  have HV : Hid (meetR h c = (y, 0)) := by show _ = _; rw [hy, meetR_ok (by rw [hh]; exact hull_good ha hb) hc]
  have HZY : Hid (z = true → y = true) := fun e => by rw [hy, hh]; exact meet_hull (by rw [← hz]; exact e)
  clear hz hy hc
  obtain ⟨⟨m, r⟩, hm⟩ : ∃ m, m = moveR a p := ⟨_, rfl⟩
  obtain ⟨⟨n, s⟩, hn⟩ : ∃ n, n = moveR b p := ⟨_, rfl⟩
  have HM : Hid (moveR a p = (m, r)) := hm.symm
  have HN : Hid (moveR b p = (n, s)) := hn.symm
  have hrs : r = 0 → s ≠ 0 := fun e1 e2 => h1 ⟨by rw [← hm]; exact e1, by rw [← hn]; exact e2⟩
  clear hr ha hb hx hh hm hn h1
  by_cases hr0 : r = 0
  · have d1 : (r == 0) = true := by simp [hr0]
    have d2 : (s == 0) = false := by simp [hrs hr0]
    clear hr0 hrs
    have HB0 : Hid (Below w.heap.size w w) := Below.refl _ _
    go_enter Try.func5, Try.ntmps5
    go_wp2_with fail
    refine (meet_r cube2 cube2 true 0 cube2_meet _).mono ?_
    rintro e w1 ⟨rfl, hb1⟩
    have hal : Below w.heap.size w (((((w.alloc (bo (a))).alloc (bo (b))).alloc (bo (c))).alloc (po (p))).alloc (bo (cube2))) := (below_grow _ (Nat.le_refl _) (below_grow _ (Nat.le_refl _) (below_grow _ (Nat.le_refl _) (below_grow _ (Nat.le_refl _) (below_grow _ (Nat.le_refl _) (Below.refl _ _) _) _) _) _) _)
    have hn : Below w.heap.size w w1 := hal.trans (hb1.mono hal.size)
    have HB1 : Hid (Below w.heap.size w w1) := HB0.out.trans (hn.mono HB0.out.size)
    have Ka1 : Hid (Bf (w.heap.size) (a) w1) := by
      have h := ((Bf.new w (a)).later (below_grow _ (Nat.le_refl _) (below_grow _ (Nat.le_refl _) (below_grow _ (Nat.le_refl _) (below_grow _ (Nat.le_refl _) (Below.refl _ _) _) _) _) _)).later hb1
      show Bf _ _ _
      simpa using h
    have Kb1 : Hid (Bf (w.heap.size + 1) (b) w1) := by
      have h := ((Bf.new (w.alloc (bo (a))) (b)).later (below_grow _ (Nat.le_refl _) (below_grow _ (Nat.le_refl _) (below_grow _ (Nat.le_refl _) (Below.refl _ _) _) _) _)).later hb1
      show Bf _ _ _
      simpa using h
    have Kc1 : Hid (Bf (w.heap.size + 1 + 1) (c) w1) := by
      have h := ((Bf.new ((w.alloc (bo (a))).alloc (bo (b))) (c)).later (below_grow _ (Nat.le_refl _) (below_grow _ (Nat.le_refl _) (Below.refl _ _) _) _)).later hb1
      show Bf _ _ _
      simpa using h
    have Kp1 : Hid (Pf (w.heap.size + 1 + 1 + 1) (p) w1) := by
      have h := ((Pf.new (((w.alloc (bo (a))).alloc (bo (b))).alloc (bo (c))) (p)).later (below_grow _ (Nat.le_refl _) (Below.refl _ _) _)).later hb1
      show Pf _ _ _
      simpa using h
    have Kd1 : Hid (Bf (w.heap.size + 1 + 1 + 1 + 1) (cube2) w1) := by
      have h := ((Bf.new ((((w.alloc (bo (a))).alloc (bo (b))).alloc (bo (c))).alloc (po (p))) (cube2)).later (Below.refl _ _)).later hb1
      show Bf _ _ _
      simpa using h
    clear hal hn hb1
    obtain ⟨⟨al, a0, a1, a2, a3, a4, a5⟩, af0, af1, af2, af3, af4, af5⟩ := Ka1.out
    simp only [Nat.zero_add] at a1 a2 a3 a4 a5
    obtain ⟨⟨bl, b0, b1, b2, b3, b4, b5⟩, bf0, bf1, bf2, bf3, bf4, bf5⟩ := Kb1.out
    simp only [Nat.zero_add] at b1 b2 b3 b4 b5
    go_wp2_with fail
    refine (meet_r a b x 0 HX.out _).mono ?_
    rintro e w2 ⟨rfl, hb2⟩
    clear al a0 a1 a2 a3 a4 a5 af0 af1 af2 af3 af4 af5 bl b0 b1 b2 b3 b4 b5 bf0 bf1 bf2 bf3 bf4 bf5
    have hal : Below w1.heap.size w1 w1 := (Below.refl _ _)
    have hn : Below w1.heap.size w1 w2 := hal.trans (hb2.mono hal.size)
    have HB2 : Hid (Below w.heap.size w w2) := HB1.out.trans (hn.mono HB1.out.size)
    have Ka2 : Hid (Bf (w.heap.size) (a) w2) := Ka1.out.later hn
    have Kb2 : Hid (Bf (w.heap.size + 1) (b) w2) := Kb1.out.later hn
    have Kc2 : Hid (Bf (w.heap.size + 1 + 1) (c) w2) := Kc1.out.later hn
    have Kp2 : Hid (Pf (w.heap.size + 1 + 1 + 1) (p) w2) := Kp1.out.later hn
    have Kd2 : Hid (Bf (w.heap.size + 1 + 1 + 1 + 1) (cube2) w2) := Kd1.out.later hn
    clear hal hn hb2
    obtain ⟨⟨al, a0, a1, a2, a3, a4, a5⟩, af0, af1, af2, af3, af4, af5⟩ := Ka2.out
    simp only [Nat.zero_add] at a1 a2 a3 a4 a5
    obtain ⟨⟨bl, b0, b1, b2, b3, b4, b5⟩, bf0, bf1, bf2, bf3, bf4, bf5⟩ := Kb2.out
    simp only [Nat.zero_add] at b1 b2 b3 b4 b5
    go_wp2_with fail
    refine (meet_r b a x 0 HY.out _).mono ?_
    rintro e w3 ⟨rfl, hb3⟩
    clear al a0 a1 a2 a3 a4 a5 af0 af1 af2 af3 af4 af5 bl b0 b1 b2 b3 b4 b5 bf0 bf1 bf2 bf3 bf4 bf5
    have hal : Below w2.heap.size w2 w2 := (Below.refl _ _)
    have hn : Below w2.heap.size w2 w3 := hal.trans (hb3.mono hal.size)
    have HB3 : Hid (Below w.heap.size w w3) := HB2.out.trans (hn.mono HB2.out.size)
    have Ka3 : Hid (Bf (w.heap.size) (a) w3) := Ka2.out.later hn
    have Kb3 : Hid (Bf (w.heap.size + 1) (b) w3) := Kb2.out.later hn
    have Kc3 : Hid (Bf (w.heap.size + 1 + 1) (c) w3) := Kc2.out.later hn
    have Kp3 : Hid (Pf (w.heap.size + 1 + 1 + 1) (p) w3) := Kp2.out.later hn
    have Kd3 : Hid (Bf (w.heap.size + 1 + 1 + 1 + 1) (cube2) w3) := Kd2.out.later hn
    clear hal hn hb3
    obtain ⟨⟨al, a0, a1, a2, a3, a4, a5⟩, af0, af1, af2, af3, af4, af5⟩ := Ka3.out
    simp only [Nat.zero_add] at a1 a2 a3 a4 a5
    obtain ⟨pl, p0, p1, p2⟩ := Kp3.out
    go_wp2_with fail
    refine (move_r a p m r HM.out _).mono ?_
    rintro e w4 ⟨rfl, hb4⟩
    clear al a0 a1 a2 a3 a4 a5 af0 af1 af2 af3 af4 af5 pl p0 p1 p2
    have hal : Below w3.heap.size w3 w3 := (Below.refl _ _)
    have hn : Below w3.heap.size w3 w4 := hal.trans (hb4.mono hal.size)
    have HB4 : Hid (Below w.heap.size w w4) := HB3.out.trans (hn.mono HB3.out.size)
    have Ka4 : Hid (Bf (w.heap.size) (a) w4) := Ka3.out.later hn
    have Kb4 : Hid (Bf (w.heap.size + 1) (b) w4) := Kb3.out.later hn
    have Kc4 : Hid (Bf (w.heap.size + 1 + 1) (c) w4) := Kc3.out.later hn
    have Kp4 : Hid (Pf (w.heap.size + 1 + 1 + 1) (p) w4) := Kp3.out.later hn
    have Kd4 : Hid (Bf (w.heap.size + 1 + 1 + 1 + 1) (cube2) w4) := Kd3.out.later hn
    clear hal hn hb4
    obtain ⟨⟨bl, b0, b1, b2, b3, b4, b5⟩, bf0, bf1, bf2, bf3, bf4, bf5⟩ := Kb4.out
    simp only [Nat.zero_add] at b1 b2 b3 b4 b5
    obtain ⟨pl, p0, p1, p2⟩ := Kp4.out
    go_wp2_with fail
    refine (move_r b p n s HN.out _).mono ?_
    rintro e w5 ⟨rfl, hb5⟩
    clear bl b0 b1 b2 b3 b4 b5 bf0 bf1 bf2 bf3 bf4 bf5 pl p0 p1 p2
    have hal : Below w4.heap.size w4 (w4.alloc (bo (m))) := (below_grow _ (Nat.le_refl _) (Below.refl _ _) _)
    have hn : Below w4.heap.size w4 w5 := hal.trans (hb5.mono hal.size)
    have HB5 : Hid (Below w.heap.size w w5) := HB4.out.trans (hn.mono HB4.out.size)
    have Ka5 : Hid (Bf (w.heap.size) (a) w5) := Ka4.out.later hn
    have Kb5 : Hid (Bf (w.heap.size + 1) (b) w5) := Kb4.out.later hn
    have Kc5 : Hid (Bf (w.heap.size + 1 + 1) (c) w5) := Kc4.out.later hn
    have Kp5 : Hid (Pf (w.heap.size + 1 + 1 + 1) (p) w5) := Kp4.out.later hn
    have Kd5 : Hid (Bf (w.heap.size + 1 + 1 + 1 + 1) (cube2) w5) := Kd4.out.later hn
    have Km5 : Hid (Bf (w4.heap.size) (m) w5) := by
      have h := ((Bf.new w4 (m)).later (Below.refl _ _)).later hb5
      show Bf _ _ _
      simpa using h
    clear hal hn hb5
    obtain ⟨⟨al, a0, a1, a2, a3, a4, a5⟩, af0, af1, af2, af3, af4, af5⟩ := Ka5.out
    simp only [Nat.zero_add] at a1 a2 a3 a4 a5
    obtain ⟨⟨bl, b0, b1, b2, b3, b4, b5⟩, bf0, bf1, bf2, bf3, bf4, bf5⟩ := Kb5.out
    simp only [Nat.zero_add] at b1 b2 b3 b4 b5
    go_wp2_with fail
    refine (fhull_r a b h 0 HH.out _).mono ?_
    rintro e w6 ⟨rfl, hb6⟩
    clear al a0 a1 a2 a3 a4 a5 af0 af1 af2 af3 af4 af5 bl b0 b1 b2 b3 b4 b5 bf0 bf1 bf2 bf3 bf4 bf5
    have hal : Below w5.heap.size w5 (w5.alloc (bo (n))) := (below_grow _ (Nat.le_refl _) (Below.refl _ _) _)
    have hn : Below w5.heap.size w5 w6 := hal.trans (hb6.mono hal.size)
    have HB6 : Hid (Below w.heap.size w w6) := HB5.out.trans (hn.mono HB5.out.size)
    have Ka6 : Hid (Bf (w.heap.size) (a) w6) := Ka5.out.later hn
    have Kb6 : Hid (Bf (w.heap.size + 1) (b) w6) := Kb5.out.later hn
    have Kc6 : Hid (Bf (w.heap.size + 1 + 1) (c) w6) := Kc5.out.later hn
    have Kp6 : Hid (Pf (w.heap.size + 1 + 1 + 1) (p) w6) := Kp5.out.later hn
    have Kd6 : Hid (Bf (w.heap.size + 1 + 1 + 1 + 1) (cube2) w6) := Kd5.out.later hn
    have Km6 : Hid (Bf (w4.heap.size) (m) w6) := Km5.out.later hn
    have Kn6 : Hid (Bf (w5.heap.size) (n) w6) := by
      have h := ((Bf.new w5 (n)).later (Below.refl _ _)).later hb6
      show Bf _ _ _
      simpa using h
    clear hal hn hb6
    obtain ⟨⟨al, a0, a1, a2, a3, a4, a5⟩, af0, af1, af2, af3, af4, af5⟩ := Ka6.out
    simp only [Nat.zero_add] at a1 a2 a3 a4 a5
    obtain ⟨⟨cl, c0, c1, c2, c3, c4, c5⟩, cf0, cf1, cf2, cf3, cf4, cf5⟩ := Kc6.out
    simp only [Nat.zero_add] at c1 c2 c3 c4 c5
    go_wp2_with fail
    refine (meet_r a c z 0 HZ.out _).mono ?_
    rintro e w7 ⟨rfl, hb7⟩
    clear al a0 a1 a2 a3 a4 a5 af0 af1 af2 af3 af4 af5 cl c0 c1 c2 c3 c4 c5 cf0 cf1 cf2 cf3 cf4 cf5
    have hal : Below w6.heap.size w6 (w6.alloc (bo (h))) := (below_grow _ (Nat.le_refl _) (Below.refl _ _) _)
    have hn : Below w6.heap.size w6 w7 := hal.trans (hb7.mono hal.size)
    have HB7 : Hid (Below w.heap.size w w7) := HB6.out.trans (hn.mono HB6.out.size)
    have Ka7 : Hid (Bf (w.heap.size) (a) w7) := Ka6.out.later hn
    have Kb7 : Hid (Bf (w.heap.size + 1) (b) w7) := Kb6.out.later hn
    have Kc7 : Hid (Bf (w.heap.size + 1 + 1) (c) w7) := Kc6.out.later hn
    have Kp7 : Hid (Pf (w.heap.size + 1 + 1 + 1) (p) w7) := Kp6.out.later hn
    have Kd7 : Hid (Bf (w.heap.size + 1 + 1 + 1 + 1) (cube2) w7) := Kd6.out.later hn
    have Km7 : Hid (Bf (w4.heap.size) (m) w7) := Km6.out.later hn
    have Kn7 : Hid (Bf (w5.heap.size) (n) w7) := Kn6.out.later hn
    have Kh7 : Hid (Bf (w6.heap.size) (h) w7) := by
      have h := ((Bf.new w6 (h)).later (Below.refl _ _)).later hb7
      show Bf _ _ _
      simpa using h
    clear hal hn hb7
    obtain ⟨⟨hl, h0, h1, h2, h3, h4, h5⟩, hf0, hf1, hf2, hf3, hf4, hf5⟩ := Kh7.out
    simp only [Nat.zero_add] at h1 h2 h3 h4 h5
    obtain ⟨⟨cl, c0, c1, c2, c3, c4, c5⟩, cf0, cf1, cf2, cf3, cf4, cf5⟩ := Kc7.out
    simp only [Nat.zero_add] at c1 c2 c3 c4 c5
    go_wp2_with fail
    refine (meet_r h c y 0 HV.out _).mono ?_
    rintro e w8 ⟨rfl, hb8⟩
    clear hl h0 h1 h2 h3 h4 h5 hf0 hf1 hf2 hf3 hf4 hf5 cl c0 c1 c2 c3 c4 c5 cf0 cf1 cf2 cf3 cf4 cf5
    have hal : Below w7.heap.size w7 w7 := (Below.refl _ _)
    have hn : Below w7.heap.size w7 w8 := hal.trans (hb8.mono hal.size)
    have HB8 : Hid (Below w.heap.size w w8) := HB7.out.trans (hn.mono HB7.out.size)
    have Ka8 : Hid (Bf (w.heap.size) (a) w8) := Ka7.out.later hn
    have Kb8 : Hid (Bf (w.heap.size + 1) (b) w8) := Kb7.out.later hn
    have Kc8 : Hid (Bf (w.heap.size + 1 + 1) (c) w8) := Kc7.out.later hn
    have Kp8 : Hid (Pf (w.heap.size + 1 + 1 + 1) (p) w8) := Kp7.out.later hn
    have Kd8 : Hid (Bf (w.heap.size + 1 + 1 + 1 + 1) (cube2) w8) := Kd7.out.later hn
    have Km8 : Hid (Bf (w4.heap.size) (m) w8) := Km7.out.later hn
    have Kn8 : Hid (Bf (w5.heap.size) (n) w8) := Kn7.out.later hn
    have Kh8 : Hid (Bf (w6.heap.size) (h) w8) := Kh7.out.later hn
    clear hal hn hb8
    go_wp2
    all_goals
      go_ret
      exact ⟨by simp_all [HZY.out], HB8.out⟩
  · have d1 : (r == 0) = false := by simp [hr0]
    clear hr0 hrs
    have HB0 : Hid (Below w.heap.size w w) := Below.refl _ _
    go_enter Try.func5, Try.ntmps5
    go_wp2_with fail
    refine (meet_r cube2 cube2 true 0 cube2_meet _).mono ?_
    rintro e w1 ⟨rfl, hb1⟩
    have hal : Below w.heap.size w (((((w.alloc (bo (a))).alloc (bo (b))).alloc (bo (c))).alloc (po (p))).alloc (bo (cube2))) := (below_grow _ (Nat.le_refl _) (below_grow _ (Nat.le_refl _) (below_grow _ (Nat.le_refl _) (below_grow _ (Nat.le_refl _) (below_grow _ (Nat.le_refl _) (Below.refl _ _) _) _) _) _) _)
    have hn : Below w.heap.size w w1 := hal.trans (hb1.mono hal.size)
    have HB1 : Hid (Below w.heap.size w w1) := HB0.out.trans (hn.mono HB0.out.size)
    have Ka1 : Hid (Bf (w.heap.size) (a) w1) := by
      have h := ((Bf.new w (a)).later (below_grow _ (Nat.le_refl _) (below_grow _ (Nat.le_refl _) (below_grow _ (Nat.le_refl _) (below_grow _ (Nat.le_refl _) (Below.refl _ _) _) _) _) _)).later hb1
      show Bf _ _ _
      simpa using h
    have Kb1 : Hid (Bf (w.heap.size + 1) (b) w1) := by
      have h := ((Bf.new (w.alloc (bo (a))) (b)).later (below_grow _ (Nat.le_refl _) (below_grow _ (Nat.le_refl _) (below_grow _ (Nat.le_refl _) (Below.refl _ _) _) _) _)).later hb1
      show Bf _ _ _
      simpa using h
    have Kc1 : Hid (Bf (w.heap.size + 1 + 1) (c) w1) := by
      have h := ((Bf.new ((w.alloc (bo (a))).alloc (bo (b))) (c)).later (below_grow _ (Nat.le_refl _) (below_grow _ (Nat.le_refl _) (Below.refl _ _) _) _)).later hb1
      show Bf _ _ _
      simpa using h
    have Kp1 : Hid (Pf (w.heap.size + 1 + 1 + 1) (p) w1) := by
      have h := ((Pf.new (((w.alloc (bo (a))).alloc (bo (b))).alloc (bo (c))) (p)).later (below_grow _ (Nat.le_refl _) (Below.refl _ _) _)).later hb1
      show Pf _ _ _
      simpa using h
    have Kd1 : Hid (Bf (w.heap.size + 1 + 1 + 1 + 1) (cube2) w1) := by
      have h := ((Bf.new ((((w.alloc (bo (a))).alloc (bo (b))).alloc (bo (c))).alloc (po (p))) (cube2)).later (Below.refl _ _)).later hb1
      show Bf _ _ _
      simpa using h
    clear hal hn hb1
    obtain ⟨⟨al, a0, a1, a2, a3, a4, a5⟩, af0, af1, af2, af3, af4, af5⟩ := Ka1.out
    simp only [Nat.zero_add] at a1 a2 a3 a4 a5
    obtain ⟨⟨bl, b0, b1, b2, b3, b4, b5⟩, bf0, bf1, bf2, bf3, bf4, bf5⟩ := Kb1.out
    simp only [Nat.zero_add] at b1 b2 b3 b4 b5
    go_wp2_with fail
    refine (meet_r a b x 0 HX.out _).mono ?_
    rintro e w2 ⟨rfl, hb2⟩
    clear al a0 a1 a2 a3 a4 a5 af0 af1 af2 af3 af4 af5 bl b0 b1 b2 b3 b4 b5 bf0 bf1 bf2 bf3 bf4 bf5
    have hal : Below w1.heap.size w1 w1 := (Below.refl _ _)
    have hn : Below w1.heap.size w1 w2 := hal.trans (hb2.mono hal.size)
    have HB2 : Hid (Below w.heap.size w w2) := HB1.out.trans (hn.mono HB1.out.size)
    have Ka2 : Hid (Bf (w.heap.size) (a) w2) := Ka1.out.later hn
    have Kb2 : Hid (Bf (w.heap.size + 1) (b) w2) := Kb1.out.later hn
    have Kc2 : Hid (Bf (w.heap.size + 1 + 1) (c) w2) := Kc1.out.later hn
    have Kp2 : Hid (Pf (w.heap.size + 1 + 1 + 1) (p) w2) := Kp1.out.later hn
    have Kd2 : Hid (Bf (w.heap.size + 1 + 1 + 1 + 1) (cube2) w2) := Kd1.out.later hn
    clear hal hn hb2
    obtain ⟨⟨al, a0, a1, a2, a3, a4, a5⟩, af0, af1, af2, af3, af4, af5⟩ := Ka2.out
    simp only [Nat.zero_add] at a1 a2 a3 a4 a5
    obtain ⟨⟨bl, b0, b1, b2, b3, b4, b5⟩, bf0, bf1, bf2, bf3, bf4, bf5⟩ := Kb2.out
    simp only [Nat.zero_add] at b1 b2 b3 b4 b5
    go_wp2_with fail
    refine (meet_r b a x 0 HY.out _).mono ?_
    rintro e w3 ⟨rfl, hb3⟩
    clear al a0 a1 a2 a3 a4 a5 af0 af1 af2 af3 af4 af5 bl b0 b1 b2 b3 b4 b5 bf0 bf1 bf2 bf3 bf4 bf5
    have hal : Below w2.heap.size w2 w2 := (Below.refl _ _)
    have hn : Below w2.heap.size w2 w3 := hal.trans (hb3.mono hal.size)
    have HB3 : Hid (Below w.heap.size w w3) := HB2.out.trans (hn.mono HB2.out.size)
    have Ka3 : Hid (Bf (w.heap.size) (a) w3) := Ka2.out.later hn
    have Kb3 : Hid (Bf (w.heap.size + 1) (b) w3) := Kb2.out.later hn
    have Kc3 : Hid (Bf (w.heap.size + 1 + 1) (c) w3) := Kc2.out.later hn
    have Kp3 : Hid (Pf (w.heap.size + 1 + 1 + 1) (p) w3) := Kp2.out.later hn
    have Kd3 : Hid (Bf (w.heap.size + 1 + 1 + 1 + 1) (cube2) w3) := Kd2.out.later hn
    clear hal hn hb3
    obtain ⟨⟨al, a0, a1, a2, a3, a4, a5⟩, af0, af1, af2, af3, af4, af5⟩ := Ka3.out
    simp only [Nat.zero_add] at a1 a2 a3 a4 a5
    obtain ⟨pl, p0, p1, p2⟩ := Kp3.out
    go_wp2_with fail
    refine (move_r a p m r HM.out _).mono ?_
    rintro e w4 ⟨rfl, hb4⟩
    clear al a0 a1 a2 a3 a4 a5 af0 af1 af2 af3 af4 af5 pl p0 p1 p2
    have hal : Below w3.heap.size w3 w3 := (Below.refl _ _)
    have hn : Below w3.heap.size w3 w4 := hal.trans (hb4.mono hal.size)
    have HB4 : Hid (Below w.heap.size w w4) := HB3.out.trans (hn.mono HB3.out.size)
    have Ka4 : Hid (Bf (w.heap.size) (a) w4) := Ka3.out.later hn
    have Kb4 : Hid (Bf (w.heap.size + 1) (b) w4) := Kb3.out.later hn
    have Kc4 : Hid (Bf (w.heap.size + 1 + 1) (c) w4) := Kc3.out.later hn
    have Kp4 : Hid (Pf (w.heap.size + 1 + 1 + 1) (p) w4) := Kp3.out.later hn
    have Kd4 : Hid (Bf (w.heap.size + 1 + 1 + 1 + 1) (cube2) w4) := Kd3.out.later hn
    clear hal hn hb4
    obtain ⟨⟨bl, b0, b1, b2, b3, b4, b5⟩, bf0, bf1, bf2, bf3, bf4, bf5⟩ := Kb4.out
    simp only [Nat.zero_add] at b1 b2 b3 b4 b5
    obtain ⟨pl, p0, p1, p2⟩ := Kp4.out
    go_wp2_with fail
    refine (move_r b p n s HN.out _).mono ?_
    rintro e w5 ⟨rfl, hb5⟩
    clear bl b0 b1 b2 b3 b4 b5 bf0 bf1 bf2 bf3 bf4 bf5 pl p0 p1 p2
    have hal : Below w4.heap.size w4 (w4.alloc (bo (m))) := (below_grow _ (Nat.le_refl _) (Below.refl _ _) _)
    have hn : Below w4.heap.size w4 w5 := hal.trans (hb5.mono hal.size)
    have HB5 : Hid (Below w.heap.size w w5) := HB4.out.trans (hn.mono HB4.out.size)
    have Ka5 : Hid (Bf (w.heap.size) (a) w5) := Ka4.out.later hn
    have Kb5 : Hid (Bf (w.heap.size + 1) (b) w5) := Kb4.out.later hn
    have Kc5 : Hid (Bf (w.heap.size + 1 + 1) (c) w5) := Kc4.out.later hn
    have Kp5 : Hid (Pf (w.heap.size + 1 + 1 + 1) (p) w5) := Kp4.out.later hn
    have Kd5 : Hid (Bf (w.heap.size + 1 + 1 + 1 + 1) (cube2) w5) := Kd4.out.later hn
    have Km5 : Hid (Bf (w4.heap.size) (m) w5) := by
      have h := ((Bf.new w4 (m)).later (Below.refl _ _)).later hb5
      show Bf _ _ _
      simpa using h
    clear hal hn hb5
    obtain ⟨⟨al, a0, a1, a2, a3, a4, a5⟩, af0, af1, af2, af3, af4, af5⟩ := Ka5.out
    simp only [Nat.zero_add] at a1 a2 a3 a4 a5
    obtain ⟨⟨bl, b0, b1, b2, b3, b4, b5⟩, bf0, bf1, bf2, bf3, bf4, bf5⟩ := Kb5.out
    simp only [Nat.zero_add] at b1 b2 b3 b4 b5
    go_wp2_with fail
    refine (fhull_r a b h 0 HH.out _).mono ?_
    rintro e w6 ⟨rfl, hb6⟩
    clear al a0 a1 a2 a3 a4 a5 af0 af1 af2 af3 af4 af5 bl b0 b1 b2 b3 b4 b5 bf0 bf1 bf2 bf3 bf4 bf5
    have hal : Below w5.heap.size w5 (w5.alloc (bo (n))) := (below_grow _ (Nat.le_refl _) (Below.refl _ _) _)
    have hn : Below w5.heap.size w5 w6 := hal.trans (hb6.mono hal.size)
    have HB6 : Hid (Below w.heap.size w w6) := HB5.out.trans (hn.mono HB5.out.size)
    have Ka6 : Hid (Bf (w.heap.size) (a) w6) := Ka5.out.later hn
    have Kb6 : Hid (Bf (w.heap.size + 1) (b) w6) := Kb5.out.later hn
    have Kc6 : Hid (Bf (w.heap.size + 1 + 1) (c) w6) := Kc5.out.later hn
    have Kp6 : Hid (Pf (w.heap.size + 1 + 1 + 1) (p) w6) := Kp5.out.later hn
    have Kd6 : Hid (Bf (w.heap.size + 1 + 1 + 1 + 1) (cube2) w6) := Kd5.out.later hn
    have Km6 : Hid (Bf (w4.heap.size) (m) w6) := Km5.out.later hn
    have Kn6 : Hid (Bf (w5.heap.size) (n) w6) := by
      have h := ((Bf.new w5 (n)).later (Below.refl _ _)).later hb6
      show Bf _ _ _
      simpa using h
    clear hal hn hb6
    obtain ⟨⟨al, a0, a1, a2, a3, a4, a5⟩, af0, af1, af2, af3, af4, af5⟩ := Ka6.out
    simp only [Nat.zero_add] at a1 a2 a3 a4 a5
    obtain ⟨⟨cl, c0, c1, c2, c3, c4, c5⟩, cf0, cf1, cf2, cf3, cf4, cf5⟩ := Kc6.out
    simp only [Nat.zero_add] at c1 c2 c3 c4 c5
    go_wp2_with fail
    refine (meet_r a c z 0 HZ.out _).mono ?_
    rintro e w7 ⟨rfl, hb7⟩
    clear al a0 a1 a2 a3 a4 a5 af0 af1 af2 af3 af4 af5 cl c0 c1 c2 c3 c4 c5 cf0 cf1 cf2 cf3 cf4 cf5
    have hal : Below w6.heap.size w6 (w6.alloc (bo (h))) := (below_grow _ (Nat.le_refl _) (Below.refl _ _) _)
    have hn : Below w6.heap.size w6 w7 := hal.trans (hb7.mono hal.size)
    have HB7 : Hid (Below w.heap.size w w7) := HB6.out.trans (hn.mono HB6.out.size)
    have Ka7 : Hid (Bf (w.heap.size) (a) w7) := Ka6.out.later hn
    have Kb7 : Hid (Bf (w.heap.size + 1) (b) w7) := Kb6.out.later hn
    have Kc7 : Hid (Bf (w.heap.size + 1 + 1) (c) w7) := Kc6.out.later hn
    have Kp7 : Hid (Pf (w.heap.size + 1 + 1 + 1) (p) w7) := Kp6.out.later hn
    have Kd7 : Hid (Bf (w.heap.size + 1 + 1 + 1 + 1) (cube2) w7) := Kd6.out.later hn
    have Km7 : Hid (Bf (w4.heap.size) (m) w7) := Km6.out.later hn
    have Kn7 : Hid (Bf (w5.heap.size) (n) w7) := Kn6.out.later hn
    have Kh7 : Hid (Bf (w6.heap.size) (h) w7) := by
      have h := ((Bf.new w6 (h)).later (Below.refl _ _)).later hb7
      show Bf _ _ _
      simpa using h
    clear hal hn hb7
    obtain ⟨⟨hl, h0, h1, h2, h3, h4, h5⟩, hf0, hf1, hf2, hf3, hf4, hf5⟩ := Kh7.out
    simp only [Nat.zero_add] at h1 h2 h3 h4 h5
    obtain ⟨⟨cl, c0, c1, c2, c3, c4, c5⟩, cf0, cf1, cf2, cf3, cf4, cf5⟩ := Kc7.out
    simp only [Nat.zero_add] at c1 c2 c3 c4 c5
    go_wp2_with fail
    refine (meet_r h c y 0 HV.out _).mono ?_
    rintro e w8 ⟨rfl, hb8⟩
    clear hl h0 h1 h2 h3 h4 h5 hf0 hf1 hf2 hf3 hf4 hf5 cl c0 c1 c2 c3 c4 c5 cf0 cf1 cf2 cf3 cf4 cf5
    have hal : Below w7.heap.size w7 w7 := (Below.refl _ _)
    have hn : Below w7.heap.size w7 w8 := hal.trans (hb8.mono hal.size)
    have HB8 : Hid (Below w.heap.size w w8) := HB7.out.trans (hn.mono HB7.out.size)
    have Ka8 : Hid (Bf (w.heap.size) (a) w8) := Ka7.out.later hn
    have Kb8 : Hid (Bf (w.heap.size + 1) (b) w8) := Kb7.out.later hn
    have Kc8 : Hid (Bf (w.heap.size + 1 + 1) (c) w8) := Kc7.out.later hn
    have Kp8 : Hid (Pf (w.heap.size + 1 + 1 + 1) (p) w8) := Kp7.out.later hn
    have Kd8 : Hid (Bf (w.heap.size + 1 + 1 + 1 + 1) (cube2) w8) := Kd7.out.later hn
    have Km8 : Hid (Bf (w4.heap.size) (m) w8) := Km7.out.later hn
    have Kn8 : Hid (Bf (w5.heap.size) (n) w8) := Kn7.out.later hn
    have Kh8 : Hid (Bf (w6.heap.size) (h) w8) := Kh7.out.later hn
    clear hal hn hb8
    go_wp2
    all_goals
      go_ret
      exact ⟨by simp_all [HZY.out], HB8.out⟩
set_option maxHeartbeats 6400000 in
set_option maxRecDepth 100000 in
theorem met_no_n (a b c : Bx) (p : Pt) (w : World) (hr : badL [a, b] = 0) (h1 : ¬ ((moveR a p).2 = 0 ∧ (moveR b p).2 = 0)) (hc : bad1 c ≠ 0) : Calls Try.prog 5 #[bv a, bv b, bv c, pv p] w fun e w' => e = .returned (.bool true) ∧ Below w.heap.size w w' := by
  have ha := (badL2_zero.1 hr).1
  have hb := (badL2_zero.1 hr).2
  obtain ⟨x, hx⟩ : ∃ x, x = meet a b := ⟨_, rfl⟩
  have HX : Hid (meetR a b = (x, 0)) := by show _ = _; rw [hx, meetR_ok ha hb]
  have HY : Hid (meetR b a = (x, 0)) := by show _ = _; rw [hx, meetR_ok hb ha, meet_comm]
  obtain ⟨h, hh⟩ : ∃ h, h = hullB a b := ⟨_, rfl⟩
  have HH : Hid (hullR a b = (h, 0)) := by show _ = _; rw [hh, hullR_ok ha hb]
  obtain ⟨t, ht⟩ : ∃ t, t = badL [a, c] := ⟨_, rfl⟩
  have htn : ¬ badL [a, c] = 0 := fun e => hc (badL2_zero.1 e).2
  have hnt : (t != 0) = true := by simp [ht, htn]
  have HZ : Hid (meetR a c = (false, t)) := by show _ = _; rw [ht]; exact if_neg htn
  clear ht htn hc
  obtain ⟨⟨m, r⟩, hm⟩ : ∃ m, m = moveR a p := ⟨_, rfl⟩
  obtain ⟨⟨n, s⟩, hn⟩ : ∃ n, n = moveR b p := ⟨_, rfl⟩
  have HM : Hid (moveR a p = (m, r)) := hm.symm
  have HN : Hid (moveR b p = (n, s)) := hn.symm
  have hrs : r = 0 → s ≠ 0 := fun e1 e2 => h1 ⟨by rw [← hm]; exact e1, by rw [← hn]; exact e2⟩
  clear hr ha hb hx hh hm hn h1
  by_cases hr0 : r = 0
  · have d1 : (r == 0) = true := by simp [hr0]
    have d2 : (s == 0) = false := by simp [hrs hr0]
    clear hr0 hrs
    have HB0 : Hid (Below w.heap.size w w) := Below.refl _ _
    go_enter Try.func5, Try.ntmps5
    go_wp2_with fail
    refine (meet_r cube2 cube2 true 0 cube2_meet _).mono ?_
    rintro e w1 ⟨rfl, hb1⟩
    have hal : Below w.heap.size w (((((w.alloc (bo (a))).alloc (bo (b))).alloc (bo (c))).alloc (po (p))).alloc (bo (cube2))) := (below_grow _ (Nat.le_refl _) (below_grow _ (Nat.le_refl _) (below_grow _ (Nat.le_refl _) (below_grow _ (Nat.le_refl _) (below_grow _ (Nat.le_refl _) (Below.refl _ _) _) _) _) _) _)
    have hn : Below w.heap.size w w1 := hal.trans (hb1.mono hal.size)
    have HB1 : Hid (Below w.heap.size w w1) := HB0.out.trans (hn.mono HB0.out.size)
    have Ka1 : Hid (Bf (w.heap.size) (a) w1) := by
      have h := ((Bf.new w (a)).later (below_grow _ (Nat.le_refl _) (below_grow _ (Nat.le_refl _) (below_grow _ (Nat.le_refl _) (below_grow _ (Nat.le_refl _) (Below.refl _ _) _) _) _) _)).later hb1
      show Bf _ _ _
      simpa using h
    have Kb1 : Hid (Bf (w.heap.size + 1) (b) w1) := by
      have h := ((Bf.new (w.alloc (bo (a))) (b)).later (below_grow _ (Nat.le_refl _) (below_grow _ (Nat.le_refl _) (below_grow _ (Nat.le_refl _) (Below.refl _ _) _) _) _)).later hb1
      show Bf _ _ _
      simpa using h
    have Kc1 : Hid (Bf (w.heap.size + 1 + 1) (c) w1) := by
      have h := ((Bf.new ((w.alloc (bo (a))).alloc (bo (b))) (c)).later (below_grow _ (Nat.le_refl _) (below_grow _ (Nat.le_refl _) (Below.refl _ _) _) _)).later hb1
      show Bf _ _ _
      simpa using h
    have Kp1 : Hid (Pf (w.heap.size + 1 + 1 + 1) (p) w1) := by
      have h := ((Pf.new (((w.alloc (bo (a))).alloc (bo (b))).alloc (bo (c))) (p)).later (below_grow _ (Nat.le_refl _) (Below.refl _ _) _)).later hb1
      show Pf _ _ _
      simpa using h
    have Kd1 : Hid (Bf (w.heap.size + 1 + 1 + 1 + 1) (cube2) w1) := by
      have h := ((Bf.new ((((w.alloc (bo (a))).alloc (bo (b))).alloc (bo (c))).alloc (po (p))) (cube2)).later (Below.refl _ _)).later hb1
      show Bf _ _ _
      simpa using h
    clear hal hn hb1
    obtain ⟨⟨al, a0, a1, a2, a3, a4, a5⟩, af0, af1, af2, af3, af4, af5⟩ := Ka1.out
    simp only [Nat.zero_add] at a1 a2 a3 a4 a5
    obtain ⟨⟨bl, b0, b1, b2, b3, b4, b5⟩, bf0, bf1, bf2, bf3, bf4, bf5⟩ := Kb1.out
    simp only [Nat.zero_add] at b1 b2 b3 b4 b5
    go_wp2_with fail
    refine (meet_r a b x 0 HX.out _).mono ?_
    rintro e w2 ⟨rfl, hb2⟩
    clear al a0 a1 a2 a3 a4 a5 af0 af1 af2 af3 af4 af5 bl b0 b1 b2 b3 b4 b5 bf0 bf1 bf2 bf3 bf4 bf5
    have hal : Below w1.heap.size w1 w1 := (Below.refl _ _)
    have hn : Below w1.heap.size w1 w2 := hal.trans (hb2.mono hal.size)
    have HB2 : Hid (Below w.heap.size w w2) := HB1.out.trans (hn.mono HB1.out.size)
    have Ka2 : Hid (Bf (w.heap.size) (a) w2) := Ka1.out.later hn
    have Kb2 : Hid (Bf (w.heap.size + 1) (b) w2) := Kb1.out.later hn
    have Kc2 : Hid (Bf (w.heap.size + 1 + 1) (c) w2) := Kc1.out.later hn
    have Kp2 : Hid (Pf (w.heap.size + 1 + 1 + 1) (p) w2) := Kp1.out.later hn
    have Kd2 : Hid (Bf (w.heap.size + 1 + 1 + 1 + 1) (cube2) w2) := Kd1.out.later hn
    clear hal hn hb2
    obtain ⟨⟨al, a0, a1, a2, a3, a4, a5⟩, af0, af1, af2, af3, af4, af5⟩ := Ka2.out
    simp only [Nat.zero_add] at a1 a2 a3 a4 a5
    obtain ⟨⟨bl, b0, b1, b2, b3, b4, b5⟩, bf0, bf1, bf2, bf3, bf4, bf5⟩ := Kb2.out
    simp only [Nat.zero_add] at b1 b2 b3 b4 b5
    go_wp2_with fail
    refine (meet_r b a x 0 HY.out _).mono ?_
    rintro e w3 ⟨rfl, hb3⟩
    clear al a0 a1 a2 a3 a4 a5 af0 af1 af2 af3 af4 af5 bl b0 b1 b2 b3 b4 b5 bf0 bf1 bf2 bf3 bf4 bf5
    have hal : Below w2.heap.size w2 w2 := (Below.refl _ _)
    have hn : Below w2.heap.size w2 w3 := hal.trans (hb3.mono hal.size)
    have HB3 : Hid (Below w.heap.size w w3) := HB2.out.trans (hn.mono HB2.out.size)
    have Ka3 : Hid (Bf (w.heap.size) (a) w3) := Ka2.out.later hn
    have Kb3 : Hid (Bf (w.heap.size + 1) (b) w3) := Kb2.out.later hn
    have Kc3 : Hid (Bf (w.heap.size + 1 + 1) (c) w3) := Kc2.out.later hn
    have Kp3 : Hid (Pf (w.heap.size + 1 + 1 + 1) (p) w3) := Kp2.out.later hn
    have Kd3 : Hid (Bf (w.heap.size + 1 + 1 + 1 + 1) (cube2) w3) := Kd2.out.later hn
    clear hal hn hb3
    obtain ⟨⟨al, a0, a1, a2, a3, a4, a5⟩, af0, af1, af2, af3, af4, af5⟩ := Ka3.out
    simp only [Nat.zero_add] at a1 a2 a3 a4 a5
    obtain ⟨pl, p0, p1, p2⟩ := Kp3.out
    go_wp2_with fail
    refine (move_r a p m r HM.out _).mono ?_
    rintro e w4 ⟨rfl, hb4⟩
    clear al a0 a1 a2 a3 a4 a5 af0 af1 af2 af3 af4 af5 pl p0 p1 p2
    have hal : Below w3.heap.size w3 w3 := (Below.refl _ _)
    have hn : Below w3.heap.size w3 w4 := hal.trans (hb4.mono hal.size)
    have HB4 : Hid (Below w.heap.size w w4) := HB3.out.trans (hn.mono HB3.out.size)
    have Ka4 : Hid (Bf (w.heap.size) (a) w4) := Ka3.out.later hn
    have Kb4 : Hid (Bf (w.heap.size + 1) (b) w4) := Kb3.out.later hn
    have Kc4 : Hid (Bf (w.heap.size + 1 + 1) (c) w4) := Kc3.out.later hn
    have Kp4 : Hid (Pf (w.heap.size + 1 + 1 + 1) (p) w4) := Kp3.out.later hn
    have Kd4 : Hid (Bf (w.heap.size + 1 + 1 + 1 + 1) (cube2) w4) := Kd3.out.later hn
    clear hal hn hb4
    obtain ⟨⟨bl, b0, b1, b2, b3, b4, b5⟩, bf0, bf1, bf2, bf3, bf4, bf5⟩ := Kb4.out
    simp only [Nat.zero_add] at b1 b2 b3 b4 b5
    obtain ⟨pl, p0, p1, p2⟩ := Kp4.out
    go_wp2_with fail
    refine (move_r b p n s HN.out _).mono ?_
    rintro e w5 ⟨rfl, hb5⟩
    clear bl b0 b1 b2 b3 b4 b5 bf0 bf1 bf2 bf3 bf4 bf5 pl p0 p1 p2
    have hal : Below w4.heap.size w4 (w4.alloc (bo (m))) := (below_grow _ (Nat.le_refl _) (Below.refl _ _) _)
    have hn : Below w4.heap.size w4 w5 := hal.trans (hb5.mono hal.size)
    have HB5 : Hid (Below w.heap.size w w5) := HB4.out.trans (hn.mono HB4.out.size)
    have Ka5 : Hid (Bf (w.heap.size) (a) w5) := Ka4.out.later hn
    have Kb5 : Hid (Bf (w.heap.size + 1) (b) w5) := Kb4.out.later hn
    have Kc5 : Hid (Bf (w.heap.size + 1 + 1) (c) w5) := Kc4.out.later hn
    have Kp5 : Hid (Pf (w.heap.size + 1 + 1 + 1) (p) w5) := Kp4.out.later hn
    have Kd5 : Hid (Bf (w.heap.size + 1 + 1 + 1 + 1) (cube2) w5) := Kd4.out.later hn
    have Km5 : Hid (Bf (w4.heap.size) (m) w5) := by
      have h := ((Bf.new w4 (m)).later (Below.refl _ _)).later hb5
      show Bf _ _ _
      simpa using h
    clear hal hn hb5
    obtain ⟨⟨al, a0, a1, a2, a3, a4, a5⟩, af0, af1, af2, af3, af4, af5⟩ := Ka5.out
    simp only [Nat.zero_add] at a1 a2 a3 a4 a5
    obtain ⟨⟨bl, b0, b1, b2, b3, b4, b5⟩, bf0, bf1, bf2, bf3, bf4, bf5⟩ := Kb5.out
    simp only [Nat.zero_add] at b1 b2 b3 b4 b5
    go_wp2_with fail
    refine (fhull_r a b h 0 HH.out _).mono ?_
    rintro e w6 ⟨rfl, hb6⟩
    clear al a0 a1 a2 a3 a4 a5 af0 af1 af2 af3 af4 af5 bl b0 b1 b2 b3 b4 b5 bf0 bf1 bf2 bf3 bf4 bf5
    have hal : Below w5.heap.size w5 (w5.alloc (bo (n))) := (below_grow _ (Nat.le_refl _) (Below.refl _ _) _)
    have hn : Below w5.heap.size w5 w6 := hal.trans (hb6.mono hal.size)
    have HB6 : Hid (Below w.heap.size w w6) := HB5.out.trans (hn.mono HB5.out.size)
    have Ka6 : Hid (Bf (w.heap.size) (a) w6) := Ka5.out.later hn
    have Kb6 : Hid (Bf (w.heap.size + 1) (b) w6) := Kb5.out.later hn
    have Kc6 : Hid (Bf (w.heap.size + 1 + 1) (c) w6) := Kc5.out.later hn
    have Kp6 : Hid (Pf (w.heap.size + 1 + 1 + 1) (p) w6) := Kp5.out.later hn
    have Kd6 : Hid (Bf (w.heap.size + 1 + 1 + 1 + 1) (cube2) w6) := Kd5.out.later hn
    have Km6 : Hid (Bf (w4.heap.size) (m) w6) := Km5.out.later hn
    have Kn6 : Hid (Bf (w5.heap.size) (n) w6) := by
      have h := ((Bf.new w5 (n)).later (Below.refl _ _)).later hb6
      show Bf _ _ _
      simpa using h
    clear hal hn hb6
    obtain ⟨⟨al, a0, a1, a2, a3, a4, a5⟩, af0, af1, af2, af3, af4, af5⟩ := Ka6.out
    simp only [Nat.zero_add] at a1 a2 a3 a4 a5
    obtain ⟨⟨cl, c0, c1, c2, c3, c4, c5⟩, cf0, cf1, cf2, cf3, cf4, cf5⟩ := Kc6.out
    simp only [Nat.zero_add] at c1 c2 c3 c4 c5
    go_wp2_with fail
    refine (meet_r a c false t HZ.out _).mono ?_
    rintro e w7 ⟨rfl, hb7⟩
    clear al a0 a1 a2 a3 a4 a5 af0 af1 af2 af3 af4 af5 cl c0 c1 c2 c3 c4 c5 cf0 cf1 cf2 cf3 cf4 cf5
    have hal : Below w6.heap.size w6 (w6.alloc (bo (h))) := (below_grow _ (Nat.le_refl _) (Below.refl _ _) _)
    have hn : Below w6.heap.size w6 w7 := hal.trans (hb7.mono hal.size)
    have HB7 : Hid (Below w.heap.size w w7) := HB6.out.trans (hn.mono HB6.out.size)
    have Ka7 : Hid (Bf (w.heap.size) (a) w7) := Ka6.out.later hn
    have Kb7 : Hid (Bf (w.heap.size + 1) (b) w7) := Kb6.out.later hn
    have Kc7 : Hid (Bf (w.heap.size + 1 + 1) (c) w7) := Kc6.out.later hn
    have Kp7 : Hid (Pf (w.heap.size + 1 + 1 + 1) (p) w7) := Kp6.out.later hn
    have Kd7 : Hid (Bf (w.heap.size + 1 + 1 + 1 + 1) (cube2) w7) := Kd6.out.later hn
    have Km7 : Hid (Bf (w4.heap.size) (m) w7) := Km6.out.later hn
    have Kn7 : Hid (Bf (w5.heap.size) (n) w7) := Kn6.out.later hn
    have Kh7 : Hid (Bf (w6.heap.size) (h) w7) := by
      have h := ((Bf.new w6 (h)).later (Below.refl _ _)).later hb7
      show Bf _ _ _
      simpa using h
    clear hal hn hb7
    go_wp2
    go_ret
    exact ⟨by simp, HB7.out⟩
  · have d1 : (r == 0) = false := by simp [hr0]
    clear hr0 hrs
    have HB0 : Hid (Below w.heap.size w w) := Below.refl _ _
    go_enter Try.func5, Try.ntmps5
    go_wp2_with fail
    refine (meet_r cube2 cube2 true 0 cube2_meet _).mono ?_
    rintro e w1 ⟨rfl, hb1⟩
    have hal : Below w.heap.size w (((((w.alloc (bo (a))).alloc (bo (b))).alloc (bo (c))).alloc (po (p))).alloc (bo (cube2))) := (below_grow _ (Nat.le_refl _) (below_grow _ (Nat.le_refl _) (below_grow _ (Nat.le_refl _) (below_grow _ (Nat.le_refl _) (below_grow _ (Nat.le_refl _) (Below.refl _ _) _) _) _) _) _)
    have hn : Below w.heap.size w w1 := hal.trans (hb1.mono hal.size)
    have HB1 : Hid (Below w.heap.size w w1) := HB0.out.trans (hn.mono HB0.out.size)
    have Ka1 : Hid (Bf (w.heap.size) (a) w1) := by
      have h := ((Bf.new w (a)).later (below_grow _ (Nat.le_refl _) (below_grow _ (Nat.le_refl _) (below_grow _ (Nat.le_refl _) (below_grow _ (Nat.le_refl _) (Below.refl _ _) _) _) _) _)).later hb1
      show Bf _ _ _
      simpa using h
    have Kb1 : Hid (Bf (w.heap.size + 1) (b) w1) := by
      have h := ((Bf.new (w.alloc (bo (a))) (b)).later (below_grow _ (Nat.le_refl _) (below_grow _ (Nat.le_refl _) (below_grow _ (Nat.le_refl _) (Below.refl _ _) _) _) _)).later hb1
      show Bf _ _ _
      simpa using h
    have Kc1 : Hid (Bf (w.heap.size + 1 + 1) (c) w1) := by
      have h := ((Bf.new ((w.alloc (bo (a))).alloc (bo (b))) (c)).later (below_grow _ (Nat.le_refl _) (below_grow _ (Nat.le_refl _) (Below.refl _ _) _) _)).later hb1
      show Bf _ _ _
      simpa using h
    have Kp1 : Hid (Pf (w.heap.size + 1 + 1 + 1) (p) w1) := by
      have h := ((Pf.new (((w.alloc (bo (a))).alloc (bo (b))).alloc (bo (c))) (p)).later (below_grow _ (Nat.le_refl _) (Below.refl _ _) _)).later hb1
      show Pf _ _ _
      simpa using h
    have Kd1 : Hid (Bf (w.heap.size + 1 + 1 + 1 + 1) (cube2) w1) := by
      have h := ((Bf.new ((((w.alloc (bo (a))).alloc (bo (b))).alloc (bo (c))).alloc (po (p))) (cube2)).later (Below.refl _ _)).later hb1
      show Bf _ _ _
      simpa using h
    clear hal hn hb1
    obtain ⟨⟨al, a0, a1, a2, a3, a4, a5⟩, af0, af1, af2, af3, af4, af5⟩ := Ka1.out
    simp only [Nat.zero_add] at a1 a2 a3 a4 a5
    obtain ⟨⟨bl, b0, b1, b2, b3, b4, b5⟩, bf0, bf1, bf2, bf3, bf4, bf5⟩ := Kb1.out
    simp only [Nat.zero_add] at b1 b2 b3 b4 b5
    go_wp2_with fail
    refine (meet_r a b x 0 HX.out _).mono ?_
    rintro e w2 ⟨rfl, hb2⟩
    clear al a0 a1 a2 a3 a4 a5 af0 af1 af2 af3 af4 af5 bl b0 b1 b2 b3 b4 b5 bf0 bf1 bf2 bf3 bf4 bf5
    have hal : Below w1.heap.size w1 w1 := (Below.refl _ _)
    have hn : Below w1.heap.size w1 w2 := hal.trans (hb2.mono hal.size)
    have HB2 : Hid (Below w.heap.size w w2) := HB1.out.trans (hn.mono HB1.out.size)
    have Ka2 : Hid (Bf (w.heap.size) (a) w2) := Ka1.out.later hn
    have Kb2 : Hid (Bf (w.heap.size + 1) (b) w2) := Kb1.out.later hn
    have Kc2 : Hid (Bf (w.heap.size + 1 + 1) (c) w2) := Kc1.out.later hn
    have Kp2 : Hid (Pf (w.heap.size + 1 + 1 + 1) (p) w2) := Kp1.out.later hn
    have Kd2 : Hid (Bf (w.heap.size + 1 + 1 + 1 + 1) (cube2) w2) := Kd1.out.later hn
    clear hal hn hb2
    obtain ⟨⟨al, a0, a1, a2, a3, a4, a5⟩, af0, af1, af2, af3, af4, af5⟩ := Ka2.out
    simp only [Nat.zero_add] at a1 a2 a3 a4 a5
    obtain ⟨⟨bl, b0, b1, b2, b3, b4, b5⟩, bf0, bf1, bf2, bf3, bf4, bf5⟩ := Kb2.out
    simp only [Nat.zero_add] at b1 b2 b3 b4 b5
    go_wp2_with fail
    refine (meet_r b a x 0 HY.out _).mono ?_
    rintro e w3 ⟨rfl, hb3⟩
    clear al a0 a1 a2 a3 a4 a5 af0 af1 af2 af3 af4 af5 bl b0 b1 b2 b3 b4 b5 bf0 bf1 bf2 bf3 bf4 bf5
    have hal : Below w2.heap.size w2 w2 := (Below.refl _ _)
    have hn : Below w2.heap.size w2 w3 := hal.trans (hb3.mono hal.size)
    have HB3 : Hid (Below w.heap.size w w3) := HB2.out.trans (hn.mono HB2.out.size)
    have Ka3 : Hid (Bf (w.heap.size) (a) w3) := Ka2.out.later hn
    have Kb3 : Hid (Bf (w.heap.size + 1) (b) w3) := Kb2.out.later hn
    have Kc3 : Hid (Bf (w.heap.size + 1 + 1) (c) w3) := Kc2.out.later hn
    have Kp3 : Hid (Pf (w.heap.size + 1 + 1 + 1) (p) w3) := Kp2.out.later hn
    have Kd3 : Hid (Bf (w.heap.size + 1 + 1 + 1 + 1) (cube2) w3) := Kd2.out.later hn
    clear hal hn hb3
    obtain ⟨⟨al, a0, a1, a2, a3, a4, a5⟩, af0, af1, af2, af3, af4, af5⟩ := Ka3.out
    simp only [Nat.zero_add] at a1 a2 a3 a4 a5
    obtain ⟨pl, p0, p1, p2⟩ := Kp3.out
    go_wp2_with fail
    refine (move_r a p m r HM.out _).mono ?_
    rintro e w4 ⟨rfl, hb4⟩
    clear al a0 a1 a2 a3 a4 a5 af0 af1 af2 af3 af4 af5 pl p0 p1 p2
    have hal : Below w3.heap.size w3 w3 := (Below.refl _ _)
    have hn : Below w3.heap.size w3 w4 := hal.trans (hb4.mono hal.size)
    have HB4 : Hid (Below w.heap.size w w4) := HB3.out.trans (hn.mono HB3.out.size)
    have Ka4 : Hid (Bf (w.heap.size) (a) w4) := Ka3.out.later hn
    have Kb4 : Hid (Bf (w.heap.size + 1) (b) w4) := Kb3.out.later hn
    have Kc4 : Hid (Bf (w.heap.size + 1 + 1) (c) w4) := Kc3.out.later hn
    have Kp4 : Hid (Pf (w.heap.size + 1 + 1 + 1) (p) w4) := Kp3.out.later hn
    have Kd4 : Hid (Bf (w.heap.size + 1 + 1 + 1 + 1) (cube2) w4) := Kd3.out.later hn
    clear hal hn hb4
    obtain ⟨⟨bl, b0, b1, b2, b3, b4, b5⟩, bf0, bf1, bf2, bf3, bf4, bf5⟩ := Kb4.out
    simp only [Nat.zero_add] at b1 b2 b3 b4 b5
    obtain ⟨pl, p0, p1, p2⟩ := Kp4.out
    go_wp2_with fail
    refine (move_r b p n s HN.out _).mono ?_
    rintro e w5 ⟨rfl, hb5⟩
    clear bl b0 b1 b2 b3 b4 b5 bf0 bf1 bf2 bf3 bf4 bf5 pl p0 p1 p2
    have hal : Below w4.heap.size w4 (w4.alloc (bo (m))) := (below_grow _ (Nat.le_refl _) (Below.refl _ _) _)
    have hn : Below w4.heap.size w4 w5 := hal.trans (hb5.mono hal.size)
    have HB5 : Hid (Below w.heap.size w w5) := HB4.out.trans (hn.mono HB4.out.size)
    have Ka5 : Hid (Bf (w.heap.size) (a) w5) := Ka4.out.later hn
    have Kb5 : Hid (Bf (w.heap.size + 1) (b) w5) := Kb4.out.later hn
    have Kc5 : Hid (Bf (w.heap.size + 1 + 1) (c) w5) := Kc4.out.later hn
    have Kp5 : Hid (Pf (w.heap.size + 1 + 1 + 1) (p) w5) := Kp4.out.later hn
    have Kd5 : Hid (Bf (w.heap.size + 1 + 1 + 1 + 1) (cube2) w5) := Kd4.out.later hn
    have Km5 : Hid (Bf (w4.heap.size) (m) w5) := by
      have h := ((Bf.new w4 (m)).later (Below.refl _ _)).later hb5
      show Bf _ _ _
      simpa using h
    clear hal hn hb5
    obtain ⟨⟨al, a0, a1, a2, a3, a4, a5⟩, af0, af1, af2, af3, af4, af5⟩ := Ka5.out
    simp only [Nat.zero_add] at a1 a2 a3 a4 a5
    obtain ⟨⟨bl, b0, b1, b2, b3, b4, b5⟩, bf0, bf1, bf2, bf3, bf4, bf5⟩ := Kb5.out
    simp only [Nat.zero_add] at b1 b2 b3 b4 b5
    go_wp2_with fail
    refine (fhull_r a b h 0 HH.out _).mono ?_
    rintro e w6 ⟨rfl, hb6⟩
    clear al a0 a1 a2 a3 a4 a5 af0 af1 af2 af3 af4 af5 bl b0 b1 b2 b3 b4 b5 bf0 bf1 bf2 bf3 bf4 bf5
    have hal : Below w5.heap.size w5 (w5.alloc (bo (n))) := (below_grow _ (Nat.le_refl _) (Below.refl _ _) _)
    have hn : Below w5.heap.size w5 w6 := hal.trans (hb6.mono hal.size)
    have HB6 : Hid (Below w.heap.size w w6) := HB5.out.trans (hn.mono HB5.out.size)
    have Ka6 : Hid (Bf (w.heap.size) (a) w6) := Ka5.out.later hn
    have Kb6 : Hid (Bf (w.heap.size + 1) (b) w6) := Kb5.out.later hn
    have Kc6 : Hid (Bf (w.heap.size + 1 + 1) (c) w6) := Kc5.out.later hn
    have Kp6 : Hid (Pf (w.heap.size + 1 + 1 + 1) (p) w6) := Kp5.out.later hn
    have Kd6 : Hid (Bf (w.heap.size + 1 + 1 + 1 + 1) (cube2) w6) := Kd5.out.later hn
    have Km6 : Hid (Bf (w4.heap.size) (m) w6) := Km5.out.later hn
    have Kn6 : Hid (Bf (w5.heap.size) (n) w6) := by
      have h := ((Bf.new w5 (n)).later (Below.refl _ _)).later hb6
      show Bf _ _ _
      simpa using h
    clear hal hn hb6
    obtain ⟨⟨al, a0, a1, a2, a3, a4, a5⟩, af0, af1, af2, af3, af4, af5⟩ := Ka6.out
    simp only [Nat.zero_add] at a1 a2 a3 a4 a5
    obtain ⟨⟨cl, c0, c1, c2, c3, c4, c5⟩, cf0, cf1, cf2, cf3, cf4, cf5⟩ := Kc6.out
    simp only [Nat.zero_add] at c1 c2 c3 c4 c5
    go_wp2_with fail
    refine (meet_r a c false t HZ.out _).mono ?_
    rintro e w7 ⟨rfl, hb7⟩
    clear al a0 a1 a2 a3 a4 a5 af0 af1 af2 af3 af4 af5 cl c0 c1 c2 c3 c4 c5 cf0 cf1 cf2 cf3 cf4 cf5
    have hal : Below w6.heap.size w6 (w6.alloc (bo (h))) := (below_grow _ (Nat.le_refl _) (Below.refl _ _) _)
    have hn : Below w6.heap.size w6 w7 := hal.trans (hb7.mono hal.size)
    have HB7 : Hid (Below w.heap.size w w7) := HB6.out.trans (hn.mono HB6.out.size)
    have Ka7 : Hid (Bf (w.heap.size) (a) w7) := Ka6.out.later hn
    have Kb7 : Hid (Bf (w.heap.size + 1) (b) w7) := Kb6.out.later hn
    have Kc7 : Hid (Bf (w.heap.size + 1 + 1) (c) w7) := Kc6.out.later hn
    have Kp7 : Hid (Pf (w.heap.size + 1 + 1 + 1) (p) w7) := Kp6.out.later hn
    have Kd7 : Hid (Bf (w.heap.size + 1 + 1 + 1 + 1) (cube2) w7) := Kd6.out.later hn
    have Km7 : Hid (Bf (w4.heap.size) (m) w7) := Km6.out.later hn
    have Kn7 : Hid (Bf (w5.heap.size) (n) w7) := Kn6.out.later hn
    have Kh7 : Hid (Bf (w6.heap.size) (h) w7) := by
      have h := ((Bf.new w6 (h)).later (Below.refl _ _)).later hb7
      show Bf _ _ _
      simpa using h
    clear hal hn hb7
    go_wp2
    go_ret
    exact ⟨by simp, HB7.out⟩
theorem met_any (a b c : Bx) (p : Pt) (w : World) : Calls Try.prog 5 #[bv a, bv b, bv c, pv p] w fun e w' => e = .returned (.bool true) ∧ Below w.heap.size w w' := by
  by_cases hr : badL [a, b] = 0
  · by_cases h1 : (moveR a p).2 = 0 ∧ (moveR b p).2 = 0
    · by_cases hc : bad1 c = 0
      · exact met_ok_c a b c p w hr h1.1 h1.2 hc
      · exact met_ok_n a b c p w hr h1.1 h1.2 hc
    · by_cases hc : bad1 c = 0
      · exact met_no_c a b c p w hr h1 hc
      · exact met_no_n a b c p w hr h1 hc
  · exact met_bad a b c p w hr
end Go.Proofs.Ytiafcgbohckmmaa
