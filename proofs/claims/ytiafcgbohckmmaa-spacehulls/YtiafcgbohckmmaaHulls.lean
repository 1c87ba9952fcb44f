/- The law SpaceHulls walked. -/
import Derived.Test.YtiafcgbohckmmaaHM
namespace Go.Proofs.Ytiafcgbohckmmaa
open Go.RowKit

set_option maxHeartbeats 6400000 in
set_option maxRecDepth 100000 in
theorem hulls_any (a b : Bx) (w : World) : Calls Try.prog 8 #[bv a, bv b] w fun e w' => e = .returned (.bool true) ∧ Below w.heap.size w w' := by
  by_cases hr : badL [a, b] = 0
  · have ha := (badL2_zero.1 hr).1
    have hb := (badL2_zero.1 hr).2
    obtain ⟨x, hx⟩ : ∃ x, x = hullB a b := ⟨_, rfl⟩
    have HX : Hid (hullR a b = (x, 0)) := by show _ = _; rw [hx, hullR_ok ha hb]
    have HY : Hid (hullR b a = (x, 0)) := by show _ = _; rw [hx, hullR_ok hb ha, hull_comm]
    have HZ : Hid (hullR x a = (x, 0)) := by show _ = _; rw [hx, hullR_ok (hull_good ha hb) ha, hull_left]
    have HV : Hid (hullR b x = (x, 0)) := by show _ = _; rw [hx, hullR_ok hb (hull_good ha hb), hull_right]
    clear hr ha hb hx
    have HB0 : Hid (Below w.heap.size w w) := Below.refl _ _
    go_enter Try.func8, Try.ntmps8
    go_wp2_with fail
    refine (fhull_r cube2 cube2 cube2 0 cube2_hull _).mono ?_
    rintro e w1 ⟨rfl, hb1⟩
    have hal : Below w.heap.size w (((w.alloc (bo (a))).alloc (bo (b))).alloc (bo (cube2))) := (below_grow _ (Nat.le_refl _) (below_grow _ (Nat.le_refl _) (below_grow _ (Nat.le_refl _) (Below.refl _ _) _) _) _)
    have hn : Below w.heap.size w w1 := hal.trans (hb1.mono hal.size)
    have HB1 : Hid (Below w.heap.size w w1) := HB0.out.trans (hn.mono HB0.out.size)
    have Ka1 : Hid (Bf (w.heap.size) (a) w1) := by
      have h := ((Bf.new w (a)).later (below_grow _ (Nat.le_refl _) (below_grow _ (Nat.le_refl _) (Below.refl _ _) _) _)).later hb1
      show Bf _ _ _
      simpa using h
    have Kb1 : Hid (Bf (w.heap.size + 1) (b) w1) := by
      have h := ((Bf.new (w.alloc (bo (a))) (b)).later (below_grow _ (Nat.le_refl _) (Below.refl _ _) _)).later hb1
      show Bf _ _ _
      simpa using h
    have Kd1 : Hid (Bf (w.heap.size + 1 + 1) (cube2) w1) := by
      have h := ((Bf.new ((w.alloc (bo (a))).alloc (bo (b))) (cube2)).later (Below.refl _ _)).later hb1
      show Bf _ _ _
      simpa using h
    clear hal hn hb1
    obtain ⟨⟨al, a0, a1, a2, a3, a4, a5⟩, af0, af1, af2, af3, af4, af5⟩ := Ka1.out
    simp only [Nat.zero_add] at a1 a2 a3 a4 a5
    obtain ⟨⟨bl, b0, b1, b2, b3, b4, b5⟩, bf0, bf1, bf2, bf3, bf4, bf5⟩ := Kb1.out
    simp only [Nat.zero_add] at b1 b2 b3 b4 b5
    obtain ⟨⟨dl, d0, d1, d2, d3, d4, d5⟩, df0, df1, df2, df3, df4, df5⟩ := Kd1.out
    simp only [Nat.zero_add] at d1 d2 d3 d4 d5
    go_wp2_with fail
    refine (fhull_r a b x 0 HX.out _).mono ?_
    rintro e w2 ⟨rfl, hb2⟩
    clear al a0 a1 a2 a3 a4 a5 af0 af1 af2 af3 af4 af5 bl b0 b1 b2 b3 b4 b5 bf0 bf1 bf2 bf3 bf4 bf5 dl d0 d1 d2 d3 d4 d5 df0 df1 df2 df3 df4 df5
    have hal : Below w1.heap.size w1 (w1.alloc (bo (cube2))) := (below_grow _ (Nat.le_refl _) (Below.refl _ _) _)
    have hn : Below w1.heap.size w1 w2 := hal.trans (hb2.mono hal.size)
    have HB2 : Hid (Below w.heap.size w w2) := HB1.out.trans (hn.mono HB1.out.size)
    have Ka2 : Hid (Bf (w.heap.size) (a) w2) := Ka1.out.later hn
    have Kb2 : Hid (Bf (w.heap.size + 1) (b) w2) := Kb1.out.later hn
    have Kd2 : Hid (Bf (w.heap.size + 1 + 1) (cube2) w2) := Kd1.out.later hn
    have Kx12 : Hid (Bf (w1.heap.size) (cube2) w2) := by
      have h := ((Bf.new w1 (cube2)).later (Below.refl _ _)).later hb2
      show Bf _ _ _
      simpa using h
    clear hal hn hb2
    obtain ⟨⟨bl, b0, b1, b2, b3, b4, b5⟩, bf0, bf1, bf2, bf3, bf4, bf5⟩ := Kb2.out
    simp only [Nat.zero_add] at b1 b2 b3 b4 b5
    obtain ⟨⟨al, a0, a1, a2, a3, a4, a5⟩, af0, af1, af2, af3, af4, af5⟩ := Ka2.out
    simp only [Nat.zero_add] at a1 a2 a3 a4 a5
    go_wp2_with fail
    refine (fhull_r b a x 0 HY.out _).mono ?_
    rintro e w3 ⟨rfl, hb3⟩
    clear bl b0 b1 b2 b3 b4 b5 bf0 bf1 bf2 bf3 bf4 bf5 al a0 a1 a2 a3 a4 a5 af0 af1 af2 af3 af4 af5
    have hal : Below w2.heap.size w2 (w2.alloc (bo (x))) := (below_grow _ (Nat.le_refl _) (Below.refl _ _) _)
    have hn : Below w2.heap.size w2 w3 := hal.trans (hb3.mono hal.size)
    have HB3 : Hid (Below w.heap.size w w3) := HB2.out.trans (hn.mono HB2.out.size)
    have Ka3 : Hid (Bf (w.heap.size) (a) w3) := Ka2.out.later hn
    have Kb3 : Hid (Bf (w.heap.size + 1) (b) w3) := Kb2.out.later hn
    have Kd3 : Hid (Bf (w.heap.size + 1 + 1) (cube2) w3) := Kd2.out.later hn
    have Kx13 : Hid (Bf (w1.heap.size) (cube2) w3) := Kx12.out.later hn
    have Kx3 : Hid (Bf (w2.heap.size) (x) w3) := by
      have h := ((Bf.new w2 (x)).later (Below.refl _ _)).later hb3
      show Bf _ _ _
      simpa using h
    clear hal hn hb3
    obtain ⟨⟨xl, x0, x1, x2, x3, x4, x5⟩, xf0, xf1, xf2, xf3, xf4, xf5⟩ := Kx3.out
    simp only [Nat.zero_add] at x1 x2 x3 x4 x5
    obtain ⟨⟨al, a0, a1, a2, a3, a4, a5⟩, af0, af1, af2, af3, af4, af5⟩ := Ka3.out
    simp only [Nat.zero_add] at a1 a2 a3 a4 a5
    go_wp2_with fail
    refine (fhull_r x a x 0 HZ.out _).mono ?_
    rintro e w4 ⟨rfl, hb4⟩
    clear xl x0 x1 x2 x3 x4 x5 xf0 xf1 xf2 xf3 xf4 xf5 al a0 a1 a2 a3 a4 a5 af0 af1 af2 af3 af4 af5
    have hal : Below w3.heap.size w3 (w3.alloc (bo (x))) := (below_grow _ (Nat.le_refl _) (Below.refl _ _) _)
    have hn : Below w3.heap.size w3 w4 := hal.trans (hb4.mono hal.size)
    have HB4 : Hid (Below w.heap.size w w4) := HB3.out.trans (hn.mono HB3.out.size)
    have Ka4 : Hid (Bf (w.heap.size) (a) w4) := Ka3.out.later hn
    have Kb4 : Hid (Bf (w.heap.size + 1) (b) w4) := Kb3.out.later hn
    have Kd4 : Hid (Bf (w.heap.size + 1 + 1) (cube2) w4) := Kd3.out.later hn
    have Kx14 : Hid (Bf (w1.heap.size) (cube2) w4) := Kx13.out.later hn
    have Kx4 : Hid (Bf (w2.heap.size) (x) w4) := Kx3.out.later hn
    have Ky4 : Hid (Bf (w3.heap.size) (x) w4) := by
      have h := ((Bf.new w3 (x)).later (Below.refl _ _)).later hb4
      show Bf _ _ _
      simpa using h
    clear hal hn hb4
    obtain ⟨⟨xl, x0, x1, x2, x3, x4, x5⟩, xf0, xf1, xf2, xf3, xf4, xf5⟩ := Kx4.out
    simp only [Nat.zero_add] at x1 x2 x3 x4 x5
    obtain ⟨⟨bl, b0, b1, b2, b3, b4, b5⟩, bf0, bf1, bf2, bf3, bf4, bf5⟩ := Kb4.out
    simp only [Nat.zero_add] at b1 b2 b3 b4 b5
    go_wp2_with fail
    refine (fhull_r b x x 0 HV.out _).mono ?_
    rintro e w5 ⟨rfl, hb5⟩
    clear xl x0 x1 x2 x3 x4 x5 xf0 xf1 xf2 xf3 xf4 xf5 bl b0 b1 b2 b3 b4 b5 bf0 bf1 bf2 bf3 bf4 bf5
    have hal : Below w4.heap.size w4 (w4.alloc (bo (x))) := (below_grow _ (Nat.le_refl _) (Below.refl _ _) _)
    have hn : Below w4.heap.size w4 w5 := hal.trans (hb5.mono hal.size)
    have HB5 : Hid (Below w.heap.size w w5) := HB4.out.trans (hn.mono HB4.out.size)
    have Ka5 : Hid (Bf (w.heap.size) (a) w5) := Ka4.out.later hn
    have Kb5 : Hid (Bf (w.heap.size + 1) (b) w5) := Kb4.out.later hn
    have Kd5 : Hid (Bf (w.heap.size + 1 + 1) (cube2) w5) := Kd4.out.later hn
    have Kx15 : Hid (Bf (w1.heap.size) (cube2) w5) := Kx14.out.later hn
    have Kx5 : Hid (Bf (w2.heap.size) (x) w5) := Kx4.out.later hn
    have Ky5 : Hid (Bf (w3.heap.size) (x) w5) := Ky4.out.later hn
    have Kz5 : Hid (Bf (w4.heap.size) (x) w5) := by
      have h := ((Bf.new w4 (x)).later (Below.refl _ _)).later hb5
      show Bf _ _ _
      simpa using h
    clear hal hn hb5
    obtain ⟨⟨xl, x0, x1, x2, x3, x4, x5⟩, xf0, xf1, xf2, xf3, xf4, xf5⟩ := Kx5.out
    simp only [Nat.zero_add] at x1 x2 x3 x4 x5
    obtain ⟨⟨yl, y0, y1, y2, y3, y4, y5⟩, yf0, yf1, yf2, yf3, yf4, yf5⟩ := Ky5.out
    simp only [Nat.zero_add] at y1 y2 y3 y4 y5
    obtain ⟨⟨zl, z0, z1, z2, z3, z4, z5⟩, zf0, zf1, zf2, zf3, zf4, zf5⟩ := Kz5.out
    simp only [Nat.zero_add] at z1 z2 z3 z4 z5
    go_wp2
    go_ret
    exact ⟨by simp, below_grow _ (Nat.le_refl _) HB5.out _⟩
  · obtain ⟨r, hrr⟩ : ∃ r, r = badL [a, b] := ⟨_, rfl⟩
    have hne : (r != 0) = true := by simp [hrr, hr]
    have HX : Hid (hullR a b = (zB, r)) := by show _ = _; rw [hrr]; exact if_neg hr
    clear hrr hr
    have HB0 : Hid (Below w.heap.size w w) := Below.refl _ _
    go_enter Try.func8, Try.ntmps8
    go_wp2_with fail
    refine (fhull_r cube2 cube2 cube2 0 cube2_hull _).mono ?_
    rintro e w1 ⟨rfl, hb1⟩
    have hal : Below w.heap.size w (((w.alloc (bo (a))).alloc (bo (b))).alloc (bo (cube2))) := (below_grow _ (Nat.le_refl _) (below_grow _ (Nat.le_refl _) (below_grow _ (Nat.le_refl _) (Below.refl _ _) _) _) _)
    have hn : Below w.heap.size w w1 := hal.trans (hb1.mono hal.size)
    have HB1 : Hid (Below w.heap.size w w1) := HB0.out.trans (hn.mono HB0.out.size)
    have Ka1 : Hid (Bf (w.heap.size) (a) w1) := by
      have h := ((Bf.new w (a)).later (below_grow _ (Nat.le_refl _) (below_grow _ (Nat.le_refl _) (Below.refl _ _) _) _)).later hb1
      show Bf _ _ _
      simpa using h
    have Kb1 : Hid (Bf (w.heap.size + 1) (b) w1) := by
      have h := ((Bf.new (w.alloc (bo (a))) (b)).later (below_grow _ (Nat.le_refl _) (Below.refl _ _) _)).later hb1
      show Bf _ _ _
      simpa using h
    have Kd1 : Hid (Bf (w.heap.size + 1 + 1) (cube2) w1) := by
      have h := ((Bf.new ((w.alloc (bo (a))).alloc (bo (b))) (cube2)).later (Below.refl _ _)).later hb1
      show Bf _ _ _
      simpa using h
    clear hal hn hb1
    obtain ⟨⟨al, a0, a1, a2, a3, a4, a5⟩, af0, af1, af2, af3, af4, af5⟩ := Ka1.out
    simp only [Nat.zero_add] at a1 a2 a3 a4 a5
    obtain ⟨⟨bl, b0, b1, b2, b3, b4, b5⟩, bf0, bf1, bf2, bf3, bf4, bf5⟩ := Kb1.out
    simp only [Nat.zero_add] at b1 b2 b3 b4 b5
    obtain ⟨⟨dl, d0, d1, d2, d3, d4, d5⟩, df0, df1, df2, df3, df4, df5⟩ := Kd1.out
    simp only [Nat.zero_add] at d1 d2 d3 d4 d5
    go_wp2_with fail
    refine (fhull_r a b zB r HX.out _).mono ?_
    rintro e w2 ⟨rfl, hb2⟩
    clear al a0 a1 a2 a3 a4 a5 af0 af1 af2 af3 af4 af5 bl b0 b1 b2 b3 b4 b5 bf0 bf1 bf2 bf3 bf4 bf5 dl d0 d1 d2 d3 d4 d5 df0 df1 df2 df3 df4 df5
    have hal : Below w1.heap.size w1 (w1.alloc (bo (cube2))) := (below_grow _ (Nat.le_refl _) (Below.refl _ _) _)
    have hn : Below w1.heap.size w1 w2 := hal.trans (hb2.mono hal.size)
    have HB2 : Hid (Below w.heap.size w w2) := HB1.out.trans (hn.mono HB1.out.size)
    have Ka2 : Hid (Bf (w.heap.size) (a) w2) := Ka1.out.later hn
    have Kb2 : Hid (Bf (w.heap.size + 1) (b) w2) := Kb1.out.later hn
    have Kd2 : Hid (Bf (w.heap.size + 1 + 1) (cube2) w2) := Kd1.out.later hn
    have Kx12 : Hid (Bf (w1.heap.size) (cube2) w2) := by
      have h := ((Bf.new w1 (cube2)).later (Below.refl _ _)).later hb2
      show Bf _ _ _
      simpa using h
    clear hal hn hb2
    go_wp2
    go_ret
    exact ⟨by simp, below_grow _ (Nat.le_refl _) HB2.out _⟩
end Go.Proofs.Ytiafcgbohckmmaa
