/- FirmDoes walked, at a rig that may not be. -/
import Derived.Test.YtgahlhfgpkklaaaDoorGPH
import Derived.Test.YtgahlhfgpkklaaaDoorGQH
namespace Go.Proofs.YtgahlhfgpkklaaaDoor
open Go.RowKit Go.Maps

set_option maxHeartbeats 6400000 in
set_option maxRecDepth 100000 in
theorem firmDoes_a (a : Nat → Addr) (n : Nat) (r : Rg) (f : Fm) (c : Cm) (p q : Pt) (w : World) (hg : Gl a n w) (h : rgOk r = false) : Calls Tryd.prog 3 #[rgv r, fv f, cmv c, v3 p, v3 q] w fun e w' => e = .returned (.bool true) ∧ Below w.heap.size w w' := by
  have HS : Hid (∀ W, Gl a n W → Calls Tryd.prog 7 #[rgv r] W fun e w' => e = .returned (.tuple #[zfv, .int .i64 2]) ∧ Below W.heap.size W w') := fun W hW => Start_no a n r W hW h
  have HM : Hid (∀ W, Gl a n W → Calls Tryd.prog 8 #[rgv r, fv f] W fun e w' => e = .returned (.bool false) ∧ Below W.heap.size W w') := fun W hW => by have := May_any a n r f W hW; rwa [h] at this
  have HD : Hid (∀ W, Gl a n W → Calls Tryd.prog 9 #[rgv r, fv f, cmv c] W fun e w' => e = .returned (.tuple #[zfv, .int .i64 2]) ∧ Below W.heap.size W w') := fun W hW => Do_no a n r f c W hW (nb_none h f)
  have HE : Hid (∀ W, Gl a n W → Calls Tryd.prog 10 #[rgv r, v3 p, v3 q] W fun e w' => e = .returned (.tuple #[.int .i64 0, .int .i64 2]) ∧ Below W.heap.size W w') := fun W hW => Need_a a n r p q W hW h
  have HR : Hid (∀ W, Calls Tryd.prog 11 #[rgv r] W fun e w' => e = .returned (.bool false) ∧ Below W.heap.size W w') := fun W => by have := rigMay_any r W; rwa [h] at this
  obtain ⟨w0, hw0⟩ : ∃ x, x = (((((w.alloc (rgo r)).alloc (fo f)).alloc (cmo c)).alloc (o3 p 23)).alloc (o3 q 23)) := ⟨_, rfl⟩
  have HB0 : Hid (Below w.heap.size w w0) := by show Below _ _ _; rw [hw0]; exact below_on (below_on (three_new _ _ _ _) (one_new _ _)) (one_new _ _)
  have KR0 : Hid (Bk (w.heap.size) (rgc r) w0) := by show Bk _ _ _; rw [hw0]; exact ((((Bk.new w (rgc r) 27 (w.heap.size) rfl).later (one_new _ _)).later (one_new _ _)).later (one_new _ _)).later (one_new _ _)
  have KF0 : Hid (Bk (w.heap.size + 1) (fc f) w0) := by show Bk _ _ _; rw [hw0]; exact (((Bk.new (w.alloc (rgo r)) (fc f) 29 (w.heap.size + 1) (by simp)).later (one_new _ _)).later (one_new _ _)).later (one_new _ _)
  have KC0 : Hid (Bk (w.heap.size + 1 + 1) (cmc c) w0) := by show Bk _ _ _; rw [hw0]; exact ((Bk.new ((w.alloc (rgo r)).alloc (fo f)) (cmc c) 31 (w.heap.size + 1 + 1) (by simp)).later (one_new _ _)).later (one_new _ _)
  have KP0 : Hid (Bk (w.heap.size + 1 + 1 + 1) (c3 p) w0) := by show Bk _ _ _; rw [hw0]; exact (Bk.new (((w.alloc (rgo r)).alloc (fo f)).alloc (cmo c)) (c3 p) 23 (w.heap.size + 1 + 1 + 1) (by simp)).later (one_new _ _)
  have KQ0 : Hid (Bk (w.heap.size + 1 + 1 + 1 + 1) (c3 q) w0) := by show Bk _ _ _; rw [hw0]; exact Bk.new ((((w.alloc (rgo r)).alloc (fo f)).alloc (cmo c)).alloc (o3 p 23)) (c3 q) 23 (w.heap.size + 1 + 1 + 1 + 1) (by simp)
  have HG0 : Hid (Gl a n w0) := hg.later HB0.out
  obtain ⟨Q, hQ⟩ : ∃ b, b = w.heap.size + 1 + 1 + 1 + 1 := ⟨_, rfl⟩
  obtain ⟨P, hP⟩ : ∃ b, b = w.heap.size + 1 + 1 + 1 := ⟨_, rfl⟩
  obtain ⟨C, hC⟩ : ∃ b, b = w.heap.size + 1 + 1 := ⟨_, rfl⟩
  obtain ⟨F, hF⟩ : ∃ b, b = w.heap.size + 1 := ⟨_, rfl⟩
  obtain ⟨R, hR⟩ : ∃ b, b = w.heap.size := ⟨_, rfl⟩
  rw [← hR] at KR0
  rw [← hF] at KF0
  rw [← hC] at KC0
  rw [← hP] at KP0
  rw [← hQ] at KQ0
  clear h hg
  go_enter Tryd.func3, Tryd.ntmps3
  go_wp2_with fail
  simp only [show ((((w.alloc (rgo r)).alloc (fo f)).alloc (.cells #[.int .i64 c.k, .int .i64 c.x, .int .i64 c.y, .int .i64 c.z, .int .i64 c.v] 31)).alloc (o3 p 23)).alloc (o3 q 23) = w0 from hw0.symm]
  simp only [← hQ]
  simp only [← hP]
  simp only [← hC]
  simp only [← hF]
  simp only [← hR]
  clear hw0 hQ hP hC hF hR
  refine (HS.out _ HG0.out).mono ?_
  rintro e w1 ⟨rfl, hb⟩
  have HB1 : Hid (Below w.heap.size w w1) := below_on HB0.out hb
  have HG1 : Hid (Gl a n w1) := HG0.out.later hb
  have KR1 : Hid (Bk R (rgc r) w1) := KR0.out.later hb
  have KF1 : Hid (Bk F (fc f) w1) := KF0.out.later hb
  have KC1 : Hid (Bk C (cmc c) w1) := KC0.out.later hb
  have KP1 : Hid (Bk P (c3 p) w1) := KP0.out.later hb
  have KQ1 : Hid (Bk Q (c3 q) w1) := KQ0.out.later hb
  clear hb HB0 HG0 KR0 KF0 KC0 KP0 KQ0
  obtain ⟨w2, hw2⟩ : ∃ y, y = w1.alloc (.cells #[.bool false, .int .i64 0, .int .i64 0, .int .i64 0, .int .i64 0, .bool false, .int .i64 0, .int .i64 0, .int .i64 0] 29) := ⟨_, rfl⟩
  have HB2 : Hid (Below w.heap.size w w2) := by show Below _ _ _; rw [hw2]; exact below_on HB1.out (one_new _ _)
  have HG2 : Hid (Gl a n w2) := by show Gl _ _ _; rw [hw2]; exact HG1.out.later (one_new _ _)
  have KR2 : Hid (Bk R (rgc r) w2) := by show Bk _ _ _; rw [hw2]; exact KR1.out.later (one_new _ _)
  have KF2 : Hid (Bk F (fc f) w2) := by show Bk _ _ _; rw [hw2]; exact KF1.out.later (one_new _ _)
  have KC2 : Hid (Bk C (cmc c) w2) := by show Bk _ _ _; rw [hw2]; exact KC1.out.later (one_new _ _)
  have KP2 : Hid (Bk P (c3 p) w2) := by show Bk _ _ _; rw [hw2]; exact KP1.out.later (one_new _ _)
  have KQ2 : Hid (Bk Q (c3 q) w2) := by show Bk _ _ _; rw [hw2]; exact KQ1.out.later (one_new _ _)
  have KS2 : Hid (Bk w1.heap.size zfc w2) := by show Bk _ _ _; rw [hw2]; exact Bk.new w1 zfc 29 w1.heap.size rfl
  obtain ⟨S, hS⟩ : ∃ b, b = w1.heap.size := ⟨_, rfl⟩
  rw [← hS] at KS2
  have r0 := KR1.out.c 0 rfl
  have r1 := KR1.out.c 1 rfl
  have r2 := KR1.out.c 2 rfl
  have r3 := KR1.out.c 3 rfl
  have r4 := KR1.out.c 4 rfl
  have r5 := KR1.out.c 5 rfl
  have r6 := KR1.out.c 6 rfl
  have r7 := KR1.out.c 7 rfl
  have r8 := KR1.out.c 8 rfl
  have r9 := KR1.out.c 9 rfl
  have r10 := KR1.out.c 10 rfl
  have r11 := KR1.out.c 11 rfl
  have f0 := KF1.out.c 0 rfl
  have f1 := KF1.out.c 1 rfl
  have f2 := KF1.out.c 2 rfl
  have f3 := KF1.out.c 3 rfl
  have f4 := KF1.out.c 4 rfl
  have f5 := KF1.out.c 5 rfl
  have f6 := KF1.out.c 6 rfl
  have f7 := KF1.out.c 7 rfl
  have f8 := KF1.out.c 8 rfl
  have lR := KR1.out.1
  have lF := KF1.out.1
  go_wp2_with fail
  simp only [← hw2, ← hS]
  clear hw2 hS lR lF r0 r1 r2 r3 r4 r5 r6 r7 r8 r9 r10 r11 f0 f1 f2 f3 f4 f5 f6 f7 f8 KR1 KF1 KC1 KP1 KQ1 HB1 HG1
  refine (HM.out _ HG2.out).mono ?_
  rintro e w3 ⟨rfl, hb⟩
  have HB3 : Hid (Below w.heap.size w w3) := below_on HB2.out hb
  have HG3 : Hid (Gl a n w3) := HG2.out.later hb
  have KR3 : Hid (Bk R (rgc r) w3) := KR2.out.later hb
  have KF3 : Hid (Bk F (fc f) w3) := KF2.out.later hb
  have KC3 : Hid (Bk C (cmc c) w3) := KC2.out.later hb
  have KP3 : Hid (Bk P (c3 p) w3) := KP2.out.later hb
  have KQ3 : Hid (Bk Q (c3 q) w3) := KQ2.out.later hb
  have KS3 : Hid (Bk S zfc w3) := KS2.out.later hb
  clear hb HB2 HG2 KR2 KF2 KC2 KP2 KQ2 KS2
  have r0 := KR3.out.c 0 rfl
  have r1 := KR3.out.c 1 rfl
  have r2 := KR3.out.c 2 rfl
  have r3 := KR3.out.c 3 rfl
  have r4 := KR3.out.c 4 rfl
  have r5 := KR3.out.c 5 rfl
  have r6 := KR3.out.c 6 rfl
  have r7 := KR3.out.c 7 rfl
  have r8 := KR3.out.c 8 rfl
  have r9 := KR3.out.c 9 rfl
  have r10 := KR3.out.c 10 rfl
  have r11 := KR3.out.c 11 rfl
  have f0 := KF3.out.c 0 rfl
  have f1 := KF3.out.c 1 rfl
  have f2 := KF3.out.c 2 rfl
  have f3 := KF3.out.c 3 rfl
  have f4 := KF3.out.c 4 rfl
  have f5 := KF3.out.c 5 rfl
  have f6 := KF3.out.c 6 rfl
  have f7 := KF3.out.c 7 rfl
  have f8 := KF3.out.c 8 rfl
  have c0 := KC3.out.c 0 rfl
  have c1 := KC3.out.c 1 rfl
  have c2 := KC3.out.c 2 rfl
  have c3 := KC3.out.c 3 rfl
  have c4 := KC3.out.c 4 rfl
  go_wp2_with fail
  clear r0 r1 r2 r3 r4 r5 r6 r7 r8 r9 r10 r11 f0 f1 f2 f3 f4 f5 f6 f7 f8 c0 c1 c2 c3 c4
  refine (HD.out _ HG3.out).mono ?_
  rintro e w4 ⟨rfl, hb⟩
  have HB4 : Hid (Below w.heap.size w w4) := below_on HB3.out hb
  have HG4 : Hid (Gl a n w4) := HG3.out.later hb
  have KR4 : Hid (Bk R (rgc r) w4) := KR3.out.later hb
  have KF4 : Hid (Bk F (fc f) w4) := KF3.out.later hb
  have KC4 : Hid (Bk C (cmc c) w4) := KC3.out.later hb
  have KP4 : Hid (Bk P (c3 p) w4) := KP3.out.later hb
  have KQ4 : Hid (Bk Q (c3 q) w4) := KQ3.out.later hb
  have KS4 : Hid (Bk S zfc w4) := KS3.out.later hb
  clear hb HB3 HG3 KR3 KF3 KC3 KP3 KQ3 KS3
  obtain ⟨w5, hw5⟩ : ∃ y, y = w4.alloc (.cells #[.bool false, .int .i64 0, .int .i64 0, .int .i64 0, .int .i64 0, .bool false, .int .i64 0, .int .i64 0, .int .i64 0] 29) := ⟨_, rfl⟩
  have HB5 : Hid (Below w.heap.size w w5) := by show Below _ _ _; rw [hw5]; exact below_on HB4.out (one_new _ _)
  have HG5 : Hid (Gl a n w5) := by show Gl _ _ _; rw [hw5]; exact HG4.out.later (one_new _ _)
  have KR5 : Hid (Bk R (rgc r) w5) := by show Bk _ _ _; rw [hw5]; exact KR4.out.later (one_new _ _)
  have KF5 : Hid (Bk F (fc f) w5) := by show Bk _ _ _; rw [hw5]; exact KF4.out.later (one_new _ _)
  have KC5 : Hid (Bk C (cmc c) w5) := by show Bk _ _ _; rw [hw5]; exact KC4.out.later (one_new _ _)
  have KP5 : Hid (Bk P (c3 p) w5) := by show Bk _ _ _; rw [hw5]; exact KP4.out.later (one_new _ _)
  have KQ5 : Hid (Bk Q (c3 q) w5) := by show Bk _ _ _; rw [hw5]; exact KQ4.out.later (one_new _ _)
  have KS5 : Hid (Bk S zfc w5) := by show Bk _ _ _; rw [hw5]; exact KS4.out.later (one_new _ _)
  have KX5 : Hid (Bk w4.heap.size zfc w5) := by show Bk _ _ _; rw [hw5]; exact Bk.new w4 zfc 29 w4.heap.size rfl
  obtain ⟨X, hX⟩ : ∃ b, b = w4.heap.size := ⟨_, rfl⟩
  rw [← hX] at KX5
  have r0 := KR4.out.c 0 rfl
  have r1 := KR4.out.c 1 rfl
  have r2 := KR4.out.c 2 rfl
  have r3 := KR4.out.c 3 rfl
  have r4 := KR4.out.c 4 rfl
  have r5 := KR4.out.c 5 rfl
  have r6 := KR4.out.c 6 rfl
  have r7 := KR4.out.c 7 rfl
  have r8 := KR4.out.c 8 rfl
  have r9 := KR4.out.c 9 rfl
  have r10 := KR4.out.c 10 rfl
  have r11 := KR4.out.c 11 rfl
  have p0 := KP4.out.c 0 rfl
  have p1 := KP4.out.c 1 rfl
  have p2 := KP4.out.c 2 rfl
  have q0 := KQ4.out.c 0 rfl
  have q1 := KQ4.out.c 1 rfl
  have q2 := KQ4.out.c 2 rfl
  have lR := KR4.out.1
  have lP := KP4.out.1
  have lQ := KQ4.out.1
  go_wp2_with fail
  simp only [← hw5, ← hX]
  clear hw5 hX lR lP lQ r0 r1 r2 r3 r4 r5 r6 r7 r8 r9 r10 r11 p0 p1 p2 q0 q1 q2 KR4 KF4 KC4 KP4 KQ4 KS4 HB4 HG4
  refine (HE.out _ HG5.out).mono ?_
  rintro e w6 ⟨rfl, hb⟩
  have HB6 : Hid (Below w.heap.size w w6) := below_on HB5.out hb
  have HG6 : Hid (Gl a n w6) := HG5.out.later hb
  have KR6 : Hid (Bk R (rgc r) w6) := KR5.out.later hb
  have KF6 : Hid (Bk F (fc f) w6) := KF5.out.later hb
  have KC6 : Hid (Bk C (cmc c) w6) := KC5.out.later hb
  have KP6 : Hid (Bk P (c3 p) w6) := KP5.out.later hb
  have KQ6 : Hid (Bk Q (c3 q) w6) := KQ5.out.later hb
  have KS6 : Hid (Bk S zfc w6) := KS5.out.later hb
  have KX6 : Hid (Bk X zfc w6) := KX5.out.later hb
  clear hb HB5 HG5 KR5 KF5 KC5 KP5 KQ5 KS5 KX5
  obtain ⟨w7, hw7⟩ : ∃ y, y = w6.alloc (.cells #[.bool false, .int .i64 0, .int .i64 0, .int .i64 0, .int .i64 0, .bool false, .int .i64 0, .int .i64 0, .int .i64 0] 29) := ⟨_, rfl⟩
  have HB7 : Hid (Below w.heap.size w w7) := by show Below _ _ _; rw [hw7]; exact below_on HB6.out (one_new _ _)
  have HG7 : Hid (Gl a n w7) := by show Gl _ _ _; rw [hw7]; exact HG6.out.later (one_new _ _)
  have KR7 : Hid (Bk R (rgc r) w7) := by show Bk _ _ _; rw [hw7]; exact KR6.out.later (one_new _ _)
  have KF7 : Hid (Bk F (fc f) w7) := by show Bk _ _ _; rw [hw7]; exact KF6.out.later (one_new _ _)
  have KC7 : Hid (Bk C (cmc c) w7) := by show Bk _ _ _; rw [hw7]; exact KC6.out.later (one_new _ _)
  have KP7 : Hid (Bk P (c3 p) w7) := by show Bk _ _ _; rw [hw7]; exact KP6.out.later (one_new _ _)
  have KQ7 : Hid (Bk Q (c3 q) w7) := by show Bk _ _ _; rw [hw7]; exact KQ6.out.later (one_new _ _)
  have KS7 : Hid (Bk S zfc w7) := by show Bk _ _ _; rw [hw7]; exact KS6.out.later (one_new _ _)
  have KX7 : Hid (Bk X zfc w7) := by show Bk _ _ _; rw [hw7]; exact KX6.out.later (one_new _ _)
  have KZ7 : Hid (Bk w6.heap.size zfc w7) := by show Bk _ _ _; rw [hw7]; exact Bk.new w6 zfc 29 w6.heap.size rfl
  obtain ⟨Z, hZ⟩ : ∃ b, b = w6.heap.size := ⟨_, rfl⟩
  rw [← hZ] at KZ7
  have r0 := KR6.out.c 0 rfl
  have r1 := KR6.out.c 1 rfl
  have r2 := KR6.out.c 2 rfl
  have r3 := KR6.out.c 3 rfl
  have r4 := KR6.out.c 4 rfl
  have r5 := KR6.out.c 5 rfl
  have r6 := KR6.out.c 6 rfl
  have r7 := KR6.out.c 7 rfl
  have r8 := KR6.out.c 8 rfl
  have r9 := KR6.out.c 9 rfl
  have r10 := KR6.out.c 10 rfl
  have r11 := KR6.out.c 11 rfl
  have s0 := KS6.out.c 0 rfl
  have s1 := KS6.out.c 1 rfl
  have s2 := KS6.out.c 2 rfl
  have s3 := KS6.out.c 3 rfl
  have s4 := KS6.out.c 4 rfl
  have s5 := KS6.out.c 5 rfl
  have s6 := KS6.out.c 6 rfl
  have s7 := KS6.out.c 7 rfl
  have s8 := KS6.out.c 8 rfl
  have lR := KR6.out.1
  have lS := KS6.out.1
  go_wp2_with fail
  simp only [← hw7, ← hZ]
  clear hw7 hZ lR lS r0 r1 r2 r3 r4 r5 r6 r7 r8 r9 r10 r11 s0 s1 s2 s3 s4 s5 s6 s7 s8 KR6 KF6 KC6 KP6 KQ6 KS6 KX6 HB6 HG6
  refine (HR.out _).mono ?_
  rintro e w8 ⟨rfl, hb⟩
  have HB8 : Hid (Below w.heap.size w w8) := below_on HB7.out hb
  have HG8 : Hid (Gl a n w8) := HG7.out.later hb
  have KX8 : Hid (Bk X zfc w8) := KX7.out.later hb
  have KZ8 : Hid (Bk Z zfc w8) := KZ7.out.later hb
  clear hb HB7 HG7 KX7 KZ7
  have x0 := KX8.out.c 0 rfl
  have x1 := KX8.out.c 1 rfl
  have x2 := KX8.out.c 2 rfl
  have x3 := KX8.out.c 3 rfl
  have x4 := KX8.out.c 4 rfl
  have x5 := KX8.out.c 5 rfl
  have x6 := KX8.out.c 6 rfl
  have x7 := KX8.out.c 7 rfl
  have x8 := KX8.out.c 8 rfl
  have z0 := KZ8.out.c 0 rfl
  have z1 := KZ8.out.c 1 rfl
  have z2 := KZ8.out.c 2 rfl
  have z3 := KZ8.out.c 3 rfl
  have z4 := KZ8.out.c 4 rfl
  have z5 := KZ8.out.c 5 rfl
  have z6 := KZ8.out.c 6 rfl
  have z7 := KZ8.out.c 7 rfl
  have z8 := KZ8.out.c 8 rfl
  go_wp2
  go_ret
  exact ⟨rfl, HB8.out⟩
end Go.Proofs.YtgahlhfgpkklaaaDoor
