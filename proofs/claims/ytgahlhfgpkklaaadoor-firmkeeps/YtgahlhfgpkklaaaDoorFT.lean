/- FirmKeeps walked, its second part. -/
import Derived.Test.YtgahlhfgpkklaaaDoorFS
namespace Go.Proofs.YtgahlhfgpkklaaaDoor
open Go.RowKit Go.Maps

set_option maxHeartbeats 6400000 in
set_option maxRecDepth 100000 in
theorem firmKeeps_b (a : Nat → Addr) (n : Nat) (r : Rg) (f : Fm) (c : Cm) (w : World) (hg : Gl a n w) (he : DoE r f c = 0) (g : Fm) (hgf : g = DoV r f c) (hs : f.pt = g.pt) : Calls Tryd.prog 5 #[rgv r, fv f, cmv c] w fun e w' => e = .returned (.bool true) ∧ Below w.heap.size w w' := by
  obtain ⟨hr, hf, _, _, _, hfg, htk⟩ := done_ok he
  rw [← hgf] at hfg htk
  have HD : Hid (∀ W, Gl a n W → Calls Tryd.prog 9 #[rgv r, fv f, cmv c] W fun e w' => e = .returned (.tuple #[fv g, .int .i64 0]) ∧ Below W.heap.size W w') := fun W hW => by
    have := Do_any a n r f c W hW
    rwa [he, ← hgf] at this
  have HM : Hid (∀ W, Gl a n W → Calls Tryd.prog 8 #[rgv r, fv f] W fun e w' => e = .returned (.bool true) ∧ Below W.heap.size W w') := fun W hW => by
    have := May_any a n r f W hW
    rwa [hr, hf] at this
  have HM2 : Hid (∀ W, Gl a n W → Calls Tryd.prog 8 #[rgv r, fv g] W fun e w' => e = .returned (.bool true) ∧ Below W.heap.size W w') := fun W hW => by
    have := May_any a n r g W hW
    rwa [hr, hfg] at this
  obtain ⟨t, ht⟩ : ∃ t, t = tick r f.pt g.pt := ⟨_, rfl⟩
  have e1 : NeE r f.pt g.pt = 0 := by unfold NeE; rw [hr, if_neg (by decide), if_pos ⟨(fmOk_iff.1 hf).at', (fmOk_iff.1 hfg).at'⟩]
  have e2 : NeE r g.pt f.pt = 0 := by unfold NeE; rw [hr, if_neg (by decide), if_pos ⟨(fmOk_iff.1 hfg).at', (fmOk_iff.1 hf).at'⟩]
  have HN : Hid (∀ W, Gl a n W → Calls Tryd.prog 10 #[rgv r, v3 f.pt, v3 g.pt] W fun e w' => e = .returned (.tuple #[.int .i64 t, .int .i64 0]) ∧ Below W.heap.size W w') := fun W hW => by
    have := Need_any a n r f.pt g.pt W hW
    rwa [show NeT r f.pt g.pt = t by unfold NeT; rw [if_pos e1, ht], e1] at this
  have HN2 : Hid (∀ W, Gl a n W → Calls Tryd.prog 10 #[rgv r, v3 g.pt, v3 f.pt] W fun e w' => e = .returned (.tuple #[.int .i64 t, .int .i64 0]) ∧ Below W.heap.size W w') := fun W hW => by
    have := Need_any a n r g.pt f.pt W hW
    rwa [show NeT r g.pt f.pt = t by unfold NeT; rw [if_pos e2, ht, tick_sym], e2] at this
  have htz := tick_zero (rgOk_iff.1 hr) (fmOk_iff.1 hf).at' (fmOk_iff.1 hfg).at'
  rw [← ht] at htz
  have ht0 : t = 0 := htz.2 hs
  rw [ht0] at HN HN2
  have HX : Hid (g.pt = f.pt) := hs.symm
  rw [hs.symm] at HN HN2
  clear ht htz e1 e2 hf hfg hr he hgf hs ht0
  have HDo : Hid (∀ W, Gl a n W → Calls Tryd.prog 9 #[rgv r1, fv f0, cmv c1] W fun e w' => e = .returned (.tuple #[.agg #[.bool true, .int .i64 0, .int .i64 0, .int .i64 0, .int .i64 0, .bool false, .int .i64 0, .int .i64 0, .int .i64 90], .int .i64 0]) ∧ Below W.heap.size W w') := fun W hW => by
    have := Do_any a n r1 f0 c1 W hW
    rw [home1.1, home1.2] at this
    exact this
  obtain ⟨w0, hw0⟩ : ∃ x, x = (((w.alloc (rgo r)).alloc (fo f)).alloc (cmo c)).alloc r1o := ⟨_, rfl⟩
  have HB0 : Hid (Below w.heap.size w w0) := by show Below _ _ _; rw [hw0]; exact below_on (three_new _ _ _ _) (one_new _ _)
  have KC0 : Hid (Bk (w.heap.size + 1 + 1) (cmc c) w0) := by show Bk _ _ _; rw [hw0]; exact (Bk.new ((w.alloc (rgo r)).alloc (fo f)) (cmc c) 31 (w.heap.size + 1 + 1) (by simp)).later (one_new _ _)
  have KF0 : Hid (Bk (w.heap.size + 1) (fc f) w0) := by show Bk _ _ _; rw [hw0]; exact (Bk.new (w.alloc (rgo r)) (fc f) 29 (w.heap.size + 1) (by simp)).later (two_new _ _ _)
  have KR0 : Hid (Bk w.heap.size (rgc r) w0) := by show Bk _ _ _; rw [hw0]; exact (Bk.new w (rgc r) 27 w.heap.size rfl).later (three_new _ _ _ _)
  have HG0 : Hid (Gl a n w0) := hg.later HB0.out
  obtain ⟨C, hC⟩ : ∃ b, b = w.heap.size + 1 + 1 := ⟨_, rfl⟩
  obtain ⟨F, hF⟩ : ∃ b, b = w.heap.size + 1 := ⟨_, rfl⟩
  obtain ⟨R, hR⟩ : ∃ b, b = w.heap.size := ⟨_, rfl⟩
  rw [← hC] at KC0
  rw [← hF] at KF0
  rw [← hR] at KR0
  clear hg
  go_enter Tryd.func5, Tryd.ntmps5
  go_wp2_with (refine wpList_store_new rfl 27 _ _ rfl (((w.alloc (rgo r)).alloc (fo f)).alloc (cmo c)) (w.heap.size + 1 + 1 + 1) _ _ rfl (by simp) rfl rfl info27 rfl (by kernel_rfl) ?_)
  simp only [show (((w.alloc (rgo r)).alloc (fo f)).alloc (.cells #[.int .i64 c.k, .int .i64 c.x, .int .i64 c.y, .int .i64 c.z, .int .i64 c.v] 31)).alloc r1o = w0 from hw0.symm, ← hC]
  simp only [← hF]
  simp only [← hR]
  clear hw0 hC hF hR
  refine Calls.mono (HDo.out _ HG0.out) ?_
  rintro e w1 ⟨rfl, hb1⟩
  obtain ⟨w2, hw2⟩ : ∃ x, x = w1.alloc (.cells (fc f1).toArray 29) := ⟨_, rfl⟩
  have HB2 : Hid (Below w.heap.size w w2) := by show Below _ _ _; rw [hw2]; exact below_on (below_on HB0.out hb1) (one_new _ _)
  have KR2 : Hid (Bk R (rgc r) w2) := by show Bk _ _ _; rw [hw2]; exact (KR0.out.later hb1).later (one_new _ _)
  have KF2 : Hid (Bk F (fc f) w2) := by show Bk _ _ _; rw [hw2]; exact (KF0.out.later hb1).later (one_new _ _)
  have KC2 : Hid (Bk C (cmc c) w2) := by show Bk _ _ _; rw [hw2]; exact (KC0.out.later hb1).later (one_new _ _)
  have HG2 : Hid (Gl a n w2) := by show Gl _ _ _; rw [hw2]; exact (HG0.out.later hb1).later (one_new _ _)
  have KO2 : Hid (Bk w1.heap.size (fc f1) w2) := by show Bk _ _ _; rw [hw2]; exact Bk.new w1 (fc f1) 29 w1.heap.size rfl
  have KR1 := KR0.out.later hb1
  have KF1 := KF0.out.later hb1
  have KC1 := KC0.out.later hb1
  have r0 := KR1.c 0 rfl
  have r1 := KR1.c 1 rfl
  have r2 := KR1.c 2 rfl
  have r3 := KR1.c 3 rfl
  have r4 := KR1.c 4 rfl
  have r5 := KR1.c 5 rfl
  have r6 := KR1.c 6 rfl
  have r7 := KR1.c 7 rfl
  have r8 := KR1.c 8 rfl
  have r9 := KR1.c 9 rfl
  have r10 := KR1.c 10 rfl
  have r11 := KR1.c 11 rfl
  have s0 := KF1.c 0 rfl
  have s1 := KF1.c 1 rfl
  have s2 := KF1.c 2 rfl
  have s3 := KF1.c 3 rfl
  have s4 := KF1.c 4 rfl
  have s5 := KF1.c 5 rfl
  have s6 := KF1.c 6 rfl
  have s7 := KF1.c 7 rfl
  have s8 := KF1.c 8 rfl
  have c0 := KC1.c 0 rfl
  have c1 := KC1.c 1 rfl
  have c2 := KC1.c 2 rfl
  have c3 := KC1.c 3 rfl
  have c4 := KC1.c 4 rfl
  have hRw : R < w1.heap.size := KR1.1
  have hFw : F < w1.heap.size := KF1.1
  have hCw : C < w1.heap.size := KC1.1
  clear hb1 KR0 KF0 KC0 HG0 HB0 KR1 KF1 KC1 KO2
  go_wp2_with fail
  simp only [show w1.alloc (.cells #[.bool true, .int .i64 0, .int .i64 0, .int .i64 0, .int .i64 0, .bool false, .int .i64 0, .int .i64 0, .int .i64 90] 29) = w2 from hw2.symm]
  clear hw2 hRw hFw hCw r0 r1 r2 r3 r4 r5 r6 r7 r8 r9 r10 r11 s0 s1 s2 s3 s4 s5 s6 s7 s8 c0 c1 c2 c3 c4
  refine Calls.mono (HD.out _ HG2.out) ?_
  rintro e w3 ⟨rfl, hb⟩
  obtain ⟨w4, hw4⟩ : ∃ x, x = w3.alloc (fo g) := ⟨_, rfl⟩
  have hb4 : Below w2.heap.size w2 w4 := by rw [hw4]; exact below_on hb (one_new _ _)
  have HB4 : Hid (Below w.heap.size w w4) := below_on HB2.out hb4
  have HG4 : Hid (Gl a n w4) := HG2.out.later hb4
  have KR4 : Hid (Bk R (rgc r) w4) := KR2.out.later hb4
  have KF4 : Hid (Bk F (fc f) w4) := KF2.out.later hb4
  have KX4 : Hid (Bk w3.heap.size (fc g) w4) := by show Bk _ _ _; rw [hw4]; exact Bk.new w3 (fc g) 29 w3.heap.size rfl
  have KR3 : Hid (Bk R (rgc r) w3) := KR2.out.later hb
  have KF3 : Hid (Bk F (fc f) w3) := KF2.out.later hb
  have hRw : R < w3.heap.size := KR3.out.1
  have hFw : F < w3.heap.size := KF3.out.1
  obtain ⟨X, hX⟩ : ∃ b, b = w3.heap.size := ⟨_, rfl⟩
  rw [← hX] at KX4
  have r0 := KR3.out.c 0 rfl
  have r1 := KR3.out.c 1 rfl
  have r2 := KR3.out.c 2 rfl
  have r3 := KR3.out.c 3 rfl
  have r4 := KR3.out.c 4 rfl
  have r5 := KR3.out.c 5 rfl
  have r6 := KR3.out.c 6 rfl
  have r7 := KR3.out.c 7 rfl
  have r8 := KR3.out.c 8 rfl
  have r9 := KR3.out.c 9 rfl
  have r10 := KR3.out.c 10 rfl
  have r11 := KR3.out.c 11 rfl
  have s0 := KF3.out.c 0 rfl
  have s1 := KF3.out.c 1 rfl
  have s2 := KF3.out.c 2 rfl
  have s3 := KF3.out.c 3 rfl
  have s4 := KF3.out.c 4 rfl
  have s5 := KF3.out.c 5 rfl
  have s6 := KF3.out.c 6 rfl
  have s7 := KF3.out.c 7 rfl
  have s8 := KF3.out.c 8 rfl
  go_wp2_with fail
  simp only [← hw4, ← hX]
  clear hw4 hX hRw hFw hb hb4 KR3 KF3 KR2 KF2 KC2 HG2 HB2
  clear r0 r1 r2 r3 r4 r5 r6 r7 r8 r9 r10 r11 s0 s1 s2 s3 s4 s5 s6 s7 s8
  refine Calls.mono (HM.out _ HG4.out) ?_
  rintro e w5 ⟨rfl, hb⟩
  have KR5 : Hid (Bk R (rgc r) w5) := KR4.out.later hb
  have KF5 : Hid (Bk F (fc f) w5) := KF4.out.later hb
  have KX5 : Hid (Bk X (fc g) w5) := KX4.out.later hb
  have HB5 : Hid (Below w.heap.size w w5) := below_on HB4.out hb
  have HG5 : Hid (Gl a n w5) := HG4.out.later hb
  clear hb KR4 KF4 KX4 HB4 HG4
  have r0 := KR5.out.c 0 rfl
  have r1 := KR5.out.c 1 rfl
  have r2 := KR5.out.c 2 rfl
  have r3 := KR5.out.c 3 rfl
  have r4 := KR5.out.c 4 rfl
  have r5 := KR5.out.c 5 rfl
  have r6 := KR5.out.c 6 rfl
  have r7 := KR5.out.c 7 rfl
  have r8 := KR5.out.c 8 rfl
  have r9 := KR5.out.c 9 rfl
  have r10 := KR5.out.c 10 rfl
  have r11 := KR5.out.c 11 rfl
  have s8 := KF5.out.c 8 rfl
  have x0 := KX5.out.c 0 rfl
  have x1 := KX5.out.c 1 rfl
  have x2 := KX5.out.c 2 rfl
  have x3 := KX5.out.c 3 rfl
  have x4 := KX5.out.c 4 rfl
  have x5 := KX5.out.c 5 rfl
  have x6 := KX5.out.c 6 rfl
  have x7 := KX5.out.c 7 rfl
  have x8 := KX5.out.c 8 rfl
  go_wp2_with fail
  clear r0 r1 r2 r3 r4 r5 r6 r7 r8 r9 r10 r11 s8 x0 x1 x2 x3 x4 x5 x6 x7 x8
  refine Calls.mono (HM2.out _ HG5.out) ?_
  rintro e w6 ⟨rfl, hb⟩
  have KR6 : Hid (Bk R (rgc r) w6) := KR5.out.later hb
  have KF6 : Hid (Bk F (fc f) w6) := KF5.out.later hb
  have KX6 : Hid (Bk X (fc g) w6) := KX5.out.later hb
  have HB6 : Hid (Below w.heap.size w w6) := below_on HB5.out hb
  have HG6 : Hid (Gl a n w6) := HG5.out.later hb
  clear hb KR5 KF5 KX5 HB5 HG5
  have r0 := KR6.out.c 0 rfl
  have r1 := KR6.out.c 1 rfl
  have r2 := KR6.out.c 2 rfl
  have r3 := KR6.out.c 3 rfl
  have r4 := KR6.out.c 4 rfl
  have r5 := KR6.out.c 5 rfl
  have r6 := KR6.out.c 6 rfl
  have r7 := KR6.out.c 7 rfl
  have r8 := KR6.out.c 8 rfl
  have r9 := KR6.out.c 9 rfl
  have r10 := KR6.out.c 10 rfl
  have r11 := KR6.out.c 11 rfl
  have s1 := KF6.out.c 1 rfl
  have s2 := KF6.out.c 2 rfl
  have s3 := KF6.out.c 3 rfl
  have s8 := KF6.out.c 8 rfl
  have x1 := KX6.out.c 1 rfl
  have x2 := KX6.out.c 2 rfl
  have x3 := KX6.out.c 3 rfl
  have x8 := KX6.out.c 8 rfl
  rw [HX.out] at x1 x2 x3
  have htk2 : ¬ g.tk < f.tk := by omega
  go_wp2_with fail
  clear r0 r1 r2 r3 r4 r5 r6 r7 r8 r9 r10 r11 s1 s2 s3 s8 x1 x2 x3 x8
  refine Calls.mono (HN.out _ HG6.out) ?_
  rintro e w7 ⟨rfl, hb⟩
  have KR7 : Hid (Bk R (rgc r) w7) := KR6.out.later hb
  have KF7 : Hid (Bk F (fc f) w7) := KF6.out.later hb
  have KX7 : Hid (Bk X (fc g) w7) := KX6.out.later hb
  have HB7 : Hid (Below w.heap.size w w7) := below_on HB6.out hb
  have HG7 : Hid (Gl a n w7) := HG6.out.later hb
  clear hb KR6 KF6 KX6 HB6 HG6
  have r0 := KR7.out.c 0 rfl
  have r1 := KR7.out.c 1 rfl
  have r2 := KR7.out.c 2 rfl
  have r3 := KR7.out.c 3 rfl
  have r4 := KR7.out.c 4 rfl
  have r5 := KR7.out.c 5 rfl
  have r6 := KR7.out.c 6 rfl
  have r7 := KR7.out.c 7 rfl
  have r8 := KR7.out.c 8 rfl
  have r9 := KR7.out.c 9 rfl
  have r10 := KR7.out.c 10 rfl
  have r11 := KR7.out.c 11 rfl
  have s1 := KF7.out.c 1 rfl
  have s2 := KF7.out.c 2 rfl
  have s3 := KF7.out.c 3 rfl
  have x1 := KX7.out.c 1 rfl
  have x2 := KX7.out.c 2 rfl
  have x3 := KX7.out.c 3 rfl
  rw [HX.out] at x1 x2 x3
  go_wp2_with fail
  clear r0 r1 r2 r3 r4 r5 r6 r7 r8 r9 r10 r11 s1 s2 s3 x1 x2 x3
  refine Calls.mono (HN2.out _ HG7.out) ?_
  rintro e w8 ⟨rfl, hb⟩
  have KR8 : Hid (Bk R (rgc r) w8) := KR7.out.later hb
  have KF8 : Hid (Bk F (fc f) w8) := KF7.out.later hb
  have KX8 : Hid (Bk X (fc g) w8) := KX7.out.later hb
  have HB8 : Hid (Below w.heap.size w w8) := below_on HB7.out hb
  have HG8 : Hid (Gl a n w8) := HG7.out.later hb
  clear hb KR7 KF7 KX7 HB7 HG7
  have s1 := KF8.out.c 1 rfl
  have s2 := KF8.out.c 2 rfl
  have s3 := KF8.out.c 3 rfl
  have x1 := KX8.out.c 1 rfl
  have x2 := KX8.out.c 2 rfl
  have x3 := KX8.out.c 3 rfl
  rw [HX.out] at x1 x2 x3
  go_wp2
  go_ret
  exact ⟨rfl, HB8.out⟩
set_option maxHeartbeats 6400000 in
set_option maxRecDepth 100000 in
theorem firmKeeps_c (a : Nat → Addr) (n : Nat) (r : Rg) (f : Fm) (c : Cm) (w : World) (hg : Gl a n w) (he : DoE r f c = 0) (g : Fm) (hgf : g = DoV r f c) (hs : ¬ f.pt = g.pt) : Calls Tryd.prog 5 #[rgv r, fv f, cmv c] w fun e w' => e = .returned (.bool true) ∧ Below w.heap.size w w' := by
  obtain ⟨hr, hf, _, _, _, hfg, htk⟩ := done_ok he
  rw [← hgf] at hfg htk
  have HD : Hid (∀ W, Gl a n W → Calls Tryd.prog 9 #[rgv r, fv f, cmv c] W fun e w' => e = .returned (.tuple #[fv g, .int .i64 0]) ∧ Below W.heap.size W w') := fun W hW => by
    have := Do_any a n r f c W hW
    rwa [he, ← hgf] at this
  have HM : Hid (∀ W, Gl a n W → Calls Tryd.prog 8 #[rgv r, fv f] W fun e w' => e = .returned (.bool true) ∧ Below W.heap.size W w') := fun W hW => by
    have := May_any a n r f W hW
    rwa [hr, hf] at this
  have HM2 : Hid (∀ W, Gl a n W → Calls Tryd.prog 8 #[rgv r, fv g] W fun e w' => e = .returned (.bool true) ∧ Below W.heap.size W w') := fun W hW => by
    have := May_any a n r g W hW
    rwa [hr, hfg] at this
  obtain ⟨t, ht⟩ : ∃ t, t = tick r f.pt g.pt := ⟨_, rfl⟩
  have e1 : NeE r f.pt g.pt = 0 := by unfold NeE; rw [hr, if_neg (by decide), if_pos ⟨(fmOk_iff.1 hf).at', (fmOk_iff.1 hfg).at'⟩]
  have e2 : NeE r g.pt f.pt = 0 := by unfold NeE; rw [hr, if_neg (by decide), if_pos ⟨(fmOk_iff.1 hfg).at', (fmOk_iff.1 hf).at'⟩]
  have HN : Hid (∀ W, Gl a n W → Calls Tryd.prog 10 #[rgv r, v3 f.pt, v3 g.pt] W fun e w' => e = .returned (.tuple #[.int .i64 t, .int .i64 0]) ∧ Below W.heap.size W w') := fun W hW => by
    have := Need_any a n r f.pt g.pt W hW
    rwa [show NeT r f.pt g.pt = t by unfold NeT; rw [if_pos e1, ht], e1] at this
  have HN2 : Hid (∀ W, Gl a n W → Calls Tryd.prog 10 #[rgv r, v3 g.pt, v3 f.pt] W fun e w' => e = .returned (.tuple #[.int .i64 t, .int .i64 0]) ∧ Below W.heap.size W w') := fun W hW => by
    have := Need_any a n r g.pt f.pt W hW
    rwa [show NeT r g.pt f.pt = t by unfold NeT; rw [if_pos e2, ht, tick_sym], e2] at this
  have htz := tick_zero (rgOk_iff.1 hr) (fmOk_iff.1 hf).at' (fmOk_iff.1 hfg).at'
  rw [← ht] at htz
  have ht0 : ¬ t = 0 := fun h => hs (htz.1 h)
  have hne : ¬ (f.pt.x = g.pt.x ∧ f.pt.y = g.pt.y ∧ f.pt.z = g.pt.z) := fun h => hs (Pt.ext' h.1 h.2.1 h.2.2)
  clear ht htz e1 e2 hf hfg hr he hgf hs
  have HDo : Hid (∀ W, Gl a n W → Calls Tryd.prog 9 #[rgv r1, fv f0, cmv c1] W fun e w' => e = .returned (.tuple #[.agg #[.bool true, .int .i64 0, .int .i64 0, .int .i64 0, .int .i64 0, .bool false, .int .i64 0, .int .i64 0, .int .i64 90], .int .i64 0]) ∧ Below W.heap.size W w') := fun W hW => by
    have := Do_any a n r1 f0 c1 W hW
    rw [home1.1, home1.2] at this
    exact this
  obtain ⟨w0, hw0⟩ : ∃ x, x = (((w.alloc (rgo r)).alloc (fo f)).alloc (cmo c)).alloc r1o := ⟨_, rfl⟩
  have HB0 : Hid (Below w.heap.size w w0) := by show Below _ _ _; rw [hw0]; exact below_on (three_new _ _ _ _) (one_new _ _)
  have KC0 : Hid (Bk (w.heap.size + 1 + 1) (cmc c) w0) := by show Bk _ _ _; rw [hw0]; exact (Bk.new ((w.alloc (rgo r)).alloc (fo f)) (cmc c) 31 (w.heap.size + 1 + 1) (by simp)).later (one_new _ _)
  have KF0 : Hid (Bk (w.heap.size + 1) (fc f) w0) := by show Bk _ _ _; rw [hw0]; exact (Bk.new (w.alloc (rgo r)) (fc f) 29 (w.heap.size + 1) (by simp)).later (two_new _ _ _)
  have KR0 : Hid (Bk w.heap.size (rgc r) w0) := by show Bk _ _ _; rw [hw0]; exact (Bk.new w (rgc r) 27 w.heap.size rfl).later (three_new _ _ _ _)
  have HG0 : Hid (Gl a n w0) := hg.later HB0.out
  obtain ⟨C, hC⟩ : ∃ b, b = w.heap.size + 1 + 1 := ⟨_, rfl⟩
  obtain ⟨F, hF⟩ : ∃ b, b = w.heap.size + 1 := ⟨_, rfl⟩
  obtain ⟨R, hR⟩ : ∃ b, b = w.heap.size := ⟨_, rfl⟩
  rw [← hC] at KC0
  rw [← hF] at KF0
  rw [← hR] at KR0
  clear hg
  go_enter Tryd.func5, Tryd.ntmps5
  go_wp2_with (refine wpList_store_new rfl 27 _ _ rfl (((w.alloc (rgo r)).alloc (fo f)).alloc (cmo c)) (w.heap.size + 1 + 1 + 1) _ _ rfl (by simp) rfl rfl info27 rfl (by kernel_rfl) ?_)
  simp only [show (((w.alloc (rgo r)).alloc (fo f)).alloc (.cells #[.int .i64 c.k, .int .i64 c.x, .int .i64 c.y, .int .i64 c.z, .int .i64 c.v] 31)).alloc r1o = w0 from hw0.symm, ← hC]
  simp only [← hF]
  simp only [← hR]
  clear hw0 hC hF hR
  refine Calls.mono (HDo.out _ HG0.out) ?_
  rintro e w1 ⟨rfl, hb1⟩
  obtain ⟨w2, hw2⟩ : ∃ x, x = w1.alloc (.cells (fc f1).toArray 29) := ⟨_, rfl⟩
  have HB2 : Hid (Below w.heap.size w w2) := by show Below _ _ _; rw [hw2]; exact below_on (below_on HB0.out hb1) (one_new _ _)
  have KR2 : Hid (Bk R (rgc r) w2) := by show Bk _ _ _; rw [hw2]; exact (KR0.out.later hb1).later (one_new _ _)
  have KF2 : Hid (Bk F (fc f) w2) := by show Bk _ _ _; rw [hw2]; exact (KF0.out.later hb1).later (one_new _ _)
  have KC2 : Hid (Bk C (cmc c) w2) := by show Bk _ _ _; rw [hw2]; exact (KC0.out.later hb1).later (one_new _ _)
  have HG2 : Hid (Gl a n w2) := by show Gl _ _ _; rw [hw2]; exact (HG0.out.later hb1).later (one_new _ _)
  have KO2 : Hid (Bk w1.heap.size (fc f1) w2) := by show Bk _ _ _; rw [hw2]; exact Bk.new w1 (fc f1) 29 w1.heap.size rfl
  have KR1 := KR0.out.later hb1
  have KF1 := KF0.out.later hb1
  have KC1 := KC0.out.later hb1
  have r0 := KR1.c 0 rfl
  have r1 := KR1.c 1 rfl
  have r2 := KR1.c 2 rfl
  have r3 := KR1.c 3 rfl
  have r4 := KR1.c 4 rfl
  have r5 := KR1.c 5 rfl
  have r6 := KR1.c 6 rfl
  have r7 := KR1.c 7 rfl
  have r8 := KR1.c 8 rfl
  have r9 := KR1.c 9 rfl
  have r10 := KR1.c 10 rfl
  have r11 := KR1.c 11 rfl
  have s0 := KF1.c 0 rfl
  have s1 := KF1.c 1 rfl
  have s2 := KF1.c 2 rfl
  have s3 := KF1.c 3 rfl
  have s4 := KF1.c 4 rfl
  have s5 := KF1.c 5 rfl
  have s6 := KF1.c 6 rfl
  have s7 := KF1.c 7 rfl
  have s8 := KF1.c 8 rfl
  have c0 := KC1.c 0 rfl
  have c1 := KC1.c 1 rfl
  have c2 := KC1.c 2 rfl
  have c3 := KC1.c 3 rfl
  have c4 := KC1.c 4 rfl
  have hRw : R < w1.heap.size := KR1.1
  have hFw : F < w1.heap.size := KF1.1
  have hCw : C < w1.heap.size := KC1.1
  clear hb1 KR0 KF0 KC0 HG0 HB0 KR1 KF1 KC1 KO2
  go_wp2_with fail
  simp only [show w1.alloc (.cells #[.bool true, .int .i64 0, .int .i64 0, .int .i64 0, .int .i64 0, .bool false, .int .i64 0, .int .i64 0, .int .i64 90] 29) = w2 from hw2.symm]
  clear hw2 hRw hFw hCw r0 r1 r2 r3 r4 r5 r6 r7 r8 r9 r10 r11 s0 s1 s2 s3 s4 s5 s6 s7 s8 c0 c1 c2 c3 c4
  refine Calls.mono (HD.out _ HG2.out) ?_
  rintro e w3 ⟨rfl, hb⟩
  obtain ⟨w4, hw4⟩ : ∃ x, x = w3.alloc (fo g) := ⟨_, rfl⟩
  have hb4 : Below w2.heap.size w2 w4 := by rw [hw4]; exact below_on hb (one_new _ _)
  have HB4 : Hid (Below w.heap.size w w4) := below_on HB2.out hb4
  have HG4 : Hid (Gl a n w4) := HG2.out.later hb4
  have KR4 : Hid (Bk R (rgc r) w4) := KR2.out.later hb4
  have KF4 : Hid (Bk F (fc f) w4) := KF2.out.later hb4
  have KX4 : Hid (Bk w3.heap.size (fc g) w4) := by show Bk _ _ _; rw [hw4]; exact Bk.new w3 (fc g) 29 w3.heap.size rfl
  have KR3 : Hid (Bk R (rgc r) w3) := KR2.out.later hb
  have KF3 : Hid (Bk F (fc f) w3) := KF2.out.later hb
  have hRw : R < w3.heap.size := KR3.out.1
  have hFw : F < w3.heap.size := KF3.out.1
  obtain ⟨X, hX⟩ : ∃ b, b = w3.heap.size := ⟨_, rfl⟩
  rw [← hX] at KX4
  have r0 := KR3.out.c 0 rfl
  have r1 := KR3.out.c 1 rfl
  have r2 := KR3.out.c 2 rfl
  have r3 := KR3.out.c 3 rfl
  have r4 := KR3.out.c 4 rfl
  have r5 := KR3.out.c 5 rfl
  have r6 := KR3.out.c 6 rfl
  have r7 := KR3.out.c 7 rfl
  have r8 := KR3.out.c 8 rfl
  have r9 := KR3.out.c 9 rfl
  have r10 := KR3.out.c 10 rfl
  have r11 := KR3.out.c 11 rfl
  have s0 := KF3.out.c 0 rfl
  have s1 := KF3.out.c 1 rfl
  have s2 := KF3.out.c 2 rfl
  have s3 := KF3.out.c 3 rfl
  have s4 := KF3.out.c 4 rfl
  have s5 := KF3.out.c 5 rfl
  have s6 := KF3.out.c 6 rfl
  have s7 := KF3.out.c 7 rfl
  have s8 := KF3.out.c 8 rfl
  go_wp2_with fail
  simp only [← hw4, ← hX]
  clear hw4 hX hRw hFw hb hb4 KR3 KF3 KR2 KF2 KC2 HG2 HB2
  clear r0 r1 r2 r3 r4 r5 r6 r7 r8 r9 r10 r11 s0 s1 s2 s3 s4 s5 s6 s7 s8
  refine Calls.mono (HM.out _ HG4.out) ?_
  rintro e w5 ⟨rfl, hb⟩
  have KR5 : Hid (Bk R (rgc r) w5) := KR4.out.later hb
  have KF5 : Hid (Bk F (fc f) w5) := KF4.out.later hb
  have KX5 : Hid (Bk X (fc g) w5) := KX4.out.later hb
  have HB5 : Hid (Below w.heap.size w w5) := below_on HB4.out hb
  have HG5 : Hid (Gl a n w5) := HG4.out.later hb
  clear hb KR4 KF4 KX4 HB4 HG4
  have r0 := KR5.out.c 0 rfl
  have r1 := KR5.out.c 1 rfl
  have r2 := KR5.out.c 2 rfl
  have r3 := KR5.out.c 3 rfl
  have r4 := KR5.out.c 4 rfl
  have r5 := KR5.out.c 5 rfl
  have r6 := KR5.out.c 6 rfl
  have r7 := KR5.out.c 7 rfl
  have r8 := KR5.out.c 8 rfl
  have r9 := KR5.out.c 9 rfl
  have r10 := KR5.out.c 10 rfl
  have r11 := KR5.out.c 11 rfl
  have s8 := KF5.out.c 8 rfl
  have x0 := KX5.out.c 0 rfl
  have x1 := KX5.out.c 1 rfl
  have x2 := KX5.out.c 2 rfl
  have x3 := KX5.out.c 3 rfl
  have x4 := KX5.out.c 4 rfl
  have x5 := KX5.out.c 5 rfl
  have x6 := KX5.out.c 6 rfl
  have x7 := KX5.out.c 7 rfl
  have x8 := KX5.out.c 8 rfl
  go_wp2_with fail
  clear r0 r1 r2 r3 r4 r5 r6 r7 r8 r9 r10 r11 s8 x0 x1 x2 x3 x4 x5 x6 x7 x8
  refine Calls.mono (HM2.out _ HG5.out) ?_
  rintro e w6 ⟨rfl, hb⟩
  have KR6 : Hid (Bk R (rgc r) w6) := KR5.out.later hb
  have KF6 : Hid (Bk F (fc f) w6) := KF5.out.later hb
  have KX6 : Hid (Bk X (fc g) w6) := KX5.out.later hb
  have HB6 : Hid (Below w.heap.size w w6) := below_on HB5.out hb
  have HG6 : Hid (Gl a n w6) := HG5.out.later hb
  clear hb KR5 KF5 KX5 HB5 HG5
  have r0 := KR6.out.c 0 rfl
  have r1 := KR6.out.c 1 rfl
  have r2 := KR6.out.c 2 rfl
  have r3 := KR6.out.c 3 rfl
  have r4 := KR6.out.c 4 rfl
  have r5 := KR6.out.c 5 rfl
  have r6 := KR6.out.c 6 rfl
  have r7 := KR6.out.c 7 rfl
  have r8 := KR6.out.c 8 rfl
  have r9 := KR6.out.c 9 rfl
  have r10 := KR6.out.c 10 rfl
  have r11 := KR6.out.c 11 rfl
  have s1 := KF6.out.c 1 rfl
  have s2 := KF6.out.c 2 rfl
  have s3 := KF6.out.c 3 rfl
  have s8 := KF6.out.c 8 rfl
  have x1 := KX6.out.c 1 rfl
  have x2 := KX6.out.c 2 rfl
  have x3 := KX6.out.c 3 rfl
  have x8 := KX6.out.c 8 rfl
  have htk2 : ¬ g.tk < f.tk := by omega
  go_wp2_with fail
  clear r0 r1 r2 r3 r4 r5 r6 r7 r8 r9 r10 r11 s1 s2 s3 s8 x1 x2 x3 x8
  refine Calls.mono (HN.out _ HG6.out) ?_
  rintro e w7 ⟨rfl, hb⟩
  have KR7 : Hid (Bk R (rgc r) w7) := KR6.out.later hb
  have KF7 : Hid (Bk F (fc f) w7) := KF6.out.later hb
  have KX7 : Hid (Bk X (fc g) w7) := KX6.out.later hb
  have HB7 : Hid (Below w.heap.size w w7) := below_on HB6.out hb
  have HG7 : Hid (Gl a n w7) := HG6.out.later hb
  clear hb KR6 KF6 KX6 HB6 HG6
  have r0 := KR7.out.c 0 rfl
  have r1 := KR7.out.c 1 rfl
  have r2 := KR7.out.c 2 rfl
  have r3 := KR7.out.c 3 rfl
  have r4 := KR7.out.c 4 rfl
  have r5 := KR7.out.c 5 rfl
  have r6 := KR7.out.c 6 rfl
  have r7 := KR7.out.c 7 rfl
  have r8 := KR7.out.c 8 rfl
  have r9 := KR7.out.c 9 rfl
  have r10 := KR7.out.c 10 rfl
  have r11 := KR7.out.c 11 rfl
  have s1 := KF7.out.c 1 rfl
  have s2 := KF7.out.c 2 rfl
  have s3 := KF7.out.c 3 rfl
  have x1 := KX7.out.c 1 rfl
  have x2 := KX7.out.c 2 rfl
  have x3 := KX7.out.c 3 rfl
  go_wp2_with fail
  clear r0 r1 r2 r3 r4 r5 r6 r7 r8 r9 r10 r11 s1 s2 s3 x1 x2 x3
  refine Calls.mono (HN2.out _ HG7.out) ?_
  rintro e w8 ⟨rfl, hb⟩
  have KR8 : Hid (Bk R (rgc r) w8) := KR7.out.later hb
  have KF8 : Hid (Bk F (fc f) w8) := KF7.out.later hb
  have KX8 : Hid (Bk X (fc g) w8) := KX7.out.later hb
  have HB8 : Hid (Below w.heap.size w w8) := below_on HB7.out hb
  have HG8 : Hid (Gl a n w8) := HG7.out.later hb
  clear hb KR7 KF7 KX7 HB7 HG7
  have s1 := KF8.out.c 1 rfl
  have s2 := KF8.out.c 2 rfl
  have s3 := KF8.out.c 3 rfl
  have x1 := KX8.out.c 1 rfl
  have x2 := KX8.out.c 2 rfl
  have x3 := KX8.out.c 3 rfl
  go_wp2
  all_goals first
    | (exfalso; omega)
    | (go_ret; exact ⟨rfl, HB8.out⟩)
    | (go_ret; exact ⟨ret_bool (by simp [ht0]), HB8.out⟩)
    | (go_ret; exact ⟨ret_bool (by simp [ht0]; omega), HB8.out⟩)
theorem firmKeeps_any (a : Nat → Addr) (n : Nat) (r : Rg) (f : Fm) (c : Cm) (w : World) (hg : Gl a n w) : Calls Tryd.prog 5 #[rgv r, fv f, cmv c] w fun e w' => e = .returned (.bool true) ∧ Below w.heap.size w w' := by
  by_cases he : DoE r f c = 0
  · by_cases hs : f.pt = (DoV r f c).pt
    · exact firmKeeps_b a n r f c w hg he _ rfl hs
    · exact firmKeeps_c a n r f c w hg he _ rfl hs
  · exact firmKeeps_a a n r f c w hg he
end Go.Proofs.YtgahlhfgpkklaaaDoor
