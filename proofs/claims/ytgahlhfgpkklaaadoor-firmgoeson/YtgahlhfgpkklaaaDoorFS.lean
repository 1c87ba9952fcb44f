/- FirmKeeps walked. -/
import Derived.Test.YtgahlhfgpkklaaaDoorFR
namespace Go.Proofs.YtgahlhfgpkklaaaDoor
open Go.RowKit Go.Maps

theorem zz_eql (W : World) : (binOp .eql 29 zfv zfv).run Tryd.prog W = .ok (.bool true) W := by kernel_rfl
abbrev r1o : Obj := .cells #[.int .i64 0, .int .i64 0, .int .i64 0, .int .i64 9, .int .i64 9, .int .i64 9, .int .i64 10, .int .i64 1, .int .i64 2, .int .i64 0, .int .i64 1, .int .i64 5] 27
theorem info27 : (Tryd.prog.info? 27).map (·.size) = some 12 := by kernel_rfl
set_option maxHeartbeats 6400000 in
set_option maxRecDepth 100000 in
theorem firmKeeps_a (a : Nat → Addr) (n : Nat) (r : Rg) (f : Fm) (c : Cm) (w : World) (hg : Gl a n w) (he : DoE r f c ≠ 0) : Calls Tryd.prog 5 #[rgv r, fv f, cmv c] w fun e w' => e = .returned (.bool true) ∧ Below w.heap.size w w' := by
  have HD : Hid (∀ W, Gl a n W → Calls Tryd.prog 9 #[rgv r, fv f, cmv c] W fun e w' => e = .returned (.tuple #[zfv, .int .i64 (DoE r f c)]) ∧ Below W.heap.size W w') := fun W hW => by
    have := Do_any a n r f c W hW
    rwa [show DoV r f c = f0 by unfold DoV; rw [if_neg he]] at this
  obtain ⟨x, hx⟩ : ∃ x, x = DoE r f c := ⟨_, rfl⟩
  rw [← hx] at HD he
  clear hx
  have HDo : Hid (∀ W, Gl a n W → Calls Tryd.prog 9 #[rgv r1, fv f0, cmv c1] W fun e w' => e = .returned (.tuple #[.agg #[.bool true, .int .i64 0, .int .i64 0, .int .i64 0, .int .i64 0, .bool false, .int .i64 0, .int .i64 0, .int .i64 90], .int .i64 0]) ∧ Below W.heap.size W w') := fun W hW => by
    have := Do_any a n r1 f0 c1 W hW
    rw [home1.1, home1.2] at this
    exact this
  obtain ⟨w0, hw0⟩ : ∃ x, x = (((w.alloc (rgo r)).alloc (fo f)).alloc (cmo c)).alloc r1o := ⟨_, rfl⟩
  have HB0 : Hid (Below w.heap.size w w0) := by show Below _ _ _; rw [hw0]; exact below_on (three_new _ _ _ _) (one_new _ _)
  have KC0 : Hid (Bk (w.heap.size + 1 + 1) (cmc c) w0) := by show Bk _ _ _; rw [hw0]; exact (Bk.new ((w.alloc (rgo r)).alloc (fo f)) (cmc c) 31 (w.heap.size + 1 + 1) (by simp)).later (one_new _ _)
  have KF0 : Hid (Bk (w.heap.size + 1) (fc f) w0) := by show Bk _ _ _; rw [hw0]; exact (Bk.new (w.alloc (rgo r)) (fc f) 29 (w.heap.size + 1) (by simp)).later (two_new _ _ _)
  have KR0 : Hid (Bk w.heap.size (rgc r) w0) := by show Bk _ _ _; rw [hw0]; exact (Bk.new w (rgc r) 27 w.heap.size rfl).later (three_new _ _ _ _)
  have HG0 : Hid (Gl a n w0) := hg.later HB0.out
  obtain ⟨C, hC⟩ : ∃ b, b = w.heap.size + 1 + 1 := ⟨_, rfl⟩
  obtain ⟨F, hF⟩ : ∃ b, b = w.heap.size + 1 := ⟨_, rfl⟩
  obtain ⟨R, hR⟩ : ∃ b, b = w.heap.size := ⟨_, rfl⟩
  rw [← hC] at KC0
  rw [← hF] at KF0
  rw [← hR] at KR0
  clear hg
  go_enter Tryd.func5, Tryd.ntmps5
  go_wp2_with (refine wpList_store_new rfl 27 _ _ rfl (((w.alloc (rgo r)).alloc (fo f)).alloc (cmo c)) (w.heap.size + 1 + 1 + 1) _ _ rfl (by simp) rfl rfl info27 rfl (by kernel_rfl) ?_)
  simp only [show (((w.alloc (rgo r)).alloc (fo f)).alloc (.cells #[.int .i64 c.k, .int .i64 c.x, .int .i64 c.y, .int .i64 c.z, .int .i64 c.v] 31)).alloc r1o = w0 from hw0.symm, ← hC]
  simp only [← hF]
  simp only [← hR]
  clear hw0 hC hF hR
  refine Calls.mono (HDo.out _ HG0.out) ?_
  rintro e w1 ⟨rfl, hb1⟩
  obtain ⟨w2, hw2⟩ : ∃ x, x = w1.alloc (.cells (fc f1).toArray 29) := ⟨_, rfl⟩
  have HB2 : Hid (Below w.heap.size w w2) := by show Below _ _ _; rw [hw2]; exact below_on (below_on HB0.out hb1) (one_new _ _)
  have KR2 : Hid (Bk R (rgc r) w2) := by show Bk _ _ _; rw [hw2]; exact (KR0.out.later hb1).later (one_new _ _)
  have KF2 : Hid (Bk F (fc f) w2) := by show Bk _ _ _; rw [hw2]; exact (KF0.out.later hb1).later (one_new _ _)
  have KC2 : Hid (Bk C (cmc c) w2) := by show Bk _ _ _; rw [hw2]; exact (KC0.out.later hb1).later (one_new _ _)
  have HG2 : Hid (Gl a n w2) := by show Gl _ _ _; rw [hw2]; exact (HG0.out.later hb1).later (one_new _ _)
  have KO2 : Hid (Bk w1.heap.size (fc f1) w2) := by show Bk _ _ _; rw [hw2]; exact Bk.new w1 (fc f1) 29 w1.heap.size rfl
  have KR1 := KR0.out.later hb1
  have KF1 := KF0.out.later hb1
  have KC1 := KC0.out.later hb1
  have r0 := KR1.c 0 rfl
  have r1 := KR1.c 1 rfl
  have r2 := KR1.c 2 rfl
  have r3 := KR1.c 3 rfl
  have r4 := KR1.c 4 rfl
  have r5 := KR1.c 5 rfl
  have r6 := KR1.c 6 rfl
  have r7 := KR1.c 7 rfl
  have r8 := KR1.c 8 rfl
  have r9 := KR1.c 9 rfl
  have r10 := KR1.c 10 rfl
  have r11 := KR1.c 11 rfl
  have s0 := KF1.c 0 rfl
  have s1 := KF1.c 1 rfl
  have s2 := KF1.c 2 rfl
  have s3 := KF1.c 3 rfl
  have s4 := KF1.c 4 rfl
  have s5 := KF1.c 5 rfl
  have s6 := KF1.c 6 rfl
  have s7 := KF1.c 7 rfl
  have s8 := KF1.c 8 rfl
  have c0 := KC1.c 0 rfl
  have c1 := KC1.c 1 rfl
  have c2 := KC1.c 2 rfl
  have c3 := KC1.c 3 rfl
  have c4 := KC1.c 4 rfl
  have hRw : R < w1.heap.size := KR1.1
  have hFw : F < w1.heap.size := KF1.1
  have hCw : C < w1.heap.size := KC1.1
  clear hb1 KR0 KF0 KC0 HG0 HB0 KR1 KF1 KC1 KO2
  go_wp2_with fail
  simp only [show w1.alloc (.cells #[.bool true, .int .i64 0, .int .i64 0, .int .i64 0, .int .i64 0, .bool false, .int .i64 0, .int .i64 0, .int .i64 90] 29) = w2 from hw2.symm]
  clear hw2 hRw hFw hCw r0 r1 r2 r3 r4 r5 r6 r7 r8 r9 r10 r11 s0 s1 s2 s3 s4 s5 s6 s7 s8 c0 c1 c2 c3 c4
  refine Calls.mono (HD.out _ HG2.out) ?_
  rintro e w3 ⟨rfl, hb3⟩
  obtain ⟨w4, hw4⟩ : ∃ x, x = w3.alloc (.cells zfc.toArray 29) := ⟨_, rfl⟩
  have HB4 : Hid (Below w.heap.size w w4) := by show Below _ _ _; rw [hw4]; exact below_on (below_on HB2.out hb3) (one_new _ _)
  have KX4 : Hid (Bk w3.heap.size zfc w4) := by show Bk _ _ _; rw [hw4]; exact Bk.new w3 zfc 29 w3.heap.size rfl
  have x0 := KX4.out.c 0 rfl
  have x1 := KX4.out.c 1 rfl
  have x2 := KX4.out.c 2 rfl
  have x3 := KX4.out.c 3 rfl
  have x4 := KX4.out.c 4 rfl
  have x5 := KX4.out.c 5 rfl
  have x6 := KX4.out.c 6 rfl
  have x7 := KX4.out.c 7 rfl
  have x8 := KX4.out.c 8 rfl
  clear hb3
  rw [hw4] at HB4
  clear hw4 KX4 x0 x1 x2 x3 x4 x5 x6 x7 x8
  go_wp2
  go_ret
  exact ⟨rfl, HB4.out⟩
end Go.Proofs.YtgahlhfgpkklaaaDoor
