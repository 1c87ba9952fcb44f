/- FirmDo of the document walked: Go, out of the rig. -/
import Derived.Test.YtgahlhfgpkklaaaDoorGCH
import Derived.Test.YtgahlhfgpkklaaaDoorGDH
import Derived.Test.YtgahlhfgpkklaaaDoorGEH
namespace Go.Proofs.YtgahlhfgpkklaaaDoor
open Go.RowKit Go.Maps

set_option maxHeartbeats 6400000 in
set_option maxRecDepth 100000 in
theorem firmDo_out (r : Rg) (f : Fm) (c : Cm) (w : World) (h : chkM c = 0) (hk : c.k = 2) (hm : f.hm = true) (hin : ∀ W, Calls Tryd.prog 25 #[rgv r, .agg #[.int .i64 c.x, .int .i64 c.y, .int .i64 c.z]] W fun e w' => e = .returned (.bool false) ∧ Below W.heap.size W w') : Calls Tryd.prog 14 #[rgv r, fv f, cmv c] w fun e w' => e = .returned (.tuple #[zfv, .int .i64 13]) ∧ Below w.heap.size w w' := by
  have HM : Hid (∀ W, Calls Tryd.prog 32 #[cmv c] W fun e w' => e = .returned (.int .i64 0) ∧ Below W.heap.size W w') := fun W => by have := commandMay_any c W; rwa [h] at this
  have H_hk := (show Hid _ from hk)
  have H_hm := (show Hid _ from hm)
  have HIN := (show Hid _ from hin)
  clear hk hm hin
  obtain ⟨w0, hw0⟩ : ∃ x, x = ((((w.alloc (rgo r)).alloc (fo f)).alloc (cmo c)).alloc zfo).alloc zfo := ⟨_, rfl⟩
  have HB0 : Hid (Below w.heap.size w w0) := by show Below _ _ _; rw [hw0]; exact below_on (below_on (three_new _ _ _ _) (one_new _ _)) (one_new _ _)
  have KZ0 : Hid (Bk (w.heap.size + 1 + 1 + 1 + 1) zfc w0) := by show Bk _ _ _; rw [hw0]; exact Bk.new ((((w.alloc (rgo r)).alloc (fo f)).alloc (cmo c)).alloc zfo) zfc 29 (w.heap.size + 1 + 1 + 1 + 1) (by simp)
  have KO0 : Hid (Bk (w.heap.size + 1 + 1 + 1) zfc w0) := by show Bk _ _ _; rw [hw0]; exact (Bk.new (((w.alloc (rgo r)).alloc (fo f)).alloc (cmo c)) zfc 29 (w.heap.size + 1 + 1 + 1) (by simp)).later (one_new _ _)
  have KC0 : Hid (Bk (w.heap.size + 1 + 1) (cmc c) w0) := by show Bk _ _ _; rw [hw0]; exact ((Bk.new ((w.alloc (rgo r)).alloc (fo f)) (cmc c) 31 (w.heap.size + 1 + 1) (by simp)).later (one_new _ _)).later (one_new _ _)
  have KF0 : Hid (Bk (w.heap.size + 1) (fc f) w0) := by show Bk _ _ _; rw [hw0]; exact (((Bk.new (w.alloc (rgo r)) (fc f) 29 (w.heap.size + 1) (by simp)).later (one_new _ _)).later (one_new _ _)).later (one_new _ _)
  have KR0 : Hid (Bk w.heap.size (rgc r) w0) := by show Bk _ _ _; rw [hw0]; exact ((((Bk.new w (rgc r) 27 w.heap.size rfl).later (one_new _ _)).later (one_new _ _)).later (one_new _ _)).later (one_new _ _)
  obtain ⟨Z, hZ⟩ : ∃ b, b = w.heap.size + 1 + 1 + 1 + 1 := ⟨_, rfl⟩
  obtain ⟨O, hO⟩ : ∃ b, b = w.heap.size + 1 + 1 + 1 := ⟨_, rfl⟩
  obtain ⟨C, hC⟩ : ∃ b, b = w.heap.size + 1 + 1 := ⟨_, rfl⟩
  obtain ⟨F, hF⟩ : ∃ b, b = w.heap.size + 1 := ⟨_, rfl⟩
  obtain ⟨R, hR⟩ : ∃ b, b = w.heap.size := ⟨_, rfl⟩
  rw [← hZ] at KZ0
  rw [← hO] at KO0
  rw [← hC] at KC0
  rw [← hF] at KF0
  rw [← hR] at KR0
  have HW : Hid (w.heap.size ≤ R ∧ w.heap.size ≤ F ∧ w.heap.size ≤ O ∧ R ≠ F ∧ R ≠ O ∧ F ≠ O ∧ Z ≠ F ∧ Z ≠ O ∧ C ≠ F) := by show _ ∧ _; omega
  have hOF : O ≠ F := by omega
  have hZF : Z ≠ F := by omega
  have hCF : C ≠ F := by omega
  have hRF : R ≠ F := by omega
  clear h
  go_enter Tryd.func14, Tryd.ntmps14
  go_wp2_with fail
  simp only [show ((((w.alloc (rgo r)).alloc (fo f)).alloc (.cells #[.int .i64 c.k, .int .i64 c.x, .int .i64 c.y, .int .i64 c.z, .int .i64 c.v] 31)).alloc zfo).alloc zfo = w0 from hw0.symm, ← hZ]
  simp only [← hO]
  simp only [← hC]
  simp only [← hF]
  simp only [← hR]
  clear hw0 hZ hO hC hF hR
  refine (HM.out _).mono ?_
  rintro e w1 ⟨rfl, hb1⟩
  have HB1 : Hid (Below w.heap.size w w1) := below_on HB0.out hb1
  have KR1 : Hid (Bk R (rgc r) w1) := KR0.out.later hb1
  have KF1 : Hid (Bk F (fc f) w1) := KF0.out.later hb1
  have KC1 : Hid (Bk C (cmc c) w1) := KC0.out.later hb1
  have KO1 : Hid (Bk O zfc w1) := KO0.out.later hb1
  have KZ1 : Hid (Bk Z zfc w1) := KZ0.out.later hb1
  clear hb1 HB0 KR0 KF0 KC0 KO0 KZ0
  have c0 := KC1.out.c 0 rfl
  have c1 := KC1.out.c 1 rfl
  have c2 := KC1.out.c 2 rfl
  have c3 := KC1.out.c 3 rfl
  have c4 := KC1.out.c 4 rfl
  have f0 := KF1.out.c 0 rfl
  have r0 := KR1.out.c 0 rfl
  have r1 := KR1.out.c 1 rfl
  have r2 := KR1.out.c 2 rfl
  have r3 := KR1.out.c 3 rfl
  have r4 := KR1.out.c 4 rfl
  have r5 := KR1.out.c 5 rfl
  have r6 := KR1.out.c 6 rfl
  have r7 := KR1.out.c 7 rfl
  have r8 := KR1.out.c 8 rfl
  have r9 := KR1.out.c 9 rfl
  have r10 := KR1.out.c 10 rfl
  have r11 := KR1.out.c 11 rfl
  have hRl : R < w1.heap.size := KR1.out.1
  have hFl : F < w1.heap.size := KF1.out.1
  have hCl : C < w1.heap.size := KC1.out.1
  have hOl : O < w1.heap.size := KO1.out.1
  have hZl : Z < w1.heap.size := KZ1.out.1
  have hk := H_hk.out
  rw [hk] at c0
  have hm := H_hm.out
  rw [hm] at f0
  clear hm
  obtain ⟨w2, hw2⟩ : ∃ y, y = w1.alloc (.cells #[.int .i64 c.x, .int .i64 c.y, .int .i64 c.z] 23) := ⟨_, rfl⟩
  have HB2 : Hid (Below w.heap.size w w2) := by show Below _ _ _; rw [hw2]; exact below_on HB1.out (one_new _ _)
  have KO2 : Hid (Bk O zfc w2) := by show Bk _ _ _; rw [hw2]; exact KO1.out.later (one_new _ _)
  have KZ2 : Hid (Bk Z zfc w2) := by show Bk _ _ _; rw [hw2]; exact KZ1.out.later (one_new _ _)
  go_wp2_with fail
  simp only [← hw2]
  clear hw2 c0 c1 c2 c3 c4 f0 r0 r1 r2 r3 r4 r5 r6 r7 r8 r9 r10 r11 hRl hFl hCl hOl hZl KR1 KF1 KC1 KO1 KZ1 HB1
  refine (HIN.out _).mono ?_
  rintro e w3 ⟨rfl, hb3⟩
  have KO3 : Hid (Bk O zfc w3) := KO2.out.later hb3
  have KZ3 : Hid (Bk Z zfc w3) := KZ2.out.later hb3
  have HB3 : Hid (Below w.heap.size w w3) := below_on HB2.out hb3
  clear hb3 KO2 KZ2 HB2
  have z0 := KZ3.out.c 0 rfl
  have z1 := KZ3.out.c 1 rfl
  have z2 := KZ3.out.c 2 rfl
  have z3 := KZ3.out.c 3 rfl
  have z4 := KZ3.out.c 4 rfl
  have z5 := KZ3.out.c 5 rfl
  have z6 := KZ3.out.c 6 rfl
  have z7 := KZ3.out.c 7 rfl
  have z8 := KZ3.out.c 8 rfl
  go_wp2_with (refine wpList_store_mid rfl 29 _ _ rfl O 0 zfc.toArray rfl rfl (KO3.out.there (Nat.le_refl _)) info29 (by kernel_rfl) ?_)
  have KO9 : Hid (Bk O zfc ((w3).setCells O 0 zfc)) := KO3.out.setAll _ rfl
  have HB9 : Hid (Below w.heap.size w ((w3).setCells O 0 zfc)) := HB3.out.trans (low_setCells HW.out.2.2.1 _ _ _)
  exact bodyPost_ret (v := .tuple #[zfv, .int .i64 13]) (results_ct Tryd.results14 _ _ _ rfl rfl (run_loadVar_mid (P := Tryd.prog) _ O 0 29 zfc _ KO9.out.range Tryd.underlying29 rfl info29)) rfl ⟨rfl, HB9.out⟩
end Go.Proofs.YtgahlhfgpkklaaaDoor
