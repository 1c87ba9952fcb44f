/- FirmDo of the document walked: ends at which no time passes. -/
import Derived.Test.YtgahlhfgpkklaaaDoorGCH
import Derived.Test.YtgahlhfgpkklaaaDoorGDH
import Derived.Test.YtgahlhfgpkklaaaDoorGEH
namespace Go.Proofs.YtgahlhfgpkklaaaDoor
open Go.RowKit Go.Maps

set_option maxHeartbeats 6400000 in
set_option maxRecDepth 100000 in
theorem firmDo_cook (r : Rg) (f : Fm) (c : Cm) (w : World) (h : chkM c = 0) (hk : c.k = 6) (hl : f.tk ≤ 1000000000000000) : Calls Tryd.prog 14 #[rgv r, fv f, cmv c] w fun e w' => e = .returned (.tuple #[fv { f with ht := c.v }, .int .i64 0]) ∧ Below w.heap.size w w' := by
  have HM : Hid (∀ W, Calls Tryd.prog 32 #[cmv c] W fun e w' => e = .returned (.int .i64 0) ∧ Below W.heap.size W w') := fun W => by have := commandMay_any c W; rwa [h] at this
  have H_hk := (show Hid _ from hk)
  have H_hl := (show Hid _ from hl)
  clear hk hl
  obtain ⟨w0, hw0⟩ : ∃ x, x = ((((w.alloc (rgo r)).alloc (fo f)).alloc (cmo c)).alloc zfo).alloc zfo := ⟨_, rfl⟩
  have HB0 : Hid (Below w.heap.size w w0) := by show Below _ _ _; rw [hw0]; exact below_on (below_on (three_new _ _ _ _) (one_new _ _)) (one_new _ _)
  have KZ0 : Hid (Bk (w.heap.size + 1 + 1 + 1 + 1) zfc w0) := by show Bk _ _ _; rw [hw0]; exact Bk.new ((((w.alloc (rgo r)).alloc (fo f)).alloc (cmo c)).alloc zfo) zfc 29 (w.heap.size + 1 + 1 + 1 + 1) (by simp)
  have KO0 : Hid (Bk (w.heap.size + 1 + 1 + 1) zfc w0) := by show Bk _ _ _; rw [hw0]; exact (Bk.new (((w.alloc (rgo r)).alloc (fo f)).alloc (cmo c)) zfc 29 (w.heap.size + 1 + 1 + 1) (by simp)).later (one_new _ _)
  have KC0 : Hid (Bk (w.heap.size + 1 + 1) (cmc c) w0) := by show Bk _ _ _; rw [hw0]; exact ((Bk.new ((w.alloc (rgo r)).alloc (fo f)) (cmc c) 31 (w.heap.size + 1 + 1) (by simp)).later (one_new _ _)).later (one_new _ _)
  have KF0 : Hid (Bk (w.heap.size + 1) (fc f) w0) := by show Bk _ _ _; rw [hw0]; exact (((Bk.new (w.alloc (rgo r)) (fc f) 29 (w.heap.size + 1) (by simp)).later (one_new _ _)).later (one_new _ _)).later (one_new _ _)
  have KR0 : Hid (Bk w.heap.size (rgc r) w0) := by show Bk _ _ _; rw [hw0]; exact ((((Bk.new w (rgc r) 27 w.heap.size rfl).later (one_new _ _)).later (one_new _ _)).later (one_new _ _)).later (one_new _ _)
  obtain ⟨Z, hZ⟩ : ∃ b, b = w.heap.size + 1 + 1 + 1 + 1 := ⟨_, rfl⟩
  obtain ⟨O, hO⟩ : ∃ b, b = w.heap.size + 1 + 1 + 1 := ⟨_, rfl⟩
  obtain ⟨C, hC⟩ : ∃ b, b = w.heap.size + 1 + 1 := ⟨_, rfl⟩
  obtain ⟨F, hF⟩ : ∃ b, b = w.heap.size + 1 := ⟨_, rfl⟩
  obtain ⟨R, hR⟩ : ∃ b, b = w.heap.size := ⟨_, rfl⟩
  rw [← hZ] at KZ0
  rw [← hO] at KO0
  rw [← hC] at KC0
  rw [← hF] at KF0
  rw [← hR] at KR0
  have HW : Hid (w.heap.size ≤ R ∧ w.heap.size ≤ F ∧ w.heap.size ≤ O ∧ R ≠ F ∧ R ≠ O ∧ F ≠ O ∧ Z ≠ F ∧ Z ≠ O ∧ C ≠ F) := by show _ ∧ _; omega
  have hOF : O ≠ F := by omega
  have hZF : Z ≠ F := by omega
  have hCF : C ≠ F := by omega
  have hRF : R ≠ F := by omega
  clear h
  go_enter Tryd.func14, Tryd.ntmps14
  go_wp2_with fail
  simp only [show ((((w.alloc (rgo r)).alloc (fo f)).alloc (.cells #[.int .i64 c.k, .int .i64 c.x, .int .i64 c.y, .int .i64 c.z, .int .i64 c.v] 31)).alloc zfo).alloc zfo = w0 from hw0.symm, ← hZ]
  simp only [← hO]
  simp only [← hC]
  simp only [← hF]
  simp only [← hR]
  clear hw0 hZ hO hC hF hR
  refine (HM.out _).mono ?_
  rintro e w1 ⟨rfl, hb1⟩
  have HB1 : Hid (Below w.heap.size w w1) := below_on HB0.out hb1
  have KR1 : Hid (Bk R (rgc r) w1) := KR0.out.later hb1
  have KF1 : Hid (Bk F (fc f) w1) := KF0.out.later hb1
  have KC1 : Hid (Bk C (cmc c) w1) := KC0.out.later hb1
  have KO1 : Hid (Bk O zfc w1) := KO0.out.later hb1
  have KZ1 : Hid (Bk Z zfc w1) := KZ0.out.later hb1
  clear hb1 HB0 KR0 KF0 KC0 KO0 KZ0
  have c0 := KC1.out.c 0 rfl
  have c1 := KC1.out.c 1 rfl
  have c2 := KC1.out.c 2 rfl
  have c3 := KC1.out.c 3 rfl
  have c4 := KC1.out.c 4 rfl
  have f0 := KF1.out.c 0 rfl
  have f1 := KF1.out.c 1 rfl
  have f2 := KF1.out.c 2 rfl
  have f3 := KF1.out.c 3 rfl
  have f4 := KF1.out.c 4 rfl
  have f5 := KF1.out.c 5 rfl
  have f6 := KF1.out.c 6 rfl
  have f7 := KF1.out.c 7 rfl
  have f8 := KF1.out.c 8 rfl
  have fz0 := KF1.out.f 0 rfl
  have fz1 := KF1.out.f 1 rfl
  have fz2 := KF1.out.f 2 rfl
  have fz3 := KF1.out.f 3 rfl
  have fz4 := KF1.out.f 4 rfl
  have fz5 := KF1.out.f 5 rfl
  have fz6 := KF1.out.f 6 rfl
  have fz7 := KF1.out.f 7 rfl
  have fz8 := KF1.out.f 8 rfl
  have hRl : R < w1.heap.size := KR1.out.1
  have hFl : F < w1.heap.size := KF1.out.1
  have hCl : C < w1.heap.size := KC1.out.1
  have hOl : O < w1.heap.size := KO1.out.1
  have hZl : Z < w1.heap.size := KZ1.out.1
  have hk := H_hk.out
  have hl := H_hl.out
  rw [hk] at c0
  have hl2 : ¬ 1000000000000000 < f.tk := by omega
  have KO8 : Hid (Bk O zfc ((w1.setCell ⟨F, 6, none⟩ (.int .i64 c.v)).alloc (.cells #[.int .i64 c.x, .int .i64 c.y, .int .i64 c.z] 23))) := ((KO1.out).other hOF _ _).later (one_new _ _)
  have HB8 : Hid (Below w.heap.size w ((w1.setCell ⟨F, 6, none⟩ (.int .i64 c.v)).alloc (.cells #[.int .i64 c.x, .int .i64 c.y, .int .i64 c.z] 23))) := below_on ((HB1.out).setCell HW.out.2.1 _) (one_new _ _)
  go_wp2_with (refine wpList_store_mid rfl 29 _ _ rfl O 0 (fc { f with ht := c.v }).toArray rfl rfl (KO8.out.there (Nat.le_refl _)) info29 (by kernel_rfl) ?_)
  have KO9 : Hid (Bk O (fc { f with ht := c.v }) (((w1.setCell ⟨F, 6, none⟩ (.int .i64 c.v)).alloc (.cells #[.int .i64 c.x, .int .i64 c.y, .int .i64 c.z] 23)).setCells O 0 (fc { f with ht := c.v }))) := KO8.out.setAll _ rfl
  have HB9 : Hid (Below w.heap.size w (((w1.setCell ⟨F, 6, none⟩ (.int .i64 c.v)).alloc (.cells #[.int .i64 c.x, .int .i64 c.y, .int .i64 c.z] 23)).setCells O 0 (fc { f with ht := c.v }))) := HB8.out.trans (low_setCells HW.out.2.2.1 _ _ _)
  exact bodyPost_ret (v := .tuple #[fv { f with ht := c.v }, .int .i64 0]) (results_ct Tryd.results14 _ _ _ rfl rfl (load29 KO9.out)) rfl ⟨rfl, HB9.out⟩
set_option maxHeartbeats 6400000 in
set_option maxRecDepth 100000 in
theorem firmDo_turn (r : Rg) (f : Fm) (c : Cm) (w : World) (h : chkM c = 0) (hk : c.k = 8) (hl : f.tk ≤ 1000000000000000) : Calls Tryd.prog 14 #[rgv r, fv f, cmv c] w fun e w' => e = .returned (.tuple #[fv { f with tu := c.v }, .int .i64 0]) ∧ Below w.heap.size w w' := by
  have HM : Hid (∀ W, Calls Tryd.prog 32 #[cmv c] W fun e w' => e = .returned (.int .i64 0) ∧ Below W.heap.size W w') := fun W => by have := commandMay_any c W; rwa [h] at this
  have H_hk := (show Hid _ from hk)
  have H_hl := (show Hid _ from hl)
  clear hk hl
  obtain ⟨w0, hw0⟩ : ∃ x, x = ((((w.alloc (rgo r)).alloc (fo f)).alloc (cmo c)).alloc zfo).alloc zfo := ⟨_, rfl⟩
  have HB0 : Hid (Below w.heap.size w w0) := by show Below _ _ _; rw [hw0]; exact below_on (below_on (three_new _ _ _ _) (one_new _ _)) (one_new _ _)
  have KZ0 : Hid (Bk (w.heap.size + 1 + 1 + 1 + 1) zfc w0) := by show Bk _ _ _; rw [hw0]; exact Bk.new ((((w.alloc (rgo r)).alloc (fo f)).alloc (cmo c)).alloc zfo) zfc 29 (w.heap.size + 1 + 1 + 1 + 1) (by simp)
  have KO0 : Hid (Bk (w.heap.size + 1 + 1 + 1) zfc w0) := by show Bk _ _ _; rw [hw0]; exact (Bk.new (((w.alloc (rgo r)).alloc (fo f)).alloc (cmo c)) zfc 29 (w.heap.size + 1 + 1 + 1) (by simp)).later (one_new _ _)
  have KC0 : Hid (Bk (w.heap.size + 1 + 1) (cmc c) w0) := by show Bk _ _ _; rw [hw0]; exact ((Bk.new ((w.alloc (rgo r)).alloc (fo f)) (cmc c) 31 (w.heap.size + 1 + 1) (by simp)).later (one_new _ _)).later (one_new _ _)
  have KF0 : Hid (Bk (w.heap.size + 1) (fc f) w0) := by show Bk _ _ _; rw [hw0]; exact (((Bk.new (w.alloc (rgo r)) (fc f) 29 (w.heap.size + 1) (by simp)).later (one_new _ _)).later (one_new _ _)).later (one_new _ _)
  have KR0 : Hid (Bk w.heap.size (rgc r) w0) := by show Bk _ _ _; rw [hw0]; exact ((((Bk.new w (rgc r) 27 w.heap.size rfl).later (one_new _ _)).later (one_new _ _)).later (one_new _ _)).later (one_new _ _)
  obtain ⟨Z, hZ⟩ : ∃ b, b = w.heap.size + 1 + 1 + 1 + 1 := ⟨_, rfl⟩
  obtain ⟨O, hO⟩ : ∃ b, b = w.heap.size + 1 + 1 + 1 := ⟨_, rfl⟩
  obtain ⟨C, hC⟩ : ∃ b, b = w.heap.size + 1 + 1 := ⟨_, rfl⟩
  obtain ⟨F, hF⟩ : ∃ b, b = w.heap.size + 1 := ⟨_, rfl⟩
  obtain ⟨R, hR⟩ : ∃ b, b = w.heap.size := ⟨_, rfl⟩
  rw [← hZ] at KZ0
  rw [← hO] at KO0
  rw [← hC] at KC0
  rw [← hF] at KF0
  rw [← hR] at KR0
  have HW : Hid (w.heap.size ≤ R ∧ w.heap.size ≤ F ∧ w.heap.size ≤ O ∧ R ≠ F ∧ R ≠ O ∧ F ≠ O ∧ Z ≠ F ∧ Z ≠ O ∧ C ≠ F) := by show _ ∧ _; omega
  have hOF : O ≠ F := by omega
  have hZF : Z ≠ F := by omega
  have hCF : C ≠ F := by omega
  have hRF : R ≠ F := by omega
  clear h
  go_enter Tryd.func14, Tryd.ntmps14
  go_wp2_with fail
  simp only [show ((((w.alloc (rgo r)).alloc (fo f)).alloc (.cells #[.int .i64 c.k, .int .i64 c.x, .int .i64 c.y, .int .i64 c.z, .int .i64 c.v] 31)).alloc zfo).alloc zfo = w0 from hw0.symm, ← hZ]
  simp only [← hO]
  simp only [← hC]
  simp only [← hF]
  simp only [← hR]
  clear hw0 hZ hO hC hF hR
  refine (HM.out _).mono ?_
  rintro e w1 ⟨rfl, hb1⟩
  have HB1 : Hid (Below w.heap.size w w1) := below_on HB0.out hb1
  have KR1 : Hid (Bk R (rgc r) w1) := KR0.out.later hb1
  have KF1 : Hid (Bk F (fc f) w1) := KF0.out.later hb1
  have KC1 : Hid (Bk C (cmc c) w1) := KC0.out.later hb1
  have KO1 : Hid (Bk O zfc w1) := KO0.out.later hb1
  have KZ1 : Hid (Bk Z zfc w1) := KZ0.out.later hb1
  clear hb1 HB0 KR0 KF0 KC0 KO0 KZ0
  have c0 := KC1.out.c 0 rfl
  have c1 := KC1.out.c 1 rfl
  have c2 := KC1.out.c 2 rfl
  have c3 := KC1.out.c 3 rfl
  have c4 := KC1.out.c 4 rfl
  have f0 := KF1.out.c 0 rfl
  have f1 := KF1.out.c 1 rfl
  have f2 := KF1.out.c 2 rfl
  have f3 := KF1.out.c 3 rfl
  have f4 := KF1.out.c 4 rfl
  have f5 := KF1.out.c 5 rfl
  have f6 := KF1.out.c 6 rfl
  have f7 := KF1.out.c 7 rfl
  have f8 := KF1.out.c 8 rfl
  have fz0 := KF1.out.f 0 rfl
  have fz1 := KF1.out.f 1 rfl
  have fz2 := KF1.out.f 2 rfl
  have fz3 := KF1.out.f 3 rfl
  have fz4 := KF1.out.f 4 rfl
  have fz5 := KF1.out.f 5 rfl
  have fz6 := KF1.out.f 6 rfl
  have fz7 := KF1.out.f 7 rfl
  have fz8 := KF1.out.f 8 rfl
  have hRl : R < w1.heap.size := KR1.out.1
  have hFl : F < w1.heap.size := KF1.out.1
  have hCl : C < w1.heap.size := KC1.out.1
  have hOl : O < w1.heap.size := KO1.out.1
  have hZl : Z < w1.heap.size := KZ1.out.1
  have hk := H_hk.out
  have hl := H_hl.out
  rw [hk] at c0
  have hl2 : ¬ 1000000000000000 < f.tk := by omega
  have KO8 : Hid (Bk O zfc ((w1.setCell ⟨F, 7, none⟩ (.int .i64 c.v)).alloc (.cells #[.int .i64 c.x, .int .i64 c.y, .int .i64 c.z] 23))) := ((KO1.out).other hOF _ _).later (one_new _ _)
  have HB8 : Hid (Below w.heap.size w ((w1.setCell ⟨F, 7, none⟩ (.int .i64 c.v)).alloc (.cells #[.int .i64 c.x, .int .i64 c.y, .int .i64 c.z] 23))) := below_on ((HB1.out).setCell HW.out.2.1 _) (one_new _ _)
  go_wp2_with (refine wpList_store_mid rfl 29 _ _ rfl O 0 (fc { f with tu := c.v }).toArray rfl rfl (KO8.out.there (Nat.le_refl _)) info29 (by kernel_rfl) ?_)
  have KO9 : Hid (Bk O (fc { f with tu := c.v }) (((w1.setCell ⟨F, 7, none⟩ (.int .i64 c.v)).alloc (.cells #[.int .i64 c.x, .int .i64 c.y, .int .i64 c.z] 23)).setCells O 0 (fc { f with tu := c.v }))) := KO8.out.setAll _ rfl
  have HB9 : Hid (Below w.heap.size w (((w1.setCell ⟨F, 7, none⟩ (.int .i64 c.v)).alloc (.cells #[.int .i64 c.x, .int .i64 c.y, .int .i64 c.z] 23)).setCells O 0 (fc { f with tu := c.v }))) := HB8.out.trans (low_setCells HW.out.2.2.1 _ _ _)
  exact bodyPost_ret (v := .tuple #[fv { f with tu := c.v }, .int .i64 0]) (results_ct Tryd.results14 _ _ _ rfl rfl (load29 KO9.out)) rfl ⟨rfl, HB9.out⟩
set_option maxHeartbeats 6400000 in
set_option maxRecDepth 100000 in
theorem firmDo_grab (r : Rg) (f : Fm) (c : Cm) (w : World) (h : chkM c = 0) (hk : c.k = 4) (hm : f.hm = true) (ht : f.tp = false) (hl : f.tk ≤ 1000000000000000) : Calls Tryd.prog 14 #[rgv r, fv f, cmv c] w fun e w' => e = .returned (.tuple #[fv ⟨true, f.pt, 0, true, f.ht, f.tu, f.tk⟩, .int .i64 0]) ∧ Below w.heap.size w w' := by
  have HM : Hid (∀ W, Calls Tryd.prog 32 #[cmv c] W fun e w' => e = .returned (.int .i64 0) ∧ Below W.heap.size W w') := fun W => by have := commandMay_any c W; rwa [h] at this
  have H_hk := (show Hid _ from hk)
  have H_hm := (show Hid _ from hm)
  have H_ht := (show Hid _ from ht)
  have H_hl := (show Hid _ from hl)
  clear hk hm ht hl
  obtain ⟨w0, hw0⟩ : ∃ x, x = ((((w.alloc (rgo r)).alloc (fo f)).alloc (cmo c)).alloc zfo).alloc zfo := ⟨_, rfl⟩
  have HB0 : Hid (Below w.heap.size w w0) := by show Below _ _ _; rw [hw0]; exact below_on (below_on (three_new _ _ _ _) (one_new _ _)) (one_new _ _)
  have KZ0 : Hid (Bk (w.heap.size + 1 + 1 + 1 + 1) zfc w0) := by show Bk _ _ _; rw [hw0]; exact Bk.new ((((w.alloc (rgo r)).alloc (fo f)).alloc (cmo c)).alloc zfo) zfc 29 (w.heap.size + 1 + 1 + 1 + 1) (by simp)
  have KO0 : Hid (Bk (w.heap.size + 1 + 1 + 1) zfc w0) := by show Bk _ _ _; rw [hw0]; exact (Bk.new (((w.alloc (rgo r)).alloc (fo f)).alloc (cmo c)) zfc 29 (w.heap.size + 1 + 1 + 1) (by simp)).later (one_new _ _)
  have KC0 : Hid (Bk (w.heap.size + 1 + 1) (cmc c) w0) := by show Bk _ _ _; rw [hw0]; exact ((Bk.new ((w.alloc (rgo r)).alloc (fo f)) (cmc c) 31 (w.heap.size + 1 + 1) (by simp)).later (one_new _ _)).later (one_new _ _)
  have KF0 : Hid (Bk (w.heap.size + 1) (fc f) w0) := by show Bk _ _ _; rw [hw0]; exact (((Bk.new (w.alloc (rgo r)) (fc f) 29 (w.heap.size + 1) (by simp)).later (one_new _ _)).later (one_new _ _)).later (one_new _ _)
  have KR0 : Hid (Bk w.heap.size (rgc r) w0) := by show Bk _ _ _; rw [hw0]; exact ((((Bk.new w (rgc r) 27 w.heap.size rfl).later (one_new _ _)).later (one_new _ _)).later (one_new _ _)).later (one_new _ _)
  obtain ⟨Z, hZ⟩ : ∃ b, b = w.heap.size + 1 + 1 + 1 + 1 := ⟨_, rfl⟩
  obtain ⟨O, hO⟩ : ∃ b, b = w.heap.size + 1 + 1 + 1 := ⟨_, rfl⟩
  obtain ⟨C, hC⟩ : ∃ b, b = w.heap.size + 1 + 1 := ⟨_, rfl⟩
  obtain ⟨F, hF⟩ : ∃ b, b = w.heap.size + 1 := ⟨_, rfl⟩
  obtain ⟨R, hR⟩ : ∃ b, b = w.heap.size := ⟨_, rfl⟩
  rw [← hZ] at KZ0
  rw [← hO] at KO0
  rw [← hC] at KC0
  rw [← hF] at KF0
  rw [← hR] at KR0
  have HW : Hid (w.heap.size ≤ R ∧ w.heap.size ≤ F ∧ w.heap.size ≤ O ∧ R ≠ F ∧ R ≠ O ∧ F ≠ O ∧ Z ≠ F ∧ Z ≠ O ∧ C ≠ F) := by show _ ∧ _; omega
  have hOF : O ≠ F := by omega
  have hZF : Z ≠ F := by omega
  have hCF : C ≠ F := by omega
  have hRF : R ≠ F := by omega
  clear h
  go_enter Tryd.func14, Tryd.ntmps14
  go_wp2_with fail
  simp only [show ((((w.alloc (rgo r)).alloc (fo f)).alloc (.cells #[.int .i64 c.k, .int .i64 c.x, .int .i64 c.y, .int .i64 c.z, .int .i64 c.v] 31)).alloc zfo).alloc zfo = w0 from hw0.symm, ← hZ]
  simp only [← hO]
  simp only [← hC]
  simp only [← hF]
  simp only [← hR]
  clear hw0 hZ hO hC hF hR
  refine (HM.out _).mono ?_
  rintro e w1 ⟨rfl, hb1⟩
  have HB1 : Hid (Below w.heap.size w w1) := below_on HB0.out hb1
  have KR1 : Hid (Bk R (rgc r) w1) := KR0.out.later hb1
  have KF1 : Hid (Bk F (fc f) w1) := KF0.out.later hb1
  have KC1 : Hid (Bk C (cmc c) w1) := KC0.out.later hb1
  have KO1 : Hid (Bk O zfc w1) := KO0.out.later hb1
  have KZ1 : Hid (Bk Z zfc w1) := KZ0.out.later hb1
  clear hb1 HB0 KR0 KF0 KC0 KO0 KZ0
  have c0 := KC1.out.c 0 rfl
  have c1 := KC1.out.c 1 rfl
  have c2 := KC1.out.c 2 rfl
  have c3 := KC1.out.c 3 rfl
  have c4 := KC1.out.c 4 rfl
  have f0 := KF1.out.c 0 rfl
  have f1 := KF1.out.c 1 rfl
  have f2 := KF1.out.c 2 rfl
  have f3 := KF1.out.c 3 rfl
  have f4 := KF1.out.c 4 rfl
  have f5 := KF1.out.c 5 rfl
  have f6 := KF1.out.c 6 rfl
  have f7 := KF1.out.c 7 rfl
  have f8 := KF1.out.c 8 rfl
  have fz0 := KF1.out.f 0 rfl
  have fz1 := KF1.out.f 1 rfl
  have fz2 := KF1.out.f 2 rfl
  have fz3 := KF1.out.f 3 rfl
  have fz4 := KF1.out.f 4 rfl
  have fz5 := KF1.out.f 5 rfl
  have fz6 := KF1.out.f 6 rfl
  have fz7 := KF1.out.f 7 rfl
  have fz8 := KF1.out.f 8 rfl
  have hRl : R < w1.heap.size := KR1.out.1
  have hFl : F < w1.heap.size := KF1.out.1
  have hCl : C < w1.heap.size := KC1.out.1
  have hOl : O < w1.heap.size := KO1.out.1
  have hZl : Z < w1.heap.size := KZ1.out.1
  have hk := H_hk.out
  have hm := H_hm.out
  have ht := H_ht.out
  have hl := H_hl.out
  rw [hk] at c0
  rw [hm] at f0
  rw [ht] at f5
  clear hm ht
  have hl2 : ¬ 1000000000000000 < f.tk := by omega
  have KO8 : Hid (Bk O zfc (((w1.setCell ⟨F, 5, none⟩ (.bool true)).setCell ⟨F, 4, none⟩ (.int .i64 0)).alloc (.cells #[.int .i64 c.x, .int .i64 c.y, .int .i64 c.z] 23))) := (((KO1.out).other hOF _ _).other hOF _ _).later (one_new _ _)
  have HB8 : Hid (Below w.heap.size w (((w1.setCell ⟨F, 5, none⟩ (.bool true)).setCell ⟨F, 4, none⟩ (.int .i64 0)).alloc (.cells #[.int .i64 c.x, .int .i64 c.y, .int .i64 c.z] 23))) := below_on (((HB1.out).setCell HW.out.2.1 _).setCell HW.out.2.1 _) (one_new _ _)
  go_wp2_with (refine wpList_store_mid rfl 29 _ _ rfl O 0 (fc ⟨true, f.pt, 0, true, f.ht, f.tu, f.tk⟩).toArray rfl rfl (KO8.out.there (Nat.le_refl _)) info29 (by kernel_rfl) ?_)
  have KO9 : Hid (Bk O (fc ⟨true, f.pt, 0, true, f.ht, f.tu, f.tk⟩) ((((w1.setCell ⟨F, 5, none⟩ (.bool true)).setCell ⟨F, 4, none⟩ (.int .i64 0)).alloc (.cells #[.int .i64 c.x, .int .i64 c.y, .int .i64 c.z] 23)).setCells O 0 (fc ⟨true, f.pt, 0, true, f.ht, f.tu, f.tk⟩))) := KO8.out.setAll _ rfl
  have HB9 : Hid (Below w.heap.size w ((((w1.setCell ⟨F, 5, none⟩ (.bool true)).setCell ⟨F, 4, none⟩ (.int .i64 0)).alloc (.cells #[.int .i64 c.x, .int .i64 c.y, .int .i64 c.z] 23)).setCells O 0 (fc ⟨true, f.pt, 0, true, f.ht, f.tu, f.tk⟩))) := HB8.out.trans (low_setCells HW.out.2.2.1 _ _ _)
  exact bodyPost_ret (v := .tuple #[fv ⟨true, f.pt, 0, true, f.ht, f.tu, f.tk⟩, .int .i64 0]) (results_ct Tryd.results14 _ _ _ rfl rfl (load29 KO9.out)) rfl ⟨rfl, HB9.out⟩
set_option maxHeartbeats 6400000 in
set_option maxRecDepth 100000 in
theorem firmDo_eject (r : Rg) (f : Fm) (c : Cm) (w : World) (h : chkM c = 0) (hk : c.k = 5) (hm : f.hm = true) (ht : f.tp = true) (hl : f.tk ≤ 1000000000000000) : Calls Tryd.prog 14 #[rgv r, fv f, cmv c] w fun e w' => e = .returned (.tuple #[fv ⟨true, f.pt, 0, false, f.ht, f.tu, f.tk⟩, .int .i64 0]) ∧ Below w.heap.size w w' := by
  have HM : Hid (∀ W, Calls Tryd.prog 32 #[cmv c] W fun e w' => e = .returned (.int .i64 0) ∧ Below W.heap.size W w') := fun W => by have := commandMay_any c W; rwa [h] at this
  have H_hk := (show Hid _ from hk)
  have H_hm := (show Hid _ from hm)
  have H_ht := (show Hid _ from ht)
  have H_hl := (show Hid _ from hl)
  clear hk hm ht hl
  obtain ⟨w0, hw0⟩ : ∃ x, x = ((((w.alloc (rgo r)).alloc (fo f)).alloc (cmo c)).alloc zfo).alloc zfo := ⟨_, rfl⟩
  have HB0 : Hid (Below w.heap.size w w0) := by show Below _ _ _; rw [hw0]; exact below_on (below_on (three_new _ _ _ _) (one_new _ _)) (one_new _ _)
  have KZ0 : Hid (Bk (w.heap.size + 1 + 1 + 1 + 1) zfc w0) := by show Bk _ _ _; rw [hw0]; exact Bk.new ((((w.alloc (rgo r)).alloc (fo f)).alloc (cmo c)).alloc zfo) zfc 29 (w.heap.size + 1 + 1 + 1 + 1) (by simp)
  have KO0 : Hid (Bk (w.heap.size + 1 + 1 + 1) zfc w0) := by show Bk _ _ _; rw [hw0]; exact (Bk.new (((w.alloc (rgo r)).alloc (fo f)).alloc (cmo c)) zfc 29 (w.heap.size + 1 + 1 + 1) (by simp)).later (one_new _ _)
  have KC0 : Hid (Bk (w.heap.size + 1 + 1) (cmc c) w0) := by show Bk _ _ _; rw [hw0]; exact ((Bk.new ((w.alloc (rgo r)).alloc (fo f)) (cmc c) 31 (w.heap.size + 1 + 1) (by simp)).later (one_new _ _)).later (one_new _ _)
  have KF0 : Hid (Bk (w.heap.size + 1) (fc f) w0) := by show Bk _ _ _; rw [hw0]; exact (((Bk.new (w.alloc (rgo r)) (fc f) 29 (w.heap.size + 1) (by simp)).later (one_new _ _)).later (one_new _ _)).later (one_new _ _)
  have KR0 : Hid (Bk w.heap.size (rgc r) w0) := by show Bk _ _ _; rw [hw0]; exact ((((Bk.new w (rgc r) 27 w.heap.size rfl).later (one_new _ _)).later (one_new _ _)).later (one_new _ _)).later (one_new _ _)
  obtain ⟨Z, hZ⟩ : ∃ b, b = w.heap.size + 1 + 1 + 1 + 1 := ⟨_, rfl⟩
  obtain ⟨O, hO⟩ : ∃ b, b = w.heap.size + 1 + 1 + 1 := ⟨_, rfl⟩
  obtain ⟨C, hC⟩ : ∃ b, b = w.heap.size + 1 + 1 := ⟨_, rfl⟩
  obtain ⟨F, hF⟩ : ∃ b, b = w.heap.size + 1 := ⟨_, rfl⟩
  obtain ⟨R, hR⟩ : ∃ b, b = w.heap.size := ⟨_, rfl⟩
  rw [← hZ] at KZ0
  rw [← hO] at KO0
  rw [← hC] at KC0
  rw [← hF] at KF0
  rw [← hR] at KR0
  have HW : Hid (w.heap.size ≤ R ∧ w.heap.size ≤ F ∧ w.heap.size ≤ O ∧ R ≠ F ∧ R ≠ O ∧ F ≠ O ∧ Z ≠ F ∧ Z ≠ O ∧ C ≠ F) := by show _ ∧ _; omega
  have hOF : O ≠ F := by omega
  have hZF : Z ≠ F := by omega
  have hCF : C ≠ F := by omega
  have hRF : R ≠ F := by omega
  clear h
  go_enter Tryd.func14, Tryd.ntmps14
  go_wp2_with fail
  simp only [show ((((w.alloc (rgo r)).alloc (fo f)).alloc (.cells #[.int .i64 c.k, .int .i64 c.x, .int .i64 c.y, .int .i64 c.z, .int .i64 c.v] 31)).alloc zfo).alloc zfo = w0 from hw0.symm, ← hZ]
  simp only [← hO]
  simp only [← hC]
  simp only [← hF]
  simp only [← hR]
  clear hw0 hZ hO hC hF hR
  refine (HM.out _).mono ?_
  rintro e w1 ⟨rfl, hb1⟩
  have HB1 : Hid (Below w.heap.size w w1) := below_on HB0.out hb1
  have KR1 : Hid (Bk R (rgc r) w1) := KR0.out.later hb1
  have KF1 : Hid (Bk F (fc f) w1) := KF0.out.later hb1
  have KC1 : Hid (Bk C (cmc c) w1) := KC0.out.later hb1
  have KO1 : Hid (Bk O zfc w1) := KO0.out.later hb1
  have KZ1 : Hid (Bk Z zfc w1) := KZ0.out.later hb1
  clear hb1 HB0 KR0 KF0 KC0 KO0 KZ0
  have c0 := KC1.out.c 0 rfl
  have c1 := KC1.out.c 1 rfl
  have c2 := KC1.out.c 2 rfl
  have c3 := KC1.out.c 3 rfl
  have c4 := KC1.out.c 4 rfl
  have f0 := KF1.out.c 0 rfl
  have f1 := KF1.out.c 1 rfl
  have f2 := KF1.out.c 2 rfl
  have f3 := KF1.out.c 3 rfl
  have f4 := KF1.out.c 4 rfl
  have f5 := KF1.out.c 5 rfl
  have f6 := KF1.out.c 6 rfl
  have f7 := KF1.out.c 7 rfl
  have f8 := KF1.out.c 8 rfl
  have fz0 := KF1.out.f 0 rfl
  have fz1 := KF1.out.f 1 rfl
  have fz2 := KF1.out.f 2 rfl
  have fz3 := KF1.out.f 3 rfl
  have fz4 := KF1.out.f 4 rfl
  have fz5 := KF1.out.f 5 rfl
  have fz6 := KF1.out.f 6 rfl
  have fz7 := KF1.out.f 7 rfl
  have fz8 := KF1.out.f 8 rfl
  have hRl : R < w1.heap.size := KR1.out.1
  have hFl : F < w1.heap.size := KF1.out.1
  have hCl : C < w1.heap.size := KC1.out.1
  have hOl : O < w1.heap.size := KO1.out.1
  have hZl : Z < w1.heap.size := KZ1.out.1
  have hk := H_hk.out
  have hm := H_hm.out
  have ht := H_ht.out
  have hl := H_hl.out
  rw [hk] at c0
  rw [hm] at f0
  rw [ht] at f5
  clear hm ht
  have hl2 : ¬ 1000000000000000 < f.tk := by omega
  have KO8 : Hid (Bk O zfc (((w1.setCell ⟨F, 5, none⟩ (.bool false)).setCell ⟨F, 4, none⟩ (.int .i64 0)).alloc (.cells #[.int .i64 c.x, .int .i64 c.y, .int .i64 c.z] 23))) := (((KO1.out).other hOF _ _).other hOF _ _).later (one_new _ _)
  have HB8 : Hid (Below w.heap.size w (((w1.setCell ⟨F, 5, none⟩ (.bool false)).setCell ⟨F, 4, none⟩ (.int .i64 0)).alloc (.cells #[.int .i64 c.x, .int .i64 c.y, .int .i64 c.z] 23))) := below_on (((HB1.out).setCell HW.out.2.1 _).setCell HW.out.2.1 _) (one_new _ _)
  go_wp2_with (refine wpList_store_mid rfl 29 _ _ rfl O 0 (fc ⟨true, f.pt, 0, false, f.ht, f.tu, f.tk⟩).toArray rfl rfl (KO8.out.there (Nat.le_refl _)) info29 (by kernel_rfl) ?_)
  have KO9 : Hid (Bk O (fc ⟨true, f.pt, 0, false, f.ht, f.tu, f.tk⟩) ((((w1.setCell ⟨F, 5, none⟩ (.bool false)).setCell ⟨F, 4, none⟩ (.int .i64 0)).alloc (.cells #[.int .i64 c.x, .int .i64 c.y, .int .i64 c.z] 23)).setCells O 0 (fc ⟨true, f.pt, 0, false, f.ht, f.tu, f.tk⟩))) := KO8.out.setAll _ rfl
  have HB9 : Hid (Below w.heap.size w ((((w1.setCell ⟨F, 5, none⟩ (.bool false)).setCell ⟨F, 4, none⟩ (.int .i64 0)).alloc (.cells #[.int .i64 c.x, .int .i64 c.y, .int .i64 c.z] 23)).setCells O 0 (fc ⟨true, f.pt, 0, false, f.ht, f.tu, f.tk⟩))) := HB8.out.trans (low_setCells HW.out.2.2.1 _ _ _)
  exact bodyPost_ret (v := .tuple #[fv ⟨true, f.pt, 0, false, f.ht, f.tu, f.tk⟩, .int .i64 0]) (results_ct Tryd.results14 _ _ _ rfl rfl (load29 KO9.out)) rfl ⟨rfl, HB9.out⟩
end Go.Proofs.YtgahlhfgpkklaaaDoor
