/- FirmDo of the document walked: Home, not homed. -/
import Derived.Test.YtgahlhfgpkklaaaDoorGCH
import Derived.Test.YtgahlhfgpkklaaaDoorGDH
import Derived.Test.YtgahlhfgpkklaaaDoorGEH
namespace Go.Proofs.YtgahlhfgpkklaaaDoor
open Go.RowKit Go.Maps

set_option linter.unusedVariables false in
def dhomeV (R F C T : Nat) (r : Rg) (f : Fm) (c : Cm) (m s t x : Int) (d : Nat) (v : Value) (_ : World) : Prop :=
  match d with
  | 66 => v = .pointer (some ⟨F, 8, none⟩)
  | 67 => v = .int .i64 f.tk
  | 68 => v = .agg #[.int .i64 r.lo.x, .int .i64 r.lo.y, .int .i64 r.lo.z, .int .i64 r.hi.x, .int .i64 r.hi.y, .int .i64 r.hi.z, .int .i64 r.rp.c, .int .i64 r.rp.f, .int .i64 r.rp.m, .int .i64 r.rp.r, .int .i64 r.ps, .int .i64 r.mo]
  | 69 => v = .pointer (some ⟨R, 3, none⟩)
  | 70 => v = .agg #[.int .i64 r.hi.x, .int .i64 r.hi.y, .int .i64 r.hi.z]
  | 71 => v = .pointer (some ⟨R, 0, none⟩)
  | 72 => v = .agg #[.int .i64 r.lo.x, .int .i64 r.lo.y, .int .i64 r.lo.z]
  | 73 => v = .int .i64 t
  | 74 => v = .int .i64 x
  | 75 => v = .pointer (some ⟨F, 8, none⟩)
  | _ => True
set_option linter.unusedVariables false in
theorem dhomeV_mono (R F C T : Nat) (r : Rg) (f : Fm) (c : Cm) (m s t x : Int) (d : Nat) (v : Value) (w w' : World) (h : dhomeV R F C T r f c m s t x d v w) (_ : Below w.heap.size w w') : dhomeV R F C T r f c m s t x d v w' := h
set_option maxHeartbeats 6400000 in
set_option maxRecDepth 100000 in
theorem firmDo_home_late (r : Rg) (f : Fm) (c : Cm) (w : World) (h : chkM c = 0) (m s t x : Int) (hk : c.k = 1) (hm : f.hm = false) (htw : IntKind.i64.wrap (f.tk + t) = x) (hu : ∀ W, Calls Tryd.prog 13 #[rgv r, v3 r.hi, v3 r.lo] W fun e w' => e = .returned (.int .i64 t) ∧ Below W.heap.size W w') (hl : 1000000000000000 < x) : Calls Tryd.prog 14 #[rgv r, fv f, cmv c] w fun e w' => e = .returned (.tuple #[zfv, .int .i64 8]) ∧ Below w.heap.size w w' := by
  have HM : Hid (∀ W, Calls Tryd.prog 32 #[cmv c] W fun e w' => e = .returned (.int .i64 0) ∧ Below W.heap.size W w') := fun W => by have := commandMay_any c W; rwa [h] at this
  have H_hk := (show Hid _ from hk)
  have H_hm := (show Hid _ from hm)
  have HTW := (show Hid _ from htw)
  have HU := (show Hid _ from hu)
  have H_hl := (show Hid _ from hl)
  clear hk hm htw hu hl
  obtain ⟨w0, hw0⟩ : ∃ x, x = ((((w.alloc (rgo r)).alloc (fo f)).alloc (cmo c)).alloc zfo).alloc zfo := ⟨_, rfl⟩
  have HB0 : Hid (Below w.heap.size w w0) := by show Below _ _ _; rw [hw0]; exact below_on (below_on (three_new _ _ _ _) (one_new _ _)) (one_new _ _)
  have KZ0 : Hid (Bk (w.heap.size + 1 + 1 + 1 + 1) zfc w0) := by show Bk _ _ _; rw [hw0]; exact Bk.new ((((w.alloc (rgo r)).alloc (fo f)).alloc (cmo c)).alloc zfo) zfc 29 (w.heap.size + 1 + 1 + 1 + 1) (by simp)
  have KO0 : Hid (Bk (w.heap.size + 1 + 1 + 1) zfc w0) := by show Bk _ _ _; rw [hw0]; exact (Bk.new (((w.alloc (rgo r)).alloc (fo f)).alloc (cmo c)) zfc 29 (w.heap.size + 1 + 1 + 1) (by simp)).later (one_new _ _)
  have KC0 : Hid (Bk (w.heap.size + 1 + 1) (cmc c) w0) := by show Bk _ _ _; rw [hw0]; exact ((Bk.new ((w.alloc (rgo r)).alloc (fo f)) (cmc c) 31 (w.heap.size + 1 + 1) (by simp)).later (one_new _ _)).later (one_new _ _)
  have KF0 : Hid (Bk (w.heap.size + 1) (fc f) w0) := by show Bk _ _ _; rw [hw0]; exact (((Bk.new (w.alloc (rgo r)) (fc f) 29 (w.heap.size + 1) (by simp)).later (one_new _ _)).later (one_new _ _)).later (one_new _ _)
  have KR0 : Hid (Bk w.heap.size (rgc r) w0) := by show Bk _ _ _; rw [hw0]; exact ((((Bk.new w (rgc r) 27 w.heap.size rfl).later (one_new _ _)).later (one_new _ _)).later (one_new _ _)).later (one_new _ _)
  obtain ⟨Z, hZ⟩ : ∃ b, b = w.heap.size + 1 + 1 + 1 + 1 := ⟨_, rfl⟩
  obtain ⟨O, hO⟩ : ∃ b, b = w.heap.size + 1 + 1 + 1 := ⟨_, rfl⟩
  obtain ⟨C, hC⟩ : ∃ b, b = w.heap.size + 1 + 1 := ⟨_, rfl⟩
  obtain ⟨F, hF⟩ : ∃ b, b = w.heap.size + 1 := ⟨_, rfl⟩
  obtain ⟨R, hR⟩ : ∃ b, b = w.heap.size := ⟨_, rfl⟩
  rw [← hZ] at KZ0
  rw [← hO] at KO0
  rw [← hC] at KC0
  rw [← hF] at KF0
  rw [← hR] at KR0
  have HW : Hid (w.heap.size ≤ R ∧ w.heap.size ≤ F ∧ w.heap.size ≤ O ∧ R ≠ F ∧ R ≠ O ∧ F ≠ O ∧ Z ≠ F ∧ Z ≠ O ∧ C ≠ F) := by show _ ∧ _; omega
  have hOF : O ≠ F := by omega
  have hZF : Z ≠ F := by omega
  have hCF : C ≠ F := by omega
  have hRF : R ≠ F := by omega
  clear h
  go_enter Tryd.func14, Tryd.ntmps14
  go_wp2_with fail
  simp only [show ((((w.alloc (rgo r)).alloc (fo f)).alloc (.cells #[.int .i64 c.k, .int .i64 c.x, .int .i64 c.y, .int .i64 c.z, .int .i64 c.v] 31)).alloc zfo).alloc zfo = w0 from hw0.symm, ← hZ]
  simp only [← hO]
  simp only [← hC]
  simp only [← hF]
  simp only [← hR]
  clear hw0 hZ hO hC hF hR
  refine (HM.out _).mono ?_
  rintro e w1 ⟨rfl, hb1⟩
  have HB1 : Hid (Below w.heap.size w w1) := below_on HB0.out hb1
  have KR1 : Hid (Bk R (rgc r) w1) := KR0.out.later hb1
  have KF1 : Hid (Bk F (fc f) w1) := KF0.out.later hb1
  have KC1 : Hid (Bk C (cmc c) w1) := KC0.out.later hb1
  have KO1 : Hid (Bk O zfc w1) := KO0.out.later hb1
  have KZ1 : Hid (Bk Z zfc w1) := KZ0.out.later hb1
  clear hb1 HB0 KR0 KF0 KC0 KO0 KZ0
  have c0 := KC1.out.c 0 rfl
  have c1 := KC1.out.c 1 rfl
  have c2 := KC1.out.c 2 rfl
  have c3 := KC1.out.c 3 rfl
  have c4 := KC1.out.c 4 rfl
  have f0 := KF1.out.c 0 rfl
  have f5 := KF1.out.c 5 rfl
  have r11 := KR1.out.c 11 rfl
  have hRl : R < w1.heap.size := KR1.out.1
  have hFl : F < w1.heap.size := KF1.out.1
  have hCl : C < w1.heap.size := KC1.out.1
  have hOl : O < w1.heap.size := KO1.out.1
  have hZl : Z < w1.heap.size := KZ1.out.1
  have hk := H_hk.out
  rw [hk] at c0
  have hm := H_hm.out
  rw [hm] at f0
  clear hm
  obtain ⟨w2, hw2⟩ : ∃ y, y = w1.alloc (.cells #[.int .i64 c.x, .int .i64 c.y, .int .i64 c.z] 23) := ⟨_, rfl⟩
  have HB2 : Hid (Below w.heap.size w w2) := by show Below _ _ _; rw [hw2]; exact below_on HB1.out (one_new _ _)
  have KR2 : Hid (Bk R (rgc r) w2) := by show Bk _ _ _; rw [hw2]; exact KR1.out.later (one_new _ _)
  have KF2 : Hid (Bk F (fc f) w2) := by show Bk _ _ _; rw [hw2]; exact KF1.out.later (one_new _ _)
  have KC2 : Hid (Bk C (cmc c) w2) := by show Bk _ _ _; rw [hw2]; exact KC1.out.later (one_new _ _)
  have KO2 : Hid (Bk O zfc w2) := by show Bk _ _ _; rw [hw2]; exact KO1.out.later (one_new _ _)
  have KZ2 : Hid (Bk Z zfc w2) := by show Bk _ _ _; rw [hw2]; exact KZ1.out.later (one_new _ _)
  have KT2 : Hid (Bk w1.heap.size [.int .i64 c.x, .int .i64 c.y, .int .i64 c.z] w2) := by show Bk _ _ _; rw [hw2]; exact Bk.new w1 [.int .i64 c.x, .int .i64 c.y, .int .i64 c.z] 23 w1.heap.size rfl
  obtain ⟨T, hT⟩ : ∃ b, b = w1.heap.size := ⟨_, rfl⟩
  rw [← hT] at KT2
  have hTF : T ≠ F := by omega
  go_wp2_with fail
  simp only [← hw2, ← hT]
  clear hw2 hT c0 c1 c2 c3 c4 f0 f5 r11 hRl hFl hCl hOl hZl KR1 KF1 KC1 KO1 KZ1 HB1
  rename_i KK hkk
  have HKK := (show Hid _ from hkk)
  clear hkk
  refine region_seq 10 [false, false, false, false, false, false, false, false, false, false, false, false, false, false, false, false, false, false, false, false, false, false, false, false, false, false, false, false, false, false, false, false, false, false, false, false, false, false, false, false, false, false, false, false, false, false, false, false, false, false, false, false, false, false, false, false, false, false, false, false, false, false, false, false, false, false, true, true, true, true, true, true, true, true, true, true, false, false, false, false, false, false, false, false, false, false, false, false, false, false, false, false, false, false, false, false, false, false, false, false, false, false, false, false, false, false, false, false, false, false, false, false, false, false, false, false, false, false, false, false, false, false, false, false, false, false, false, false, false, false, false, false, false, false, false, false, false, false, false, false, false, false, false, false, false, false, false, false, false, false, false, false, false, false, false, false, false, false, false, false, false, false, false, false, false, false]
    [(66, [], none), (67, [66], none), (68, [], none), (69, [], none), (70, [69], none), (71, [], none), (72, [71], none), (73, [68, 70, 72], none), (74, [67, 73], none), (75, [], none)]
    (dhomeV R F C T r f c m s t x) (by kernel_rfl) (by kernel_rfl) (by kernel_rfl) (by kernel_rfl) (by kernel_rfl) (by decide) (dhomeV_mono R F C T r f c m s t x) ?_ ?_
  · refine ⟨?_, ?_, ?_, ?_, ?_, ?_, ?_, ?_, ?_, ?_, trivial⟩
    · intro f w1 hb _ K hK
      simp only [over, overL, Nat.reduceAdd]
      go_simp
      exact hK _ _ ⟨_, rfl, by simp only [over, overL, Nat.reduceAdd]; rfl, Below.refl _ _⟩
    · intro f w1 hb ⟨h66, _⟩ K hK
      replace h66 : f 66 = _ := h66
      have q8 := (KF2.out.later hb).c 8 rfl
      simp only [over, overL, Nat.reduceAdd, h66]
      go_simp
      exact hK _ _ ⟨_, rfl, by simp only [over, overL, Nat.reduceAdd, h66]; rfl, Below.refl _ _⟩
    · intro f w1 hb _ K hK
      have q0 := (KR2.out.later hb).c 0 rfl
      have q1 := (KR2.out.later hb).c 1 rfl
      have q2 := (KR2.out.later hb).c 2 rfl
      have q3 := (KR2.out.later hb).c 3 rfl
      have q4 := (KR2.out.later hb).c 4 rfl
      have q5 := (KR2.out.later hb).c 5 rfl
      have q6 := (KR2.out.later hb).c 6 rfl
      have q7 := (KR2.out.later hb).c 7 rfl
      have q8 := (KR2.out.later hb).c 8 rfl
      have q9 := (KR2.out.later hb).c 9 rfl
      have q10 := (KR2.out.later hb).c 10 rfl
      have q11 := (KR2.out.later hb).c 11 rfl
      simp only [over, overL, Nat.reduceAdd]
      go_simp
      exact hK _ _ ⟨_, rfl, by simp only [over, overL, Nat.reduceAdd]; rfl, Below.refl _ _⟩
    · intro f w1 hb _ K hK
      simp only [over, overL, Nat.reduceAdd]
      go_simp
      exact hK _ _ ⟨_, rfl, by simp only [over, overL, Nat.reduceAdd]; rfl, Below.refl _ _⟩
    · intro f w1 hb ⟨h69, _⟩ K hK
      replace h69 : f 69 = _ := h69
      have q3 := (KR2.out.later hb).c 3 rfl
      have q4 := (KR2.out.later hb).c 4 rfl
      have q5 := (KR2.out.later hb).c 5 rfl
      simp only [over, overL, Nat.reduceAdd, h69]
      go_simp
      exact hK _ _ ⟨_, rfl, by simp only [over, overL, Nat.reduceAdd, h69]; rfl, Below.refl _ _⟩
    · intro f w1 hb _ K hK
      simp only [over, overL, Nat.reduceAdd]
      go_simp
      exact hK _ _ ⟨_, rfl, by simp only [over, overL, Nat.reduceAdd]; rfl, Below.refl _ _⟩
    · intro f w1 hb ⟨h71, _⟩ K hK
      replace h71 : f 71 = _ := h71
      have q0 := (KR2.out.later hb).c 0 rfl
      have q1 := (KR2.out.later hb).c 1 rfl
      have q2 := (KR2.out.later hb).c 2 rfl
      simp only [over, overL, Nat.reduceAdd, h71]
      go_simp
      exact hK _ _ ⟨_, rfl, by simp only [over, overL, Nat.reduceAdd, h71]; rfl, Below.refl _ _⟩
    · intro f w1 hb ⟨h68, h70, h72, _⟩ K hK
      replace h68 : f 68 = _ := h68
      replace h70 : f 70 = _ := h70
      replace h72 : f 72 = _ := h72
      simp only [over, overL, Nat.reduceAdd, h68, h70, h72]
      go_simp
      refine (HU.out _).mono ?_
      rintro e w2 ⟨rfl, hb2⟩
      exact hK _ _ ⟨_, rfl, by simp only [over, overL, Nat.reduceAdd, h68, h70, h72]; rfl, hb2⟩
    · intro f w1 hb ⟨h67, h73, _⟩ K hK
      replace h67 : f 67 = _ := h67
      replace h73 : f 73 = _ := h73
      simp only [over, overL, Nat.reduceAdd, h67, h73]
      go_simp
      simp only [HTW.out]
      exact hK _ _ ⟨_, rfl, by simp only [over, overL, Nat.reduceAdd, h67, h73]; rfl, Below.refl _ _⟩
    · intro f w1 hb _ K hK
      simp only [over, overL, Nat.reduceAdd]
      go_simp
      exact hK _ _ ⟨_, rfl, by simp only [over, overL, Nat.reduceAdd]; rfl, Below.refl _ _⟩
  · intro fr w3 hb3 hv
    have hfa : fr 75 = .pointer (some ⟨F, 8, none⟩) := hv.2.2.2.2.2.2.2.2.2.1
    have had : fr 74 = .int .i64 x := hv.2.2.2.2.2.2.2.2.1
    have HB3 : Hid (Below w.heap.size w w3) := below_on HB2.out hb3
    have KF3 : Hid (Bk F (fc f) w3) := KF2.out.later hb3
    have KC3 : Hid (Bk C (cmc c) w3) := KC2.out.later hb3
    have KT3 : Hid (Bk T [.int .i64 c.x, .int .i64 c.y, .int .i64 c.z] w3) := KT2.out.later hb3
    have KO3 : Hid (Bk O zfc w3) := KO2.out.later hb3
    have KZ3 : Hid (Bk Z zfc w3) := KZ2.out.later hb3
    simp only [over_eq, overL, hfa, had, Nat.reduceAdd]
    clear hv hfa had hb3 KR2 KF2 KC2 KO2 KZ2 KT2 HB2
    obtain ⟨w4, hw4⟩ : ∃ y, y = w3.setCell ⟨F, 8, none⟩ (.int .i64 x) := ⟨_, rfl⟩
    have HB4 : Hid (Below w.heap.size w w4) := by show Below _ _ _; rw [hw4]; exact HB3.out.setCell HW.out.2.1 _
    have KF4 : Hid (Bk F (fc { f with tk := x }) w4) := by show Bk _ _ _; rw [hw4]; exact KF3.out.put 8 _
    have KO4 : Hid (Bk O zfc w4) := by show Bk _ _ _; rw [hw4]; exact KO3.out.other hOF _ _
    have KZ4 : Hid (Bk Z zfc w4) := by show Bk _ _ _; rw [hw4]; exact KZ3.out.other hZF _ _
    have KC4 : Hid (Bk C (cmc c) w4) := by show Bk _ _ _; rw [hw4]; exact KC3.out.other hCF _ _
    have KT4 : Hid (Bk T [.int .i64 c.x, .int .i64 c.y, .int .i64 c.z] w4) := by show Bk _ _ _; rw [hw4]; exact KT3.out.other hTF _ _
    have f8 := KF3.out.c 8 rfl
    have z8 := KF3.out.f 8 rfl
    go_wp2_with fail
    simp only [← hw4]
    clear hw4 f8 z8 KF3 KO3 KZ3 KC3 KT3 HB3
    refine HKK.out _ _ ?_
    clear HKK
    have hl := H_hl.out
    have f0 := KF4.out.c 0 rfl
    have g0 := KF4.out.f 0 rfl
    have f1 := KF4.out.c 1 rfl
    have g1 := KF4.out.f 1 rfl
    have f2 := KF4.out.c 2 rfl
    have g2 := KF4.out.f 2 rfl
    have f3 := KF4.out.c 3 rfl
    have g3 := KF4.out.f 3 rfl
    have f4 := KF4.out.c 4 rfl
    have g4 := KF4.out.f 4 rfl
    have f5 := KF4.out.c 5 rfl
    have g5 := KF4.out.f 5 rfl
    have f6 := KF4.out.c 6 rfl
    have g6 := KF4.out.f 6 rfl
    have f7 := KF4.out.c 7 rfl
    have g7 := KF4.out.f 7 rfl
    have f8 := KF4.out.c 8 rfl
    have g8 := KF4.out.f 8 rfl
    have c1 := KC4.out.c 1 rfl
    have c2 := KC4.out.c 2 rfl
    have c3 := KC4.out.c 3 rfl
    have c4 := KC4.out.c 4 rfl
    have t0 := KT4.out.c 0 rfl
    have t1 := KT4.out.c 1 rfl
    have t2 := KT4.out.c 2 rfl
    have z0 := KZ4.out.c 0 rfl
    have z1 := KZ4.out.c 1 rfl
    have z2 := KZ4.out.c 2 rfl
    have z3 := KZ4.out.c 3 rfl
    have z4 := KZ4.out.c 4 rfl
    have z5 := KZ4.out.c 5 rfl
    have z6 := KZ4.out.c 6 rfl
    have z7 := KZ4.out.c 7 rfl
    have z8 := KZ4.out.c 8 rfl
    have KO8 : Hid (Bk O zfc (((((w4.setCell ⟨F, 0, none⟩ (.bool true)).setCell ⟨F, 1, none⟩ (.int .i64 0)).setCell ⟨F, 2, none⟩ (.int .i64 0)).setCell ⟨F, 3, none⟩ (.int .i64 0)))) := ((((KO4.out).other hOF _ _).other hOF _ _).other hOF _ _).other hOF _ _
    have HB8 : Hid (Below w.heap.size w (((((w4.setCell ⟨F, 0, none⟩ (.bool true)).setCell ⟨F, 1, none⟩ (.int .i64 0)).setCell ⟨F, 2, none⟩ (.int .i64 0)).setCell ⟨F, 3, none⟩ (.int .i64 0)))) := ((((HB4.out).setCell HW.out.2.1 _).setCell HW.out.2.1 _).setCell HW.out.2.1 _).setCell HW.out.2.1 _
    obtain ⟨w9, hw9⟩ : ∃ y, y = (((((w4.setCell ⟨F, 0, none⟩ (.bool true)).setCell ⟨F, 1, none⟩ (.int .i64 0)).setCell ⟨F, 2, none⟩ (.int .i64 0)).setCell ⟨F, 3, none⟩ (.int .i64 0))).setCells O 0 zfc := ⟨_, rfl⟩
    have KO9 : Hid (Bk O zfc w9) := by show Bk _ _ _; rw [hw9]; exact KO8.out.setAll _ rfl
    have HB9 : Hid (Below w.heap.size w w9) := by show Below _ _ _; rw [hw9]; exact HB8.out.trans (low_setCells HW.out.2.2.1 _ _ _)
    have hw10 : w9 = (((((((((((((w4.setCell ⟨F, 0, none⟩ (.bool true)).setCell ⟨F, 1, none⟩ (.int .i64 0)).setCell ⟨F, 2, none⟩ (.int .i64 0)).setCell ⟨F, 3, none⟩ (.int .i64 0)).setCell ⟨O, 0, none⟩ (.bool false)).setCell ⟨O, 1, none⟩ (.int .i64 0)).setCell ⟨O, 2, none⟩ (.int .i64 0)).setCell ⟨O, 3, none⟩ (.int .i64 0)).setCell ⟨O, 4, none⟩ (.int .i64 0)).setCell ⟨O, 5, none⟩ (.bool false)).setCell ⟨O, 6, none⟩ (.int .i64 0)).setCell ⟨O, 7, none⟩ (.int .i64 0)).setCell ⟨O, 8, none⟩ (.int .i64 0)) := hw9
    have o0 := KO4.out.c 0 rfl
    have p0 := KO4.out.f 0 rfl
    have o1 := KO4.out.c 1 rfl
    have p1 := KO4.out.f 1 rfl
    have o2 := KO4.out.c 2 rfl
    have p2 := KO4.out.f 2 rfl
    have o3 := KO4.out.c 3 rfl
    have p3 := KO4.out.f 3 rfl
    have o4 := KO4.out.c 4 rfl
    have p4 := KO4.out.f 4 rfl
    have o5 := KO4.out.c 5 rfl
    have p5 := KO4.out.f 5 rfl
    have o6 := KO4.out.c 6 rfl
    have p6 := KO4.out.f 6 rfl
    have o7 := KO4.out.c 7 rfl
    have p7 := KO4.out.f 7 rfl
    have o8 := KO4.out.c 8 rfl
    have p8 := KO4.out.f 8 rfl
    clear hw9 KO8 HB8 KO4 KF4 KC4 KT4 KZ4 HB4
    go_wp2_with fail
    simp only [← hw10]
    clear hw10
    exact bodyPost_ret (v := .tuple #[zfv, .int .i64 8]) (results_ct Tryd.results14 _ _ _ rfl rfl (run_loadVar_mid (P := Tryd.prog) _ O 0 29 zfc _ KO9.out.range Tryd.underlying29 rfl info29)) rfl ⟨rfl, HB9.out⟩
set_option maxHeartbeats 6400000 in
set_option maxRecDepth 100000 in
theorem firmDo_home (r : Rg) (f : Fm) (c : Cm) (w : World) (h : chkM c = 0) (m s t x : Int) (hk : c.k = 1) (hm : f.hm = false) (htw : IntKind.i64.wrap (f.tk + t) = x) (hu : ∀ W, Calls Tryd.prog 13 #[rgv r, v3 r.hi, v3 r.lo] W fun e w' => e = .returned (.int .i64 t) ∧ Below W.heap.size W w') (hl : ¬ 1000000000000000 < x) : Calls Tryd.prog 14 #[rgv r, fv f, cmv c] w fun e w' => e = .returned (.tuple #[fv ⟨true, ⟨0, 0, 0⟩, f.pl, f.tp, f.ht, f.tu, x⟩, .int .i64 0]) ∧ Below w.heap.size w w' := by
  have HM : Hid (∀ W, Calls Tryd.prog 32 #[cmv c] W fun e w' => e = .returned (.int .i64 0) ∧ Below W.heap.size W w') := fun W => by have := commandMay_any c W; rwa [h] at this
  have H_hk := (show Hid _ from hk)
  have H_hm := (show Hid _ from hm)
  have HTW := (show Hid _ from htw)
  have HU := (show Hid _ from hu)
  have H_hl := (show Hid _ from hl)
  clear hk hm htw hu hl
  obtain ⟨w0, hw0⟩ : ∃ x, x = ((((w.alloc (rgo r)).alloc (fo f)).alloc (cmo c)).alloc zfo).alloc zfo := ⟨_, rfl⟩
  have HB0 : Hid (Below w.heap.size w w0) := by show Below _ _ _; rw [hw0]; exact below_on (below_on (three_new _ _ _ _) (one_new _ _)) (one_new _ _)
  have KZ0 : Hid (Bk (w.heap.size + 1 + 1 + 1 + 1) zfc w0) := by show Bk _ _ _; rw [hw0]; exact Bk.new ((((w.alloc (rgo r)).alloc (fo f)).alloc (cmo c)).alloc zfo) zfc 29 (w.heap.size + 1 + 1 + 1 + 1) (by simp)
  have KO0 : Hid (Bk (w.heap.size + 1 + 1 + 1) zfc w0) := by show Bk _ _ _; rw [hw0]; exact (Bk.new (((w.alloc (rgo r)).alloc (fo f)).alloc (cmo c)) zfc 29 (w.heap.size + 1 + 1 + 1) (by simp)).later (one_new _ _)
  have KC0 : Hid (Bk (w.heap.size + 1 + 1) (cmc c) w0) := by show Bk _ _ _; rw [hw0]; exact ((Bk.new ((w.alloc (rgo r)).alloc (fo f)) (cmc c) 31 (w.heap.size + 1 + 1) (by simp)).later (one_new _ _)).later (one_new _ _)
  have KF0 : Hid (Bk (w.heap.size + 1) (fc f) w0) := by show Bk _ _ _; rw [hw0]; exact (((Bk.new (w.alloc (rgo r)) (fc f) 29 (w.heap.size + 1) (by simp)).later (one_new _ _)).later (one_new _ _)).later (one_new _ _)
  have KR0 : Hid (Bk w.heap.size (rgc r) w0) := by show Bk _ _ _; rw [hw0]; exact ((((Bk.new w (rgc r) 27 w.heap.size rfl).later (one_new _ _)).later (one_new _ _)).later (one_new _ _)).later (one_new _ _)
  obtain ⟨Z, hZ⟩ : ∃ b, b = w.heap.size + 1 + 1 + 1 + 1 := ⟨_, rfl⟩
  obtain ⟨O, hO⟩ : ∃ b, b = w.heap.size + 1 + 1 + 1 := ⟨_, rfl⟩
  obtain ⟨C, hC⟩ : ∃ b, b = w.heap.size + 1 + 1 := ⟨_, rfl⟩
  obtain ⟨F, hF⟩ : ∃ b, b = w.heap.size + 1 := ⟨_, rfl⟩
  obtain ⟨R, hR⟩ : ∃ b, b = w.heap.size := ⟨_, rfl⟩
  rw [← hZ] at KZ0
  rw [← hO] at KO0
  rw [← hC] at KC0
  rw [← hF] at KF0
  rw [← hR] at KR0
  have HW : Hid (w.heap.size ≤ R ∧ w.heap.size ≤ F ∧ w.heap.size ≤ O ∧ R ≠ F ∧ R ≠ O ∧ F ≠ O ∧ Z ≠ F ∧ Z ≠ O ∧ C ≠ F) := by show _ ∧ _; omega
  have hOF : O ≠ F := by omega
  have hZF : Z ≠ F := by omega
  have hCF : C ≠ F := by omega
  have hRF : R ≠ F := by omega
  clear h
  go_enter Tryd.func14, Tryd.ntmps14
  go_wp2_with fail
  simp only [show ((((w.alloc (rgo r)).alloc (fo f)).alloc (.cells #[.int .i64 c.k, .int .i64 c.x, .int .i64 c.y, .int .i64 c.z, .int .i64 c.v] 31)).alloc zfo).alloc zfo = w0 from hw0.symm, ← hZ]
  simp only [← hO]
  simp only [← hC]
  simp only [← hF]
  simp only [← hR]
  clear hw0 hZ hO hC hF hR
  refine (HM.out _).mono ?_
  rintro e w1 ⟨rfl, hb1⟩
  have HB1 : Hid (Below w.heap.size w w1) := below_on HB0.out hb1
  have KR1 : Hid (Bk R (rgc r) w1) := KR0.out.later hb1
  have KF1 : Hid (Bk F (fc f) w1) := KF0.out.later hb1
  have KC1 : Hid (Bk C (cmc c) w1) := KC0.out.later hb1
  have KO1 : Hid (Bk O zfc w1) := KO0.out.later hb1
  have KZ1 : Hid (Bk Z zfc w1) := KZ0.out.later hb1
  clear hb1 HB0 KR0 KF0 KC0 KO0 KZ0
  have c0 := KC1.out.c 0 rfl
  have c1 := KC1.out.c 1 rfl
  have c2 := KC1.out.c 2 rfl
  have c3 := KC1.out.c 3 rfl
  have c4 := KC1.out.c 4 rfl
  have f0 := KF1.out.c 0 rfl
  have f5 := KF1.out.c 5 rfl
  have r11 := KR1.out.c 11 rfl
  have hRl : R < w1.heap.size := KR1.out.1
  have hFl : F < w1.heap.size := KF1.out.1
  have hCl : C < w1.heap.size := KC1.out.1
  have hOl : O < w1.heap.size := KO1.out.1
  have hZl : Z < w1.heap.size := KZ1.out.1
  have hk := H_hk.out
  rw [hk] at c0
  have hm := H_hm.out
  rw [hm] at f0
  clear hm
  obtain ⟨w2, hw2⟩ : ∃ y, y = w1.alloc (.cells #[.int .i64 c.x, .int .i64 c.y, .int .i64 c.z] 23) := ⟨_, rfl⟩
  have HB2 : Hid (Below w.heap.size w w2) := by show Below _ _ _; rw [hw2]; exact below_on HB1.out (one_new _ _)
  have KR2 : Hid (Bk R (rgc r) w2) := by show Bk _ _ _; rw [hw2]; exact KR1.out.later (one_new _ _)
  have KF2 : Hid (Bk F (fc f) w2) := by show Bk _ _ _; rw [hw2]; exact KF1.out.later (one_new _ _)
  have KC2 : Hid (Bk C (cmc c) w2) := by show Bk _ _ _; rw [hw2]; exact KC1.out.later (one_new _ _)
  have KO2 : Hid (Bk O zfc w2) := by show Bk _ _ _; rw [hw2]; exact KO1.out.later (one_new _ _)
  have KZ2 : Hid (Bk Z zfc w2) := by show Bk _ _ _; rw [hw2]; exact KZ1.out.later (one_new _ _)
  have KT2 : Hid (Bk w1.heap.size [.int .i64 c.x, .int .i64 c.y, .int .i64 c.z] w2) := by show Bk _ _ _; rw [hw2]; exact Bk.new w1 [.int .i64 c.x, .int .i64 c.y, .int .i64 c.z] 23 w1.heap.size rfl
  obtain ⟨T, hT⟩ : ∃ b, b = w1.heap.size := ⟨_, rfl⟩
  rw [← hT] at KT2
  have hTF : T ≠ F := by omega
  go_wp2_with fail
  simp only [← hw2, ← hT]
  clear hw2 hT c0 c1 c2 c3 c4 f0 f5 r11 hRl hFl hCl hOl hZl KR1 KF1 KC1 KO1 KZ1 HB1
  rename_i KK hkk
  have HKK := (show Hid _ from hkk)
  clear hkk
  refine region_seq 10 [false, false, false, false, false, false, false, false, false, false, false, false, false, false, false, false, false, false, false, false, false, false, false, false, false, false, false, false, false, false, false, false, false, false, false, false, false, false, false, false, false, false, false, false, false, false, false, false, false, false, false, false, false, false, false, false, false, false, false, false, false, false, false, false, false, false, true, true, true, true, true, true, true, true, true, true, false, false, false, false, false, false, false, false, false, false, false, false, false, false, false, false, false, false, false, false, false, false, false, false, false, false, false, false, false, false, false, false, false, false, false, false, false, false, false, false, false, false, false, false, false, false, false, false, false, false, false, false, false, false, false, false, false, false, false, false, false, false, false, false, false, false, false, false, false, false, false, false, false, false, false, false, false, false, false, false, false, false, false, false, false, false, false, false, false, false]
    [(66, [], none), (67, [66], none), (68, [], none), (69, [], none), (70, [69], none), (71, [], none), (72, [71], none), (73, [68, 70, 72], none), (74, [67, 73], none), (75, [], none)]
    (dhomeV R F C T r f c m s t x) (by kernel_rfl) (by kernel_rfl) (by kernel_rfl) (by kernel_rfl) (by kernel_rfl) (by decide) (dhomeV_mono R F C T r f c m s t x) ?_ ?_
  · refine ⟨?_, ?_, ?_, ?_, ?_, ?_, ?_, ?_, ?_, ?_, trivial⟩
    · intro f w1 hb _ K hK
      simp only [over, overL, Nat.reduceAdd]
      go_simp
      exact hK _ _ ⟨_, rfl, by simp only [over, overL, Nat.reduceAdd]; rfl, Below.refl _ _⟩
    · intro f w1 hb ⟨h66, _⟩ K hK
      replace h66 : f 66 = _ := h66
      have q8 := (KF2.out.later hb).c 8 rfl
      simp only [over, overL, Nat.reduceAdd, h66]
      go_simp
      exact hK _ _ ⟨_, rfl, by simp only [over, overL, Nat.reduceAdd, h66]; rfl, Below.refl _ _⟩
    · intro f w1 hb _ K hK
      have q0 := (KR2.out.later hb).c 0 rfl
      have q1 := (KR2.out.later hb).c 1 rfl
      have q2 := (KR2.out.later hb).c 2 rfl
      have q3 := (KR2.out.later hb).c 3 rfl
      have q4 := (KR2.out.later hb).c 4 rfl
      have q5 := (KR2.out.later hb).c 5 rfl
      have q6 := (KR2.out.later hb).c 6 rfl
      have q7 := (KR2.out.later hb).c 7 rfl
      have q8 := (KR2.out.later hb).c 8 rfl
      have q9 := (KR2.out.later hb).c 9 rfl
      have q10 := (KR2.out.later hb).c 10 rfl
      have q11 := (KR2.out.later hb).c 11 rfl
      simp only [over, overL, Nat.reduceAdd]
      go_simp
      exact hK _ _ ⟨_, rfl, by simp only [over, overL, Nat.reduceAdd]; rfl, Below.refl _ _⟩
    · intro f w1 hb _ K hK
      simp only [over, overL, Nat.reduceAdd]
      go_simp
      exact hK _ _ ⟨_, rfl, by simp only [over, overL, Nat.reduceAdd]; rfl, Below.refl _ _⟩
    · intro f w1 hb ⟨h69, _⟩ K hK
      replace h69 : f 69 = _ := h69
      have q3 := (KR2.out.later hb).c 3 rfl
      have q4 := (KR2.out.later hb).c 4 rfl
      have q5 := (KR2.out.later hb).c 5 rfl
      simp only [over, overL, Nat.reduceAdd, h69]
      go_simp
      exact hK _ _ ⟨_, rfl, by simp only [over, overL, Nat.reduceAdd, h69]; rfl, Below.refl _ _⟩
    · intro f w1 hb _ K hK
      simp only [over, overL, Nat.reduceAdd]
      go_simp
      exact hK _ _ ⟨_, rfl, by simp only [over, overL, Nat.reduceAdd]; rfl, Below.refl _ _⟩
    · intro f w1 hb ⟨h71, _⟩ K hK
      replace h71 : f 71 = _ := h71
      have q0 := (KR2.out.later hb).c 0 rfl
      have q1 := (KR2.out.later hb).c 1 rfl
      have q2 := (KR2.out.later hb).c 2 rfl
      simp only [over, overL, Nat.reduceAdd, h71]
      go_simp
      exact hK _ _ ⟨_, rfl, by simp only [over, overL, Nat.reduceAdd, h71]; rfl, Below.refl _ _⟩
    · intro f w1 hb ⟨h68, h70, h72, _⟩ K hK
      replace h68 : f 68 = _ := h68
      replace h70 : f 70 = _ := h70
      replace h72 : f 72 = _ := h72
      simp only [over, overL, Nat.reduceAdd, h68, h70, h72]
      go_simp
      refine (HU.out _).mono ?_
      rintro e w2 ⟨rfl, hb2⟩
      exact hK _ _ ⟨_, rfl, by simp only [over, overL, Nat.reduceAdd, h68, h70, h72]; rfl, hb2⟩
    · intro f w1 hb ⟨h67, h73, _⟩ K hK
      replace h67 : f 67 = _ := h67
      replace h73 : f 73 = _ := h73
      simp only [over, overL, Nat.reduceAdd, h67, h73]
      go_simp
      simp only [HTW.out]
      exact hK _ _ ⟨_, rfl, by simp only [over, overL, Nat.reduceAdd, h67, h73]; rfl, Below.refl _ _⟩
    · intro f w1 hb _ K hK
      simp only [over, overL, Nat.reduceAdd]
      go_simp
      exact hK _ _ ⟨_, rfl, by simp only [over, overL, Nat.reduceAdd]; rfl, Below.refl _ _⟩
  · intro fr w3 hb3 hv
    have hfa : fr 75 = .pointer (some ⟨F, 8, none⟩) := hv.2.2.2.2.2.2.2.2.2.1
    have had : fr 74 = .int .i64 x := hv.2.2.2.2.2.2.2.2.1
    have HB3 : Hid (Below w.heap.size w w3) := below_on HB2.out hb3
    have KF3 : Hid (Bk F (fc f) w3) := KF2.out.later hb3
    have KC3 : Hid (Bk C (cmc c) w3) := KC2.out.later hb3
    have KT3 : Hid (Bk T [.int .i64 c.x, .int .i64 c.y, .int .i64 c.z] w3) := KT2.out.later hb3
    have KO3 : Hid (Bk O zfc w3) := KO2.out.later hb3
    have KZ3 : Hid (Bk Z zfc w3) := KZ2.out.later hb3
    simp only [over_eq, overL, hfa, had, Nat.reduceAdd]
    clear hv hfa had hb3 KR2 KF2 KC2 KO2 KZ2 KT2 HB2
    obtain ⟨w4, hw4⟩ : ∃ y, y = w3.setCell ⟨F, 8, none⟩ (.int .i64 x) := ⟨_, rfl⟩
    have HB4 : Hid (Below w.heap.size w w4) := by show Below _ _ _; rw [hw4]; exact HB3.out.setCell HW.out.2.1 _
    have KF4 : Hid (Bk F (fc { f with tk := x }) w4) := by show Bk _ _ _; rw [hw4]; exact KF3.out.put 8 _
    have KO4 : Hid (Bk O zfc w4) := by show Bk _ _ _; rw [hw4]; exact KO3.out.other hOF _ _
    have KZ4 : Hid (Bk Z zfc w4) := by show Bk _ _ _; rw [hw4]; exact KZ3.out.other hZF _ _
    have KC4 : Hid (Bk C (cmc c) w4) := by show Bk _ _ _; rw [hw4]; exact KC3.out.other hCF _ _
    have KT4 : Hid (Bk T [.int .i64 c.x, .int .i64 c.y, .int .i64 c.z] w4) := by show Bk _ _ _; rw [hw4]; exact KT3.out.other hTF _ _
    have f8 := KF3.out.c 8 rfl
    have z8 := KF3.out.f 8 rfl
    go_wp2_with fail
    simp only [← hw4]
    clear hw4 f8 z8 KF3 KO3 KZ3 KC3 KT3 HB3
    refine HKK.out _ _ ?_
    clear HKK
    have hl := H_hl.out
    have f0 := KF4.out.c 0 rfl
    have g0 := KF4.out.f 0 rfl
    have f1 := KF4.out.c 1 rfl
    have g1 := KF4.out.f 1 rfl
    have f2 := KF4.out.c 2 rfl
    have g2 := KF4.out.f 2 rfl
    have f3 := KF4.out.c 3 rfl
    have g3 := KF4.out.f 3 rfl
    have f4 := KF4.out.c 4 rfl
    have g4 := KF4.out.f 4 rfl
    have f5 := KF4.out.c 5 rfl
    have g5 := KF4.out.f 5 rfl
    have f6 := KF4.out.c 6 rfl
    have g6 := KF4.out.f 6 rfl
    have f7 := KF4.out.c 7 rfl
    have g7 := KF4.out.f 7 rfl
    have f8 := KF4.out.c 8 rfl
    have g8 := KF4.out.f 8 rfl
    have c1 := KC4.out.c 1 rfl
    have c2 := KC4.out.c 2 rfl
    have c3 := KC4.out.c 3 rfl
    have c4 := KC4.out.c 4 rfl
    have t0 := KT4.out.c 0 rfl
    have t1 := KT4.out.c 1 rfl
    have t2 := KT4.out.c 2 rfl
    have KO8 : Hid (Bk O zfc (((((w4.setCell ⟨F, 0, none⟩ (.bool true)).setCell ⟨F, 1, none⟩ (.int .i64 0)).setCell ⟨F, 2, none⟩ (.int .i64 0)).setCell ⟨F, 3, none⟩ (.int .i64 0)))) := ((((KO4.out).other hOF _ _).other hOF _ _).other hOF _ _).other hOF _ _
    have HB8 : Hid (Below w.heap.size w (((((w4.setCell ⟨F, 0, none⟩ (.bool true)).setCell ⟨F, 1, none⟩ (.int .i64 0)).setCell ⟨F, 2, none⟩ (.int .i64 0)).setCell ⟨F, 3, none⟩ (.int .i64 0)))) := ((((HB4.out).setCell HW.out.2.1 _).setCell HW.out.2.1 _).setCell HW.out.2.1 _).setCell HW.out.2.1 _
    obtain ⟨w9, hw9⟩ : ∃ y, y = (((((w4.setCell ⟨F, 0, none⟩ (.bool true)).setCell ⟨F, 1, none⟩ (.int .i64 0)).setCell ⟨F, 2, none⟩ (.int .i64 0)).setCell ⟨F, 3, none⟩ (.int .i64 0))).setCells O 0 (fc ⟨true, ⟨0, 0, 0⟩, f.pl, f.tp, f.ht, f.tu, x⟩) := ⟨_, rfl⟩
    have KO9 : Hid (Bk O (fc ⟨true, ⟨0, 0, 0⟩, f.pl, f.tp, f.ht, f.tu, x⟩) w9) := by show Bk _ _ _; rw [hw9]; exact KO8.out.setAll _ rfl
    have HB9 : Hid (Below w.heap.size w w9) := by show Below _ _ _; rw [hw9]; exact HB8.out.trans (low_setCells HW.out.2.2.1 _ _ _)
    have hw10 : w9 = (((((((((((((w4.setCell ⟨F, 0, none⟩ (.bool true)).setCell ⟨F, 1, none⟩ (.int .i64 0)).setCell ⟨F, 2, none⟩ (.int .i64 0)).setCell ⟨F, 3, none⟩ (.int .i64 0)).setCell ⟨O, 0, none⟩ (.bool true)).setCell ⟨O, 1, none⟩ (.int .i64 0)).setCell ⟨O, 2, none⟩ (.int .i64 0)).setCell ⟨O, 3, none⟩ (.int .i64 0)).setCell ⟨O, 4, none⟩ (.int .i64 f.pl)).setCell ⟨O, 5, none⟩ (.bool f.tp)).setCell ⟨O, 6, none⟩ (.int .i64 f.ht)).setCell ⟨O, 7, none⟩ (.int .i64 f.tu)).setCell ⟨O, 8, none⟩ (.int .i64 x)) := hw9
    have o0 := KO4.out.c 0 rfl
    have p0 := KO4.out.f 0 rfl
    have o1 := KO4.out.c 1 rfl
    have p1 := KO4.out.f 1 rfl
    have o2 := KO4.out.c 2 rfl
    have p2 := KO4.out.f 2 rfl
    have o3 := KO4.out.c 3 rfl
    have p3 := KO4.out.f 3 rfl
    have o4 := KO4.out.c 4 rfl
    have p4 := KO4.out.f 4 rfl
    have o5 := KO4.out.c 5 rfl
    have p5 := KO4.out.f 5 rfl
    have o6 := KO4.out.c 6 rfl
    have p6 := KO4.out.f 6 rfl
    have o7 := KO4.out.c 7 rfl
    have p7 := KO4.out.f 7 rfl
    have o8 := KO4.out.c 8 rfl
    have p8 := KO4.out.f 8 rfl
    clear hw9 KO8 HB8 KO4 KF4 KC4 KT4 KZ4 HB4
    go_wp2_with fail
    simp only [← hw10]
    clear hw10
    exact bodyPost_ret (v := .tuple #[fv ⟨true, ⟨0, 0, 0⟩, f.pl, f.tp, f.ht, f.tu, x⟩, .int .i64 0]) (results_ct Tryd.results14 _ _ _ rfl rfl (load29 KO9.out)) rfl ⟨rfl, HB9.out⟩
end Go.Proofs.YtgahlhfgpkklaaaDoor
