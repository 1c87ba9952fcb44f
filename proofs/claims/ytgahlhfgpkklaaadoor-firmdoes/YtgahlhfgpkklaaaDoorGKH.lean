/- FirmDo of the document walked: Plug. -/
import Derived.Test.YtgahlhfgpkklaaaDoorGCH
import Derived.Test.YtgahlhfgpkklaaaDoorGDH
import Derived.Test.YtgahlhfgpkklaaaDoorGEH
namespace Go.Proofs.YtgahlhfgpkklaaaDoor
open Go.RowKit Go.Maps

set_option linter.unusedVariables false in
def dplugV (R F C T : Nat) (r : Rg) (f : Fm) (c : Cm) (m s t x : Int) (d : Nat) (v : Value) (_ : World) : Prop :=
  match d with
  | 109 => v = .pointer (some ⟨F, 8, none⟩)
  | 110 => v = .int .i64 f.tk
  | 111 => v = .pointer (some ⟨C, 4, none⟩)
  | 112 => v = .int .i64 c.v
  | 113 => v = .pointer (some ⟨F, 4, none⟩)
  | 114 => v = .int .i64 f.pl
  | 115 => v = .int .i64 m
  | 116 => v = .int .i64 s
  | 117 => v = .int .i64 t
  | 118 => v = .int .i64 x
  | 119 => v = .pointer (some ⟨F, 8, none⟩)
  | _ => True
set_option linter.unusedVariables false in
theorem dplugV_mono (R F C T : Nat) (r : Rg) (f : Fm) (c : Cm) (m s t x : Int) (d : Nat) (v : Value) (w w' : World) (h : dplugV R F C T r f c m s t x d v w) (_ : Below w.heap.size w w') : dplugV R F C T r f c m s t x d v w' := h
set_option maxHeartbeats 6400000 in
set_option maxRecDepth 100000 in
theorem firmDo_plug_late (r : Rg) (f : Fm) (c : Cm) (w : World) (h : chkM c = 0) (m s t x : Int) (hk : c.k = 3) (hm : f.hm = true) (ht : f.tp = true) (hv : ¬ r.mo < c.v) (hdm : IntKind.i64.wrap (c.v - f.pl) = m) (hs : ∀ W, Calls Tryd.prog 29 #[.int .i64 m] W fun e w' => e = .returned (.int .i64 s) ∧ w' = W) (htw : IntKind.i64.wrap (f.tk + t) = x) (hu : ∀ W, Calls Tryd.prog 30 #[.int .i64 s, .int .i64 1000] W fun e w' => e = .returned (.int .i64 t) ∧ w' = W) (hl : 1000000000000000 < x) : Calls Tryd.prog 14 #[rgv r, fv f, cmv c] w fun e w' => e = .returned (.tuple #[zfv, .int .i64 8]) ∧ Below w.heap.size w w' := by
  have HM : Hid (∀ W, Calls Tryd.prog 32 #[cmv c] W fun e w' => e = .returned (.int .i64 0) ∧ Below W.heap.size W w') := fun W => by have := commandMay_any c W; rwa [h] at this
  have H_hk := (show Hid _ from hk)
  have H_hm := (show Hid _ from hm)
  have H_ht := (show Hid _ from ht)
  have H_hv := (show Hid _ from hv)
  have HDM := (show Hid _ from hdm)
  have HS := (show Hid _ from hs)
  have HTW := (show Hid _ from htw)
  have HU := (show Hid _ from hu)
  have H_hl := (show Hid _ from hl)
  clear hk hm ht hv hdm hs htw hu hl
  obtain ⟨w0, hw0⟩ : ∃ x, x = ((((w.alloc (rgo r)).alloc (fo f)).alloc (cmo c)).alloc zfo).alloc zfo := ⟨_, rfl⟩
  have HB0 : Hid (Below w.heap.size w w0) := by show Below _ _ _; rw [hw0]; exact below_on (below_on (three_new _ _ _ _) (one_new _ _)) (one_new _ _)
  have KZ0 : Hid (Bk (w.heap.size + 1 + 1 + 1 + 1) zfc w0) := by show Bk _ _ _; rw [hw0]; exact Bk.new ((((w.alloc (rgo r)).alloc (fo f)).alloc (cmo c)).alloc zfo) zfc 29 (w.heap.size + 1 + 1 + 1 + 1) (by simp)
  have KO0 : Hid (Bk (w.heap.size + 1 + 1 + 1) zfc w0) := by show Bk _ _ _; rw [hw0]; exact (Bk.new (((w.alloc (rgo r)).alloc (fo f)).alloc (cmo c)) zfc 29 (w.heap.size + 1 + 1 + 1) (by simp)).later (one_new _ _)
  have KC0 : Hid (Bk (w.heap.size + 1 + 1) (cmc c) w0) := by show Bk _ _ _; rw [hw0]; exact ((Bk.new ((w.alloc (rgo r)).alloc (fo f)) (cmc c) 31 (w.heap.size + 1 + 1) (by simp)).later (one_new _ _)).later (one_new _ _)
  have KF0 : Hid (Bk (w.heap.size + 1) (fc f) w0) := by show Bk _ _ _; rw [hw0]; exact (((Bk.new (w.alloc (rgo r)) (fc f) 29 (w.heap.size + 1) (by simp)).later (one_new _ _)).later (one_new _ _)).later (one_new _ _)
  have KR0 : Hid (Bk w.heap.size (rgc r) w0) := by show Bk _ _ _; rw [hw0]; exact ((((Bk.new w (rgc r) 27 w.heap.size rfl).later (one_new _ _)).later (one_new _ _)).later (one_new _ _)).later (one_new _ _)
  obtain ⟨Z, hZ⟩ : ∃ b, b = w.heap.size + 1 + 1 + 1 + 1 := ⟨_, rfl⟩
  obtain ⟨O, hO⟩ : ∃ b, b = w.heap.size + 1 + 1 + 1 := ⟨_, rfl⟩
  obtain ⟨C, hC⟩ : ∃ b, b = w.heap.size + 1 + 1 := ⟨_, rfl⟩
  obtain ⟨F, hF⟩ : ∃ b, b = w.heap.size + 1 := ⟨_, rfl⟩
  obtain ⟨R, hR⟩ : ∃ b, b = w.heap.size := ⟨_, rfl⟩
  rw [← hZ] at KZ0
  rw [← hO] at KO0
  rw [← hC] at KC0
  rw [← hF] at KF0
  rw [← hR] at KR0
  have HW : Hid (w.heap.size ≤ R ∧ w.heap.size ≤ F ∧ w.heap.size ≤ O ∧ R ≠ F ∧ R ≠ O ∧ F ≠ O ∧ Z ≠ F ∧ Z ≠ O ∧ C ≠ F) := by show _ ∧ _; omega
  have hOF : O ≠ F := by omega
  have hZF : Z ≠ F := by omega
  have hCF : C ≠ F := by omega
  have hRF : R ≠ F := by omega
  clear h
  go_enter Tryd.func14, Tryd.ntmps14
  go_wp2_with fail
  simp only [show ((((w.alloc (rgo r)).alloc (fo f)).alloc (.cells #[.int .i64 c.k, .int .i64 c.x, .int .i64 c.y, .int .i64 c.z, .int .i64 c.v] 31)).alloc zfo).alloc zfo = w0 from hw0.symm, ← hZ]
  simp only [← hO]
  simp only [← hC]
  simp only [← hF]
  simp only [← hR]
  clear hw0 hZ hO hC hF hR
  refine (HM.out _).mono ?_
  rintro e w1 ⟨rfl, hb1⟩
  have HB1 : Hid (Below w.heap.size w w1) := below_on HB0.out hb1
  have KR1 : Hid (Bk R (rgc r) w1) := KR0.out.later hb1
  have KF1 : Hid (Bk F (fc f) w1) := KF0.out.later hb1
  have KC1 : Hid (Bk C (cmc c) w1) := KC0.out.later hb1
  have KO1 : Hid (Bk O zfc w1) := KO0.out.later hb1
  have KZ1 : Hid (Bk Z zfc w1) := KZ0.out.later hb1
  clear hb1 HB0 KR0 KF0 KC0 KO0 KZ0
  have c0 := KC1.out.c 0 rfl
  have c1 := KC1.out.c 1 rfl
  have c2 := KC1.out.c 2 rfl
  have c3 := KC1.out.c 3 rfl
  have c4 := KC1.out.c 4 rfl
  have f0 := KF1.out.c 0 rfl
  have f5 := KF1.out.c 5 rfl
  have r11 := KR1.out.c 11 rfl
  have hRl : R < w1.heap.size := KR1.out.1
  have hFl : F < w1.heap.size := KF1.out.1
  have hCl : C < w1.heap.size := KC1.out.1
  have hOl : O < w1.heap.size := KO1.out.1
  have hZl : Z < w1.heap.size := KZ1.out.1
  have hk := H_hk.out
  rw [hk] at c0
  have hm := H_hm.out
  have ht := H_ht.out
  have hv := H_hv.out
  rw [hm] at f0
  rw [ht] at f5
  clear hm ht
  obtain ⟨w2, hw2⟩ : ∃ y, y = w1.alloc (.cells #[.int .i64 c.x, .int .i64 c.y, .int .i64 c.z] 23) := ⟨_, rfl⟩
  have HB2 : Hid (Below w.heap.size w w2) := by show Below _ _ _; rw [hw2]; exact below_on HB1.out (one_new _ _)
  have KR2 : Hid (Bk R (rgc r) w2) := by show Bk _ _ _; rw [hw2]; exact KR1.out.later (one_new _ _)
  have KF2 : Hid (Bk F (fc f) w2) := by show Bk _ _ _; rw [hw2]; exact KF1.out.later (one_new _ _)
  have KC2 : Hid (Bk C (cmc c) w2) := by show Bk _ _ _; rw [hw2]; exact KC1.out.later (one_new _ _)
  have KO2 : Hid (Bk O zfc w2) := by show Bk _ _ _; rw [hw2]; exact KO1.out.later (one_new _ _)
  have KZ2 : Hid (Bk Z zfc w2) := by show Bk _ _ _; rw [hw2]; exact KZ1.out.later (one_new _ _)
  have KT2 : Hid (Bk w1.heap.size [.int .i64 c.x, .int .i64 c.y, .int .i64 c.z] w2) := by show Bk _ _ _; rw [hw2]; exact Bk.new w1 [.int .i64 c.x, .int .i64 c.y, .int .i64 c.z] 23 w1.heap.size rfl
  obtain ⟨T, hT⟩ : ∃ b, b = w1.heap.size := ⟨_, rfl⟩
  rw [← hT] at KT2
  have hTF : T ≠ F := by omega
  go_wp2_with fail
  simp only [← hw2, ← hT]
  clear hw2 hT c0 c1 c2 c3 c4 f0 f5 r11 hRl hFl hCl hOl hZl KR1 KF1 KC1 KO1 KZ1 HB1
  rename_i KK hkk
  have HKK := (show Hid _ from hkk)
  clear hkk
  refine region_seq 11 [false, false, false, false, false, false, false, false, false, false, false, false, false, false, false, false, false, false, false, false, false, false, false, false, false, false, false, false, false, false, false, false, false, false, false, false, false, false, false, false, false, false, false, false, false, false, false, false, false, false, false, false, false, false, false, false, false, false, false, false, false, false, false, false, false, false, false, false, false, false, false, false, false, false, false, false, false, false, false, false, false, false, false, false, false, false, false, false, false, false, false, false, false, false, false, false, false, false, false, false, false, false, false, false, false, false, false, false, false, true, true, true, true, true, true, true, true, true, true, true, false, false, false, false, false, false, false, false, false, false, false, false, false, false, false, false, false, false, false, false, false, false, false, false, false, false, false, false, false, false, false, false, false, false, false, false, false, false, false, false, false, false, false, false, false, false]
    [(109, [], none), (110, [109], none), (111, [], none), (112, [111], none), (113, [], none), (114, [113], none), (115, [112, 114], none), (116, [115], none), (117, [116], none), (118, [110, 117], none), (119, [], none)]
    (dplugV R F C T r f c m s t x) (by kernel_rfl) (by kernel_rfl) (by kernel_rfl) (by kernel_rfl) (by kernel_rfl) (by decide) (dplugV_mono R F C T r f c m s t x) ?_ ?_
  · refine ⟨?_, ?_, ?_, ?_, ?_, ?_, ?_, ?_, ?_, ?_, ?_, trivial⟩
    · intro f w1 hb _ K hK
      simp only [over, overL, Nat.reduceAdd]
      go_simp
      exact hK _ _ ⟨_, rfl, by simp only [over, overL, Nat.reduceAdd]; rfl, Below.refl _ _⟩
    · intro f w1 hb ⟨h109, _⟩ K hK
      replace h109 : f 109 = _ := h109
      have q8 := (KF2.out.later hb).c 8 rfl
      simp only [over, overL, Nat.reduceAdd, h109]
      go_simp
      exact hK _ _ ⟨_, rfl, by simp only [over, overL, Nat.reduceAdd, h109]; rfl, Below.refl _ _⟩
    · intro f w1 hb _ K hK
      simp only [over, overL, Nat.reduceAdd]
      go_simp
      exact hK _ _ ⟨_, rfl, by simp only [over, overL, Nat.reduceAdd]; rfl, Below.refl _ _⟩
    · intro f w1 hb ⟨h111, _⟩ K hK
      replace h111 : f 111 = _ := h111
      have q4 := (KC2.out.later hb).c 4 rfl
      simp only [over, overL, Nat.reduceAdd, h111]
      go_simp
      exact hK _ _ ⟨_, rfl, by simp only [over, overL, Nat.reduceAdd, h111]; rfl, Below.refl _ _⟩
    · intro f w1 hb _ K hK
      simp only [over, overL, Nat.reduceAdd]
      go_simp
      exact hK _ _ ⟨_, rfl, by simp only [over, overL, Nat.reduceAdd]; rfl, Below.refl _ _⟩
    · intro f w1 hb ⟨h113, _⟩ K hK
      replace h113 : f 113 = _ := h113
      have q4 := (KF2.out.later hb).c 4 rfl
      simp only [over, overL, Nat.reduceAdd, h113]
      go_simp
      exact hK _ _ ⟨_, rfl, by simp only [over, overL, Nat.reduceAdd, h113]; rfl, Below.refl _ _⟩
    · intro f w1 hb ⟨h112, h114, _⟩ K hK
      replace h112 : f 112 = _ := h112
      replace h114 : f 114 = _ := h114
      simp only [over, overL, Nat.reduceAdd, h112, h114]
      go_simp
      simp only [HDM.out]
      exact hK _ _ ⟨_, rfl, by simp only [over, overL, Nat.reduceAdd, h112, h114]; rfl, Below.refl _ _⟩
    · intro f w1 hb ⟨h115, _⟩ K hK
      replace h115 : f 115 = _ := h115
      simp only [over, overL, Nat.reduceAdd, h115]
      go_simp
      refine (HS.out _).mono ?_
      rintro e w2 ⟨rfl, hb2⟩
      exact hK _ _ ⟨_, rfl, by simp only [over, overL, Nat.reduceAdd, h115]; rfl, by rw [hb2]; exact Below.refl _ _⟩
    · intro f w1 hb ⟨h116, _⟩ K hK
      replace h116 : f 116 = _ := h116
      simp only [over, overL, Nat.reduceAdd, h116]
      go_simp
      refine (HU.out _).mono ?_
      rintro e w2 ⟨rfl, hb2⟩
      exact hK _ _ ⟨_, rfl, by simp only [over, overL, Nat.reduceAdd, h116]; rfl, by rw [hb2]; exact Below.refl _ _⟩
    · intro f w1 hb ⟨h110, h117, _⟩ K hK
      replace h110 : f 110 = _ := h110
      replace h117 : f 117 = _ := h117
      simp only [over, overL, Nat.reduceAdd, h110, h117]
      go_simp
      simp only [HTW.out]
      exact hK _ _ ⟨_, rfl, by simp only [over, overL, Nat.reduceAdd, h110, h117]; rfl, Below.refl _ _⟩
    · intro f w1 hb _ K hK
      simp only [over, overL, Nat.reduceAdd]
      go_simp
      exact hK _ _ ⟨_, rfl, by simp only [over, overL, Nat.reduceAdd]; rfl, Below.refl _ _⟩
  · intro fr w3 hb3 hv
    have hfa : fr 119 = .pointer (some ⟨F, 8, none⟩) := hv.2.2.2.2.2.2.2.2.2.2.1
    have had : fr 118 = .int .i64 x := hv.2.2.2.2.2.2.2.2.2.1
    have HB3 : Hid (Below w.heap.size w w3) := below_on HB2.out hb3
    have KF3 : Hid (Bk F (fc f) w3) := KF2.out.later hb3
    have KC3 : Hid (Bk C (cmc c) w3) := KC2.out.later hb3
    have KT3 : Hid (Bk T [.int .i64 c.x, .int .i64 c.y, .int .i64 c.z] w3) := KT2.out.later hb3
    have KO3 : Hid (Bk O zfc w3) := KO2.out.later hb3
    have KZ3 : Hid (Bk Z zfc w3) := KZ2.out.later hb3
    simp only [over_eq, overL, hfa, had, Nat.reduceAdd]
    clear hv hfa had hb3 KR2 KF2 KC2 KO2 KZ2 KT2 HB2
    obtain ⟨w4, hw4⟩ : ∃ y, y = w3.setCell ⟨F, 8, none⟩ (.int .i64 x) := ⟨_, rfl⟩
    have HB4 : Hid (Below w.heap.size w w4) := by show Below _ _ _; rw [hw4]; exact HB3.out.setCell HW.out.2.1 _
    have KF4 : Hid (Bk F (fc { f with tk := x }) w4) := by show Bk _ _ _; rw [hw4]; exact KF3.out.put 8 _
    have KO4 : Hid (Bk O zfc w4) := by show Bk _ _ _; rw [hw4]; exact KO3.out.other hOF _ _
    have KZ4 : Hid (Bk Z zfc w4) := by show Bk _ _ _; rw [hw4]; exact KZ3.out.other hZF _ _
    have KC4 : Hid (Bk C (cmc c) w4) := by show Bk _ _ _; rw [hw4]; exact KC3.out.other hCF _ _
    have KT4 : Hid (Bk T [.int .i64 c.x, .int .i64 c.y, .int .i64 c.z] w4) := by show Bk _ _ _; rw [hw4]; exact KT3.out.other hTF _ _
    have f8 := KF3.out.c 8 rfl
    have z8 := KF3.out.f 8 rfl
    go_wp2_with fail
    simp only [← hw4]
    clear hw4 f8 z8 KF3 KO3 KZ3 KC3 KT3 HB3
    refine HKK.out _ _ ?_
    clear HKK
    have hl := H_hl.out
    have f0 := KF4.out.c 0 rfl
    have g0 := KF4.out.f 0 rfl
    have f1 := KF4.out.c 1 rfl
    have g1 := KF4.out.f 1 rfl
    have f2 := KF4.out.c 2 rfl
    have g2 := KF4.out.f 2 rfl
    have f3 := KF4.out.c 3 rfl
    have g3 := KF4.out.f 3 rfl
    have f4 := KF4.out.c 4 rfl
    have g4 := KF4.out.f 4 rfl
    have f5 := KF4.out.c 5 rfl
    have g5 := KF4.out.f 5 rfl
    have f6 := KF4.out.c 6 rfl
    have g6 := KF4.out.f 6 rfl
    have f7 := KF4.out.c 7 rfl
    have g7 := KF4.out.f 7 rfl
    have f8 := KF4.out.c 8 rfl
    have g8 := KF4.out.f 8 rfl
    have c1 := KC4.out.c 1 rfl
    have c2 := KC4.out.c 2 rfl
    have c3 := KC4.out.c 3 rfl
    have c4 := KC4.out.c 4 rfl
    have t0 := KT4.out.c 0 rfl
    have t1 := KT4.out.c 1 rfl
    have t2 := KT4.out.c 2 rfl
    have z0 := KZ4.out.c 0 rfl
    have z1 := KZ4.out.c 1 rfl
    have z2 := KZ4.out.c 2 rfl
    have z3 := KZ4.out.c 3 rfl
    have z4 := KZ4.out.c 4 rfl
    have z5 := KZ4.out.c 5 rfl
    have z6 := KZ4.out.c 6 rfl
    have z7 := KZ4.out.c 7 rfl
    have z8 := KZ4.out.c 8 rfl
    have KO8 : Hid (Bk O zfc ((w4.setCell ⟨F, 4, none⟩ (.int .i64 c.v)))) := (KO4.out).other hOF _ _
    have HB8 : Hid (Below w.heap.size w ((w4.setCell ⟨F, 4, none⟩ (.int .i64 c.v)))) := (HB4.out).setCell HW.out.2.1 _
    go_wp2_with (refine wpList_store_mid rfl 29 _ _ rfl O 0 zfc.toArray rfl rfl (KO8.out.there (Nat.le_refl _)) info29 (by kernel_rfl) ?_)
    have KO9 : Hid (Bk O zfc (((w4.setCell ⟨F, 4, none⟩ (.int .i64 c.v))).setCells O 0 zfc)) := KO8.out.setAll _ rfl
    have HB9 : Hid (Below w.heap.size w (((w4.setCell ⟨F, 4, none⟩ (.int .i64 c.v))).setCells O 0 zfc)) := HB8.out.trans (low_setCells HW.out.2.2.1 _ _ _)
    exact bodyPost_ret (v := .tuple #[zfv, .int .i64 8]) (results_ct Tryd.results14 _ _ _ rfl rfl (run_loadVar_mid (P := Tryd.prog) _ O 0 29 zfc _ KO9.out.range Tryd.underlying29 rfl info29)) rfl ⟨rfl, HB9.out⟩
set_option maxHeartbeats 6400000 in
set_option maxRecDepth 100000 in
theorem firmDo_plug (r : Rg) (f : Fm) (c : Cm) (w : World) (h : chkM c = 0) (m s t x : Int) (hk : c.k = 3) (hm : f.hm = true) (ht : f.tp = true) (hv : ¬ r.mo < c.v) (hdm : IntKind.i64.wrap (c.v - f.pl) = m) (hs : ∀ W, Calls Tryd.prog 29 #[.int .i64 m] W fun e w' => e = .returned (.int .i64 s) ∧ w' = W) (htw : IntKind.i64.wrap (f.tk + t) = x) (hu : ∀ W, Calls Tryd.prog 30 #[.int .i64 s, .int .i64 1000] W fun e w' => e = .returned (.int .i64 t) ∧ w' = W) (hl : ¬ 1000000000000000 < x) : Calls Tryd.prog 14 #[rgv r, fv f, cmv c] w fun e w' => e = .returned (.tuple #[fv ⟨f.hm, f.pt, c.v, f.tp, f.ht, f.tu, x⟩, .int .i64 0]) ∧ Below w.heap.size w w' := by
  have HM : Hid (∀ W, Calls Tryd.prog 32 #[cmv c] W fun e w' => e = .returned (.int .i64 0) ∧ Below W.heap.size W w') := fun W => by have := commandMay_any c W; rwa [h] at this
  have H_hk := (show Hid _ from hk)
  have H_hm := (show Hid _ from hm)
  have H_ht := (show Hid _ from ht)
  have H_hv := (show Hid _ from hv)
  have HDM := (show Hid _ from hdm)
  have HS := (show Hid _ from hs)
  have HTW := (show Hid _ from htw)
  have HU := (show Hid _ from hu)
  have H_hl := (show Hid _ from hl)
  clear hk hm ht hv hdm hs htw hu hl
  obtain ⟨w0, hw0⟩ : ∃ x, x = ((((w.alloc (rgo r)).alloc (fo f)).alloc (cmo c)).alloc zfo).alloc zfo := ⟨_, rfl⟩
  have HB0 : Hid (Below w.heap.size w w0) := by show Below _ _ _; rw [hw0]; exact below_on (below_on (three_new _ _ _ _) (one_new _ _)) (one_new _ _)
  have KZ0 : Hid (Bk (w.heap.size + 1 + 1 + 1 + 1) zfc w0) := by show Bk _ _ _; rw [hw0]; exact Bk.new ((((w.alloc (rgo r)).alloc (fo f)).alloc (cmo c)).alloc zfo) zfc 29 (w.heap.size + 1 + 1 + 1 + 1) (by simp)
  have KO0 : Hid (Bk (w.heap.size + 1 + 1 + 1) zfc w0) := by show Bk _ _ _; rw [hw0]; exact (Bk.new (((w.alloc (rgo r)).alloc (fo f)).alloc (cmo c)) zfc 29 (w.heap.size + 1 + 1 + 1) (by simp)).later (one_new _ _)
  have KC0 : Hid (Bk (w.heap.size + 1 + 1) (cmc c) w0) := by show Bk _ _ _; rw [hw0]; exact ((Bk.new ((w.alloc (rgo r)).alloc (fo f)) (cmc c) 31 (w.heap.size + 1 + 1) (by simp)).later (one_new _ _)).later (one_new _ _)
  have KF0 : Hid (Bk (w.heap.size + 1) (fc f) w0) := by show Bk _ _ _; rw [hw0]; exact (((Bk.new (w.alloc (rgo r)) (fc f) 29 (w.heap.size + 1) (by simp)).later (one_new _ _)).later (one_new _ _)).later (one_new _ _)
  have KR0 : Hid (Bk w.heap.size (rgc r) w0) := by show Bk _ _ _; rw [hw0]; exact ((((Bk.new w (rgc r) 27 w.heap.size rfl).later (one_new _ _)).later (one_new _ _)).later (one_new _ _)).later (one_new _ _)
  obtain ⟨Z, hZ⟩ : ∃ b, b = w.heap.size + 1 + 1 + 1 + 1 := ⟨_, rfl⟩
  obtain ⟨O, hO⟩ : ∃ b, b = w.heap.size + 1 + 1 + 1 := ⟨_, rfl⟩
  obtain ⟨C, hC⟩ : ∃ b, b = w.heap.size + 1 + 1 := ⟨_, rfl⟩
  obtain ⟨F, hF⟩ : ∃ b, b = w.heap.size + 1 := ⟨_, rfl⟩
  obtain ⟨R, hR⟩ : ∃ b, b = w.heap.size := ⟨_, rfl⟩
  rw [← hZ] at KZ0
  rw [← hO] at KO0
  rw [← hC] at KC0
  rw [← hF] at KF0
  rw [← hR] at KR0
  have HW : Hid (w.heap.size ≤ R ∧ w.heap.size ≤ F ∧ w.heap.size ≤ O ∧ R ≠ F ∧ R ≠ O ∧ F ≠ O ∧ Z ≠ F ∧ Z ≠ O ∧ C ≠ F) := by show _ ∧ _; omega
  have hOF : O ≠ F := by omega
  have hZF : Z ≠ F := by omega
  have hCF : C ≠ F := by omega
  have hRF : R ≠ F := by omega
  clear h
  go_enter Tryd.func14, Tryd.ntmps14
  go_wp2_with fail
  simp only [show ((((w.alloc (rgo r)).alloc (fo f)).alloc (.cells #[.int .i64 c.k, .int .i64 c.x, .int .i64 c.y, .int .i64 c.z, .int .i64 c.v] 31)).alloc zfo).alloc zfo = w0 from hw0.symm, ← hZ]
  simp only [← hO]
  simp only [← hC]
  simp only [← hF]
  simp only [← hR]
  clear hw0 hZ hO hC hF hR
  refine (HM.out _).mono ?_
  rintro e w1 ⟨rfl, hb1⟩
  have HB1 : Hid (Below w.heap.size w w1) := below_on HB0.out hb1
  have KR1 : Hid (Bk R (rgc r) w1) := KR0.out.later hb1
  have KF1 : Hid (Bk F (fc f) w1) := KF0.out.later hb1
  have KC1 : Hid (Bk C (cmc c) w1) := KC0.out.later hb1
  have KO1 : Hid (Bk O zfc w1) := KO0.out.later hb1
  have KZ1 : Hid (Bk Z zfc w1) := KZ0.out.later hb1
  clear hb1 HB0 KR0 KF0 KC0 KO0 KZ0
  have c0 := KC1.out.c 0 rfl
  have c1 := KC1.out.c 1 rfl
  have c2 := KC1.out.c 2 rfl
  have c3 := KC1.out.c 3 rfl
  have c4 := KC1.out.c 4 rfl
  have f0 := KF1.out.c 0 rfl
  have f5 := KF1.out.c 5 rfl
  have r11 := KR1.out.c 11 rfl
  have hRl : R < w1.heap.size := KR1.out.1
  have hFl : F < w1.heap.size := KF1.out.1
  have hCl : C < w1.heap.size := KC1.out.1
  have hOl : O < w1.heap.size := KO1.out.1
  have hZl : Z < w1.heap.size := KZ1.out.1
  have hk := H_hk.out
  rw [hk] at c0
  have hm := H_hm.out
  have ht := H_ht.out
  have hv := H_hv.out
  rw [hm] at f0
  rw [ht] at f5
  clear hm ht
  obtain ⟨w2, hw2⟩ : ∃ y, y = w1.alloc (.cells #[.int .i64 c.x, .int .i64 c.y, .int .i64 c.z] 23) := ⟨_, rfl⟩
  have HB2 : Hid (Below w.heap.size w w2) := by show Below _ _ _; rw [hw2]; exact below_on HB1.out (one_new _ _)
  have KR2 : Hid (Bk R (rgc r) w2) := by show Bk _ _ _; rw [hw2]; exact KR1.out.later (one_new _ _)
  have KF2 : Hid (Bk F (fc f) w2) := by show Bk _ _ _; rw [hw2]; exact KF1.out.later (one_new _ _)
  have KC2 : Hid (Bk C (cmc c) w2) := by show Bk _ _ _; rw [hw2]; exact KC1.out.later (one_new _ _)
  have KO2 : Hid (Bk O zfc w2) := by show Bk _ _ _; rw [hw2]; exact KO1.out.later (one_new _ _)
  have KZ2 : Hid (Bk Z zfc w2) := by show Bk _ _ _; rw [hw2]; exact KZ1.out.later (one_new _ _)
  have KT2 : Hid (Bk w1.heap.size [.int .i64 c.x, .int .i64 c.y, .int .i64 c.z] w2) := by show Bk _ _ _; rw [hw2]; exact Bk.new w1 [.int .i64 c.x, .int .i64 c.y, .int .i64 c.z] 23 w1.heap.size rfl
  obtain ⟨T, hT⟩ : ∃ b, b = w1.heap.size := ⟨_, rfl⟩
  rw [← hT] at KT2
  have hTF : T ≠ F := by omega
  go_wp2_with fail
  simp only [← hw2, ← hT]
  clear hw2 hT c0 c1 c2 c3 c4 f0 f5 r11 hRl hFl hCl hOl hZl KR1 KF1 KC1 KO1 KZ1 HB1
  rename_i KK hkk
  have HKK := (show Hid _ from hkk)
  clear hkk
  refine region_seq 11 [false, false, false, false, false, false, false, false, false, false, false, false, false, false, false, false, false, false, false, false, false, false, false, false, false, false, false, false, false, false, false, false, false, false, false, false, false, false, false, false, false, false, false, false, false, false, false, false, false, false, false, false, false, false, false, false, false, false, false, false, false, false, false, false, false, false, false, false, false, false, false, false, false, false, false, false, false, false, false, false, false, false, false, false, false, false, false, false, false, false, false, false, false, false, false, false, false, false, false, false, false, false, false, false, false, false, false, false, false, true, true, true, true, true, true, true, true, true, true, true, false, false, false, false, false, false, false, false, false, false, false, false, false, false, false, false, false, false, false, false, false, false, false, false, false, false, false, false, false, false, false, false, false, false, false, false, false, false, false, false, false, false, false, false, false, false]
    [(109, [], none), (110, [109], none), (111, [], none), (112, [111], none), (113, [], none), (114, [113], none), (115, [112, 114], none), (116, [115], none), (117, [116], none), (118, [110, 117], none), (119, [], none)]
    (dplugV R F C T r f c m s t x) (by kernel_rfl) (by kernel_rfl) (by kernel_rfl) (by kernel_rfl) (by kernel_rfl) (by decide) (dplugV_mono R F C T r f c m s t x) ?_ ?_
  · refine ⟨?_, ?_, ?_, ?_, ?_, ?_, ?_, ?_, ?_, ?_, ?_, trivial⟩
    · intro f w1 hb _ K hK
      simp only [over, overL, Nat.reduceAdd]
      go_simp
      exact hK _ _ ⟨_, rfl, by simp only [over, overL, Nat.reduceAdd]; rfl, Below.refl _ _⟩
    · intro f w1 hb ⟨h109, _⟩ K hK
      replace h109 : f 109 = _ := h109
      have q8 := (KF2.out.later hb).c 8 rfl
      simp only [over, overL, Nat.reduceAdd, h109]
      go_simp
      exact hK _ _ ⟨_, rfl, by simp only [over, overL, Nat.reduceAdd, h109]; rfl, Below.refl _ _⟩
    · intro f w1 hb _ K hK
      simp only [over, overL, Nat.reduceAdd]
      go_simp
      exact hK _ _ ⟨_, rfl, by simp only [over, overL, Nat.reduceAdd]; rfl, Below.refl _ _⟩
    · intro f w1 hb ⟨h111, _⟩ K hK
      replace h111 : f 111 = _ := h111
      have q4 := (KC2.out.later hb).c 4 rfl
      simp only [over, overL, Nat.reduceAdd, h111]
      go_simp
      exact hK _ _ ⟨_, rfl, by simp only [over, overL, Nat.reduceAdd, h111]; rfl, Below.refl _ _⟩
    · intro f w1 hb _ K hK
      simp only [over, overL, Nat.reduceAdd]
      go_simp
      exact hK _ _ ⟨_, rfl, by simp only [over, overL, Nat.reduceAdd]; rfl, Below.refl _ _⟩
    · intro f w1 hb ⟨h113, _⟩ K hK
      replace h113 : f 113 = _ := h113
      have q4 := (KF2.out.later hb).c 4 rfl
      simp only [over, overL, Nat.reduceAdd, h113]
      go_simp
      exact hK _ _ ⟨_, rfl, by simp only [over, overL, Nat.reduceAdd, h113]; rfl, Below.refl _ _⟩
    · intro f w1 hb ⟨h112, h114, _⟩ K hK
      replace h112 : f 112 = _ := h112
      replace h114 : f 114 = _ := h114
      simp only [over, overL, Nat.reduceAdd, h112, h114]
      go_simp
      simp only [HDM.out]
      exact hK _ _ ⟨_, rfl, by simp only [over, overL, Nat.reduceAdd, h112, h114]; rfl, Below.refl _ _⟩
    · intro f w1 hb ⟨h115, _⟩ K hK
      replace h115 : f 115 = _ := h115
      simp only [over, overL, Nat.reduceAdd, h115]
      go_simp
      refine (HS.out _).mono ?_
      rintro e w2 ⟨rfl, hb2⟩
      exact hK _ _ ⟨_, rfl, by simp only [over, overL, Nat.reduceAdd, h115]; rfl, by rw [hb2]; exact Below.refl _ _⟩
    · intro f w1 hb ⟨h116, _⟩ K hK
      replace h116 : f 116 = _ := h116
      simp only [over, overL, Nat.reduceAdd, h116]
      go_simp
      refine (HU.out _).mono ?_
      rintro e w2 ⟨rfl, hb2⟩
      exact hK _ _ ⟨_, rfl, by simp only [over, overL, Nat.reduceAdd, h116]; rfl, by rw [hb2]; exact Below.refl _ _⟩
    · intro f w1 hb ⟨h110, h117, _⟩ K hK
      replace h110 : f 110 = _ := h110
      replace h117 : f 117 = _ := h117
      simp only [over, overL, Nat.reduceAdd, h110, h117]
      go_simp
      simp only [HTW.out]
      exact hK _ _ ⟨_, rfl, by simp only [over, overL, Nat.reduceAdd, h110, h117]; rfl, Below.refl _ _⟩
    · intro f w1 hb _ K hK
      simp only [over, overL, Nat.reduceAdd]
      go_simp
      exact hK _ _ ⟨_, rfl, by simp only [over, overL, Nat.reduceAdd]; rfl, Below.refl _ _⟩
  · intro fr w3 hb3 hv
    have hfa : fr 119 = .pointer (some ⟨F, 8, none⟩) := hv.2.2.2.2.2.2.2.2.2.2.1
    have had : fr 118 = .int .i64 x := hv.2.2.2.2.2.2.2.2.2.1
    have HB3 : Hid (Below w.heap.size w w3) := below_on HB2.out hb3
    have KF3 : Hid (Bk F (fc f) w3) := KF2.out.later hb3
    have KC3 : Hid (Bk C (cmc c) w3) := KC2.out.later hb3
    have KT3 : Hid (Bk T [.int .i64 c.x, .int .i64 c.y, .int .i64 c.z] w3) := KT2.out.later hb3
    have KO3 : Hid (Bk O zfc w3) := KO2.out.later hb3
    have KZ3 : Hid (Bk Z zfc w3) := KZ2.out.later hb3
    simp only [over_eq, overL, hfa, had, Nat.reduceAdd]
    clear hv hfa had hb3 KR2 KF2 KC2 KO2 KZ2 KT2 HB2
    obtain ⟨w4, hw4⟩ : ∃ y, y = w3.setCell ⟨F, 8, none⟩ (.int .i64 x) := ⟨_, rfl⟩
    have HB4 : Hid (Below w.heap.size w w4) := by show Below _ _ _; rw [hw4]; exact HB3.out.setCell HW.out.2.1 _
    have KF4 : Hid (Bk F (fc { f with tk := x }) w4) := by show Bk _ _ _; rw [hw4]; exact KF3.out.put 8 _
    have KO4 : Hid (Bk O zfc w4) := by show Bk _ _ _; rw [hw4]; exact KO3.out.other hOF _ _
    have KZ4 : Hid (Bk Z zfc w4) := by show Bk _ _ _; rw [hw4]; exact KZ3.out.other hZF _ _
    have KC4 : Hid (Bk C (cmc c) w4) := by show Bk _ _ _; rw [hw4]; exact KC3.out.other hCF _ _
    have KT4 : Hid (Bk T [.int .i64 c.x, .int .i64 c.y, .int .i64 c.z] w4) := by show Bk _ _ _; rw [hw4]; exact KT3.out.other hTF _ _
    have f8 := KF3.out.c 8 rfl
    have z8 := KF3.out.f 8 rfl
    go_wp2_with fail
    simp only [← hw4]
    clear hw4 f8 z8 KF3 KO3 KZ3 KC3 KT3 HB3
    refine HKK.out _ _ ?_
    clear HKK
    have hl := H_hl.out
    have f0 := KF4.out.c 0 rfl
    have g0 := KF4.out.f 0 rfl
    have f1 := KF4.out.c 1 rfl
    have g1 := KF4.out.f 1 rfl
    have f2 := KF4.out.c 2 rfl
    have g2 := KF4.out.f 2 rfl
    have f3 := KF4.out.c 3 rfl
    have g3 := KF4.out.f 3 rfl
    have f4 := KF4.out.c 4 rfl
    have g4 := KF4.out.f 4 rfl
    have f5 := KF4.out.c 5 rfl
    have g5 := KF4.out.f 5 rfl
    have f6 := KF4.out.c 6 rfl
    have g6 := KF4.out.f 6 rfl
    have f7 := KF4.out.c 7 rfl
    have g7 := KF4.out.f 7 rfl
    have f8 := KF4.out.c 8 rfl
    have g8 := KF4.out.f 8 rfl
    have c1 := KC4.out.c 1 rfl
    have c2 := KC4.out.c 2 rfl
    have c3 := KC4.out.c 3 rfl
    have c4 := KC4.out.c 4 rfl
    have t0 := KT4.out.c 0 rfl
    have t1 := KT4.out.c 1 rfl
    have t2 := KT4.out.c 2 rfl
    have KO8 : Hid (Bk O zfc ((w4.setCell ⟨F, 4, none⟩ (.int .i64 c.v)))) := (KO4.out).other hOF _ _
    have HB8 : Hid (Below w.heap.size w ((w4.setCell ⟨F, 4, none⟩ (.int .i64 c.v)))) := (HB4.out).setCell HW.out.2.1 _
    go_wp2_with (refine wpList_store_mid rfl 29 _ _ rfl O 0 (fc ⟨f.hm, f.pt, c.v, f.tp, f.ht, f.tu, x⟩).toArray rfl rfl (KO8.out.there (Nat.le_refl _)) info29 (by kernel_rfl) ?_)
    have KO9 : Hid (Bk O (fc ⟨f.hm, f.pt, c.v, f.tp, f.ht, f.tu, x⟩) (((w4.setCell ⟨F, 4, none⟩ (.int .i64 c.v))).setCells O 0 (fc ⟨f.hm, f.pt, c.v, f.tp, f.ht, f.tu, x⟩))) := KO8.out.setAll _ rfl
    have HB9 : Hid (Below w.heap.size w (((w4.setCell ⟨F, 4, none⟩ (.int .i64 c.v))).setCells O 0 (fc ⟨f.hm, f.pt, c.v, f.tp, f.ht, f.tu, x⟩))) := HB8.out.trans (low_setCells HW.out.2.2.1 _ _ _)
    exact bodyPost_ret (v := .tuple #[fv ⟨f.hm, f.pt, c.v, f.tp, f.ht, f.tu, x⟩, .int .i64 0]) (results_ct Tryd.results14 _ _ _ rfl rfl (load29 KO9.out)) rfl ⟨rfl, HB9.out⟩
end Go.Proofs.YtgahlhfgpkklaaaDoor
