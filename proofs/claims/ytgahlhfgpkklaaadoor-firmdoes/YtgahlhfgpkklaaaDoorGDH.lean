/- TicksFor of the document walked. -/
import Derived.Test.YtgahlhfgpkklaaaDoorGBH
import Derived.BigQuiet
namespace Go.Proofs.YtgahlhfgpkklaaaDoor
open Go.RowKit Go.Maps

set_option linter.unusedVariables false in
def tfV (P Q : Nat) (p q : Pt) (cx cy cz mx G : Int) (d : Nat) (v : Value) (_ : World) : Prop :=
  match d with
  | 10 => v = .pointer (some ⟨P, 0, none⟩)
  | 11 => v = .int .i64 p.x
  | 12 => v = .pointer (some ⟨Q, 0, none⟩)
  | 13 => v = .int .i64 q.x
  | 14 => v = .int .i64 (p.x - q.x)
  | 15 => v = .int .i64 cx
  | 16 => v = .pointer (some ⟨P, 1, none⟩)
  | 17 => v = .int .i64 p.y
  | 18 => v = .pointer (some ⟨Q, 1, none⟩)
  | 19 => v = .int .i64 q.y
  | 20 => v = .int .i64 (p.y - q.y)
  | 21 => v = .int .i64 cy
  | 22 => v = .pointer (some ⟨P, 2, none⟩)
  | 23 => v = .int .i64 p.z
  | 24 => v = .pointer (some ⟨Q, 2, none⟩)
  | 25 => v = .int .i64 q.z
  | 26 => v = .int .i64 (p.z - q.z)
  | 27 => v = .int .i64 cz
  | 28 => v = .int .i64 mx
  | 29 => v = .int .i64 G
  | 7 => v = .int .i64 G
  | _ => True
set_option linter.unusedVariables false in
theorem tfV_mono (P Q : Nat) (p q : Pt) (cx cy cz mx G : Int) (d : Nat) (v : Value) (w w' : World) (h : tfV P Q p q cx cy cz mx G d v w) (_ : Below w.heap.size w w') : tfV P Q p q cx cy cz mx G d v w' := h
set_option maxHeartbeats 6400000 in
set_option maxRecDepth 100000 in
theorem ticksFor_any (r : Rg) (p q : Pt) (w : World) (h : RgOk r) (hp : inS r p = true) (hq : inS r q = true) : Calls Tryd.prog 13 #[rgv r, v3 p, v3 q] w fun e w' => e = .returned (.int .i64 (tick r p q)) ∧ Below w.heap.size w w' := by
  have hgb := gch_bd h hp hq
  have hst := steps_bd h hp hq
  obtain ⟨m, hm⟩ : ∃ m, m = stepsN r p q := ⟨_, rfl⟩
  rw [← hm] at hst
  have HT : Hid (tick r p q = runT r.rp m) := by show _ = _; rw [hm]; rfl
  have HTa : Hid (∀ W, Calls Tryd.prog 31 #[rv r.rp, .int .i64 20000] W fun e w' => e = .returned (.int .i64 (totR r.rp 20000)) ∧ Below W.heap.size W w') := fun W => rampTotal_any r.rp 20000 W h.rp (by decide)
  have HTb : Hid (∀ W, Calls Tryd.prog 31 #[rv r.rp, .int .i64 ((m % 20000 : Nat) : Int)] W fun e w' => e = .returned (.int .i64 (totR r.rp (m % 20000))) ∧ Below W.heap.size W w') := fun W => rampTotal_any r.rp (m % 20000) W h.rp (by omega)
  have HU : Hid (∀ W, Calls Tryd.prog 30 #[.int .i64 (gch p q), .int .i64 r.ps] W fun e w' => e = .returned (.int .i64 (m : Int)) ∧ w' = W) := fun W => by rw [hst.2]; exact roundUp_any (gch p q) r.ps W hgb.1 (by omega) h.ps.1 h.ps.2
  have hb1 := totR_bd h.rp (n := 20000) (Nat.le_refl _)
  have hb2 := totR_bd h.rp (n := m % 20000) (by omega)
  have hrb := runT_bd h.rp hst.1
  have hmm : m ≤ 20000000 := hst.1
  have hx := h.x
  have hy := h.y
  have hz := h.z
  have i1 := inS_iff.1 hp
  have i2 := inS_iff.1 hq
  obtain ⟨T1, hT1⟩ : ∃ t, t = totR r.rp 20000 := ⟨_, rfl⟩
  obtain ⟨T2, hT2⟩ : ∃ t, t = totR r.rp (m % 20000) := ⟨_, rfl⟩
  have HRt : Hid (runT r.rp m = (m / 20000 : Nat) * T1 + T2) := by show _ = _; rw [hT1, hT2]; rfl
  rw [HRt.out] at hrb
  rw [← hT1] at HTa hb1
  rw [← hT2] at HTb hb2
  have HX : Hid (∀ W, Calls Tryd.prog 29 #[.int .i64 (p.x - q.x)] W fun e w' => e = .returned (.int .i64 (chg p.x q.x)) ∧ w' = W) := fun W => by rw [show chg p.x q.x = max (p.x - q.x) (-(p.x - q.x)) by unfold chg; omega]; exact size_any _ W (by omega) (by omega)
  have HY : Hid (∀ W, Calls Tryd.prog 29 #[.int .i64 (p.y - q.y)] W fun e w' => e = .returned (.int .i64 (chg p.y q.y)) ∧ w' = W) := fun W => by rw [show chg p.y q.y = max (p.y - q.y) (-(p.y - q.y)) by unfold chg; omega]; exact size_any _ W (by omega) (by omega)
  have HZ : Hid (∀ W, Calls Tryd.prog 29 #[.int .i64 (p.z - q.z)] W fun e w' => e = .returned (.int .i64 (chg p.z q.z)) ∧ w' = W) := fun W => by rw [show chg p.z q.z = max (p.z - q.z) (-(p.z - q.z)) by unfold chg; omega]; exact size_any _ W (by omega) (by omega)
  have HG : Hid (∀ W, Calls Tryd.prog 28 #[.int .i64 (chg p.y q.y), .int .i64 (chg p.z q.z)] W fun e w' => e = .returned (.int .i64 (max (chg p.y q.y) (chg p.z q.z))) ∧ w' = W) := fun W => greater_any _ _ W
  have HH : Hid (∀ W, Calls Tryd.prog 28 #[.int .i64 (chg p.x q.x), .int .i64 (max (chg p.y q.y) (chg p.z q.z))] W fun e w' => e = .returned (.int .i64 (gch p q)) ∧ w' = W) := fun W => greater_any _ _ W
  have d1 : p.x - q.x ≤ 9223372036854775807 := by omega
  have d2 : -9223372036854775808 ≤ p.x - q.x := by omega
  have d3 : p.y - q.y ≤ 9223372036854775807 := by omega
  have d4 : -9223372036854775808 ≤ p.y - q.y := by omega
  have d5 : p.z - q.z ≤ 9223372036854775807 := by omega
  have d6 : -9223372036854775808 ≤ p.z - q.z := by omega
  obtain ⟨cx, hcx⟩ : ∃ c, c = chg p.x q.x := ⟨_, rfl⟩
  obtain ⟨cy, hcy⟩ : ∃ c, c = chg p.y q.y := ⟨_, rfl⟩
  obtain ⟨cz, hcz⟩ : ∃ c, c = chg p.z q.z := ⟨_, rfl⟩
  rw [← hcx] at HX HH
  rw [← hcy] at HY HG HH
  rw [← hcz] at HZ HG HH
  obtain ⟨mx, hmx⟩ : ∃ c, c = max cy cz := ⟨_, rfl⟩
  rw [← hmx] at HG HH
  obtain ⟨G, hG⟩ : ∃ c, c = gch p q := ⟨_, rfl⟩
  rw [← hG] at HH HU
  rw [HT.out, HRt.out]
  obtain ⟨k, hk0⟩ : ∃ k, k = m / 20000 := ⟨_, rfl⟩
  obtain ⟨j, hj0⟩ : ∃ j, j = m % 20000 := ⟨_, rfl⟩
  have hk : Hid (k = m / 20000) := hk0
  rw [← hk0] at hrb
  rw [← hk0]
  rw [← hj0] at HTb
  have hd : (m : Int).tdiv 20000 = (k : Int) := by rw [hk0]; exact (Int.ofNat_tdiv m 20000).symm
  have hmo : (m : Int).tmod 20000 = (j : Int) := by rw [hj0]; exact (Int.ofNat_tmod m 20000).symm
  have hkm : k ≤ 1000 := by omega
  have e0 : 0 ≤ (k : Int) * T1 := Int.mul_nonneg (by omega) hb1.1
  have e1 : (k : Int) * T1 ≤ 1000 * 2000000000000 := Int.le_trans (Int.mul_le_mul_of_nonneg_right (show (k : Int) ≤ 1000 by omega) hb1.1) (by omega)
  have e2 : (k : Int) * T1 ≤ 9223372036854775807 := by omega
  have e3 : -9223372036854775808 ≤ (k : Int) * T1 := by omega
  have e4 : (k : Int) * T1 + T2 ≤ 9223372036854775807 := by omega
  have e5 : -9223372036854775808 ≤ (k : Int) * T1 + T2 := by omega
  clear hk0 hj0
  obtain ⟨w0, hw0⟩ : ∃ x, x = ((w.alloc (rgo r)).alloc (o3 p 23)).alloc (o3 q 23) := ⟨_, rfl⟩
  have HB0 : Hid (Below w.heap.size w w0) := by show Below _ _ _; rw [hw0]; exact three_new _ _ _ _
  have KR0 : Hid (Bk w.heap.size (rgc r) w0) := by show Bk _ _ _; rw [hw0]; exact ((Bk.new w (rgc r) 27 w.heap.size rfl).later (one_new _ _)).later (one_new _ _)
  have KQ0 : Hid (Bk (w.heap.size + 1 + 1) (c3 q) w0) := by show Bk _ _ _; rw [hw0]; exact Bk.new ((w.alloc (rgo r)).alloc (o3 p 23)) (c3 q) 23 (w.heap.size + 1 + 1) (by simp)
  have KP0 : Hid (Bk (w.heap.size + 1) (c3 p) w0) := by show Bk _ _ _; rw [hw0]; exact (Bk.new (w.alloc (rgo r)) (c3 p) 23 (w.heap.size + 1) (by simp)).later (one_new _ _)
  obtain ⟨Q, hQ⟩ : ∃ b, b = w.heap.size + 1 + 1 := ⟨_, rfl⟩
  obtain ⟨P, hP⟩ : ∃ b, b = w.heap.size + 1 := ⟨_, rfl⟩
  obtain ⟨R, hR⟩ : ∃ b, b = w.heap.size := ⟨_, rfl⟩
  rw [← hQ] at KQ0
  rw [← hP] at KP0
  rw [← hR] at KR0
  clear h hp hq hgb hst hm HT hx hy hz i1 i2 hcx hcy hcz hmx hG HRt hT1 hT2
  go_enter Tryd.func13, Tryd.ntmps13
  go_wp2_with fail
  rename_i KK hkk
  have HKK := (show Hid _ from hkk)
  clear hkk
  simp only [← hw0, ← hQ]
  simp only [← hP]
  simp only [← hR]
  clear hw0 hQ hP hR
  refine region_inv [false, false, false, false, false, false, false, true, false, false, true, true, true, true, true, true, true, true, true, true, true, true, true, true, true, true, true, true, true, true, false, false, false, false, false, false, false, false, false, false, false, false, false, false, false, false, false, false, false]
    [(10, [], none), (11, [10], none), (12, [], none), (13, [12], none), (14, [11, 13], none), (15, [14], none), (16, [], none), (17, [16], none), (18, [], none), (19, [18], none), (20, [17, 19], none), (21, [20], none), (22, [], none), (23, [22], none), (24, [], none), (25, [24], none), (26, [23, 25], none), (27, [26], none), (28, [21, 27], none), (29, [15, 28], none), (7, [29], none)]
    (tfV P Q p q cx cy cz mx G) (by kernel_rfl) (by kernel_rfl) (tfV_mono P Q p q cx cy cz mx G) ?_ ?_
  · refine ⟨?_, ?_, ?_, ?_, ?_, ?_, ?_, ?_, ?_, ?_, ?_, ?_, ?_, ?_, ?_, ?_, ?_, ?_, ?_, ?_, ?_, trivial⟩
    · intro f w1 hb _ K hK
      simp only [over, overL, Nat.reduceAdd]
      go_simp
      exact hK _ _ ⟨_, rfl, by simp only [over, overL, Nat.reduceAdd]; rfl, Below.refl _ _⟩
    · intro f w1 hb ⟨h10, _⟩ K hK
      replace h10 : f 10 = _ := h10
      have q0 := (KP0.out.later hb).c 0 rfl
      simp only [over, overL, Nat.reduceAdd, h10]
      go_simp
      exact hK _ _ ⟨_, rfl, by simp only [over, overL, Nat.reduceAdd, h10]; rfl, Below.refl _ _⟩
    · intro f w1 hb _ K hK
      simp only [over, overL, Nat.reduceAdd]
      go_simp
      exact hK _ _ ⟨_, rfl, by simp only [over, overL, Nat.reduceAdd]; rfl, Below.refl _ _⟩
    · intro f w1 hb ⟨h12, _⟩ K hK
      replace h12 : f 12 = _ := h12
      have q0 := (KQ0.out.later hb).c 0 rfl
      simp only [over, overL, Nat.reduceAdd, h12]
      go_simp
      exact hK _ _ ⟨_, rfl, by simp only [over, overL, Nat.reduceAdd, h12]; rfl, Below.refl _ _⟩
    · intro f w1 hb ⟨h11, h13, _⟩ K hK
      replace h11 : f 11 = _ := h11
      replace h13 : f 13 = _ := h13
      simp only [over, overL, Nat.reduceAdd, h11, h13]
      go_simp
      simp only [IntWalk.i64_in (p.x - q.x) ⟨d2, d1⟩]
      exact hK _ _ ⟨_, rfl, by simp only [over, overL, Nat.reduceAdd, h11, h13]; rfl, Below.refl _ _⟩
    · intro f w1 hb ⟨h14, _⟩ K hK
      replace h14 : f 14 = _ := h14
      simp only [over, overL, Nat.reduceAdd, h14]
      go_simp
      refine (HX.out _).mono ?_
      rintro e w2 ⟨rfl, hb2⟩
      exact hK _ _ ⟨_, rfl, by simp only [over, overL, Nat.reduceAdd, h14]; rfl, by rw [hb2]; exact Below.refl _ _⟩
    · intro f w1 hb _ K hK
      simp only [over, overL, Nat.reduceAdd]
      go_simp
      exact hK _ _ ⟨_, rfl, by simp only [over, overL, Nat.reduceAdd]; rfl, Below.refl _ _⟩
    · intro f w1 hb ⟨h16, _⟩ K hK
      replace h16 : f 16 = _ := h16
      have q1 := (KP0.out.later hb).c 1 rfl
      simp only [over, overL, Nat.reduceAdd, h16]
      go_simp
      exact hK _ _ ⟨_, rfl, by simp only [over, overL, Nat.reduceAdd, h16]; rfl, Below.refl _ _⟩
    · intro f w1 hb _ K hK
      simp only [over, overL, Nat.reduceAdd]
      go_simp
      exact hK _ _ ⟨_, rfl, by simp only [over, overL, Nat.reduceAdd]; rfl, Below.refl _ _⟩
    · intro f w1 hb ⟨h18, _⟩ K hK
      replace h18 : f 18 = _ := h18
      have q1 := (KQ0.out.later hb).c 1 rfl
      simp only [over, overL, Nat.reduceAdd, h18]
      go_simp
      exact hK _ _ ⟨_, rfl, by simp only [over, overL, Nat.reduceAdd, h18]; rfl, Below.refl _ _⟩
    · intro f w1 hb ⟨h17, h19, _⟩ K hK
      replace h17 : f 17 = _ := h17
      replace h19 : f 19 = _ := h19
      simp only [over, overL, Nat.reduceAdd, h17, h19]
      go_simp
      simp only [IntWalk.i64_in (p.y - q.y) ⟨d4, d3⟩]
      exact hK _ _ ⟨_, rfl, by simp only [over, overL, Nat.reduceAdd, h17, h19]; rfl, Below.refl _ _⟩
    · intro f w1 hb ⟨h20, _⟩ K hK
      replace h20 : f 20 = _ := h20
      simp only [over, overL, Nat.reduceAdd, h20]
      go_simp
      refine (HY.out _).mono ?_
      rintro e w2 ⟨rfl, hb2⟩
      exact hK _ _ ⟨_, rfl, by simp only [over, overL, Nat.reduceAdd, h20]; rfl, by rw [hb2]; exact Below.refl _ _⟩
    · intro f w1 hb _ K hK
      simp only [over, overL, Nat.reduceAdd]
      go_simp
      exact hK _ _ ⟨_, rfl, by simp only [over, overL, Nat.reduceAdd]; rfl, Below.refl _ _⟩
    · intro f w1 hb ⟨h22, _⟩ K hK
      replace h22 : f 22 = _ := h22
      have q2 := (KP0.out.later hb).c 2 rfl
      simp only [over, overL, Nat.reduceAdd, h22]
      go_simp
      exact hK _ _ ⟨_, rfl, by simp only [over, overL, Nat.reduceAdd, h22]; rfl, Below.refl _ _⟩
    · intro f w1 hb _ K hK
      simp only [over, overL, Nat.reduceAdd]
      go_simp
      exact hK _ _ ⟨_, rfl, by simp only [over, overL, Nat.reduceAdd]; rfl, Below.refl _ _⟩
    · intro f w1 hb ⟨h24, _⟩ K hK
      replace h24 : f 24 = _ := h24
      have q2 := (KQ0.out.later hb).c 2 rfl
      simp only [over, overL, Nat.reduceAdd, h24]
      go_simp
      exact hK _ _ ⟨_, rfl, by simp only [over, overL, Nat.reduceAdd, h24]; rfl, Below.refl _ _⟩
    · intro f w1 hb ⟨h23, h25, _⟩ K hK
      replace h23 : f 23 = _ := h23
      replace h25 : f 25 = _ := h25
      simp only [over, overL, Nat.reduceAdd, h23, h25]
      go_simp
      simp only [IntWalk.i64_in (p.z - q.z) ⟨d6, d5⟩]
      exact hK _ _ ⟨_, rfl, by simp only [over, overL, Nat.reduceAdd, h23, h25]; rfl, Below.refl _ _⟩
    · intro f w1 hb ⟨h26, _⟩ K hK
      replace h26 : f 26 = _ := h26
      simp only [over, overL, Nat.reduceAdd, h26]
      go_simp
      refine (HZ.out _).mono ?_
      rintro e w2 ⟨rfl, hb2⟩
      exact hK _ _ ⟨_, rfl, by simp only [over, overL, Nat.reduceAdd, h26]; rfl, by rw [hb2]; exact Below.refl _ _⟩
    · intro f w1 hb ⟨h21, h27, _⟩ K hK
      replace h21 : f 21 = _ := h21
      replace h27 : f 27 = _ := h27
      simp only [over, overL, Nat.reduceAdd, h21, h27]
      go_simp
      refine (HG.out _).mono ?_
      rintro e w2 ⟨rfl, hb2⟩
      exact hK _ _ ⟨_, rfl, by simp only [over, overL, Nat.reduceAdd, h21, h27]; rfl, by rw [hb2]; exact Below.refl _ _⟩
    · intro f w1 hb ⟨h15, h28, _⟩ K hK
      replace h15 : f 15 = _ := h15
      replace h28 : f 28 = _ := h28
      simp only [over, overL, Nat.reduceAdd, h15, h28]
      go_simp
      refine (HH.out _).mono ?_
      rintro e w2 ⟨rfl, hb2⟩
      exact hK _ _ ⟨_, rfl, by simp only [over, overL, Nat.reduceAdd, h15, h28]; rfl, by rw [hb2]; exact Below.refl _ _⟩
    · intro f w1 hb ⟨h29, _⟩ K hK
      replace h29 : f 29 = _ := h29
      simp only [over, overL, Nat.reduceAdd, h29]
      go_simp
      exact hK _ _ ⟨_, rfl, by simp only [over, overL, Nat.reduceAdd, h29]; rfl, Below.refl _ _⟩
  · intro fr w1 hb1 hv
    have h7 : fr 7 = .int .i64 G := hv.2.2.2.2.2.2.2.2.2.2.2.2.2.2.2.2.2.2.2.2.1
    have HB1 : Hid (Below w.heap.size w w1) := below_on HB0.out hb1
    have KR1 : Hid (Bk R (rgc r) w1) := KR0.out.later hb1
    simp only [over_eq, overL, h7, Nat.reduceAdd]
    clear hv h7 hb1 KP0 KQ0 KR0 HB0 HX HY HZ HG HH
    have q10 := KR1.out.c 10 rfl
    refine HKK.out _ _ ?_
    clear HKK
    go_wp2_with fail
    clear q10
    refine (HU.out _).mono ?_
    rintro e w2 ⟨rfl, hw2⟩
    subst w2
    by_cases h2 : 20000 ≤ m
    · have h3 : (20000 : Int) ≤ (m : Int) := by omega
      have q6 := KR1.out.c 6 rfl
      have q7 := KR1.out.c 7 rfl
      have q8 := KR1.out.c 8 rfl
      have q9 := KR1.out.c 9 rfl
      go_wp2_with fail
      clear q6 q7 q8 q9
      refine (HTa.out _).mono ?_
      rintro e w3 ⟨rfl, hb3⟩
      have HB3 : Hid (Below w.heap.size w w3) := below_on HB1.out hb3
      have KR3 : Hid (Bk R (rgc r) w3) := KR1.out.later hb3
      clear hb3 KR1 HB1
      have q6 := KR3.out.c 6 rfl
      have q7 := KR3.out.c 7 rfl
      have q8 := KR3.out.c 8 rfl
      have q9 := KR3.out.c 9 rfl
      go_wp2_with fail
      clear q6 q7 q8 q9
      refine (HTb.out _).mono ?_
      rintro e w4 ⟨rfl, hb4⟩
      have HB4 : Hid (Below w.heap.size w w4) := below_on HB3.out hb4
      clear hb4
      go_wp2
      go_ret
      exact ⟨rfl, HB4.out⟩
    · have h3 : ¬ (20000 : Int) ≤ (m : Int) := by omega
      have hk0 : k = 0 := by have := hk.out; omega
      have q6 := KR1.out.c 6 rfl
      have q7 := KR1.out.c 7 rfl
      have q8 := KR1.out.c 8 rfl
      have q9 := KR1.out.c 9 rfl
      go_wp2_with fail
      clear q6 q7 q8 q9
      refine (HTb.out _).mono ?_
      rintro e w4 ⟨rfl, hb4⟩
      have HB4 : Hid (Below w.heap.size w w4) := below_on HB1.out hb4
      clear hb4
      go_wp2
      go_ret
      exact ⟨ret_int (by rw [hk0]; simp), HB4.out⟩
end Go.Proofs.YtgahlhfgpkklaaaDoor
