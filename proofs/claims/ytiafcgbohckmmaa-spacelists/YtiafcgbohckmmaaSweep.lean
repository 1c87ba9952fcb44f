/- space.Sweep walked. -/
import Derived.Test.YtiafcgbohckmmaaMove
namespace Go.Proofs.Ytiafcgbohckmmaa
open Go.RowKit

theorem move_r (a : Bx) (p : Pt) (m : Bx) (r : Int) (h : moveR a p = (m, r)) (w : World) : Calls Try.prog 11 #[bv a, pv p] w fun e w' => e = .returned (.tuple #[bv m, .int .i64 r]) ∧ Below w.heap.size w w' := by
  have := move_any a p w
  rw [h] at this
  exact this
set_option maxHeartbeats 3200000 in
set_option maxRecDepth 100000 in
theorem sweep_bad (a m : Bx) (p : Pt) (er : Int) (w : World) (hm : moveR a p = (m, er)) (hr : er ≠ 0) :
    Calls Try.prog 12 #[bv a, pv p] w fun e w' => e = .returned (.tuple #[bv (zB), .int .i64 (er)]) ∧ Below w.heap.size w w' := by
  have HM : Hid (moveR a p = (m, er)) := hm
  have hne : (er != 0) = true := by simp [hr]
  clear hr hm
  have HB0 : Hid (Below w.heap.size w w) := Below.refl _ _
  go_enter Try.func12, Try.ntmps12
  go_wp2_with fail
  refine (move_r a p m er HM.out _).mono ?_
  rintro e w1 ⟨rfl, hb1⟩
  have hal : Below w.heap.size w (((w.alloc (bo (a))).alloc (po (p))).alloc (bo (zB))) := (below_grow _ (Nat.le_refl _) (below_grow _ (Nat.le_refl _) (below_grow _ (Nat.le_refl _) (Below.refl _ _) _) _) _)
  have hn : Below w.heap.size w w1 := hal.trans (hb1.mono hal.size)
  have HB1 : Hid (Below w.heap.size w w1) := HB0.out.trans (hn.mono HB0.out.size)
  have Ka1 : Hid (Bf (w.heap.size) (a) w1) := by
    have h := ((Bf.new w (a)).later (below_grow _ (Nat.le_refl _) (below_grow _ (Nat.le_refl _) (Below.refl _ _) _) _)).later hb1
    show Bf _ _ _
    simpa using h
  have Kp1 : Hid (Pf (w.heap.size + 1) (p) w1) := by
    have h := ((Pf.new (w.alloc (bo (a))) (p)).later (below_grow _ (Nat.le_refl _) (Below.refl _ _) _)).later hb1
    show Pf _ _ _
    simpa using h
  have Kr1 : Hid (Bf (w.heap.size + 1 + 1) (zB) w1) := by
    have h := ((Bf.new ((w.alloc (bo (a))).alloc (po (p))) (zB)).later (Below.refl _ _)).later hb1
    show Bf _ _ _
    simpa using h
  clear hal hn hb1
  obtain ⟨⟨rl, r0, r1, r2, r3, r4, r5⟩, rf0, rf1, rf2, rf3, rf4, rf5⟩ := Kr1.out
  simp only [Nat.zero_add] at r1 r2 r3 r4 r5
  go_wp2
  clear rl r0 r1 r2 r3 r4 r5 rf0 rf1 rf2 rf3 rf4 rf5
  have HB2 : Hid (Below w.heap.size w ((put6 w1 (w.heap.size + 1 + 1) zB).alloc (bo m))) := below_grow _ (Nat.le_refl _) (below_put6 HB1.out (by omega)) _
  have hz := (Kr1.out.put zB).later ((Below.refl _ _).alloc (Nat.le_refl _) (bo m))
  generalize (put6 w1 (w.heap.size + 1 + 1) zB).alloc (bo m) = w2 at *
  obtain ⟨⟨_, r0, r1, r2, r3, r4, r5⟩, _⟩ := hz
  simp only [Nat.zero_add] at r1 r2 r3 r4 r5
  refine bodyPost_ret (v := .tuple #[bv (zB), .int .i64 (er)]) (by simp [results, Try.results12, go_sem, r0, r1, r2, r3, r4, r5]) rfl ⟨rfl, ?_⟩
  exact HB2.out
set_option maxHeartbeats 3200000 in
set_option maxRecDepth 100000 in
theorem sweep_kind (a m : Bx) (p : Pt) (w : World) (hm : moveR a p = (m, 0)) (hs : straight p = false) :
    Calls Try.prog 12 #[bv a, pv p] w fun e w' => e = .returned (.tuple #[bv (zB), .int .i64 (6)]) ∧ Below w.heap.size w w' := by
  have HM : Hid (moveR a p = (m, 0)) := hm
  have HT : Hid (straight p = false) := hs
  clear hm hs
  have HB0 : Hid (Below w.heap.size w w) := Below.refl _ _
  go_enter Try.func12, Try.ntmps12
  go_wp2_with fail
  refine (move_r a p m 0 HM.out _).mono ?_
  rintro e w1 ⟨rfl, hb1⟩
  have hal : Below w.heap.size w (((w.alloc (bo (a))).alloc (po (p))).alloc (bo (zB))) := (below_grow _ (Nat.le_refl _) (below_grow _ (Nat.le_refl _) (below_grow _ (Nat.le_refl _) (Below.refl _ _) _) _) _)
  have hn : Below w.heap.size w w1 := hal.trans (hb1.mono hal.size)
  have HB1 : Hid (Below w.heap.size w w1) := HB0.out.trans (hn.mono HB0.out.size)
  have Ka1 : Hid (Bf (w.heap.size) (a) w1) := by
    have h := ((Bf.new w (a)).later (below_grow _ (Nat.le_refl _) (below_grow _ (Nat.le_refl _) (Below.refl _ _) _) _)).later hb1
    show Bf _ _ _
    simpa using h
  have Kp1 : Hid (Pf (w.heap.size + 1) (p) w1) := by
    have h := ((Pf.new (w.alloc (bo (a))) (p)).later (below_grow _ (Nat.le_refl _) (Below.refl _ _) _)).later hb1
    show Pf _ _ _
    simpa using h
  have Kr1 : Hid (Bf (w.heap.size + 1 + 1) (zB) w1) := by
    have h := ((Bf.new ((w.alloc (bo (a))).alloc (po (p))) (zB)).later (Below.refl _ _)).later hb1
    show Bf _ _ _
    simpa using h
  clear hal hn hb1
  obtain ⟨pl, p0, p1, p2⟩ := Kp1.out
  go_wp2_with fail
  refine (isStraight_r p false HT.out _).mono ?_
  rintro e w2 ⟨rfl, hb2⟩
  clear pl p0 p1 p2
  have hal : Below w1.heap.size w1 (w1.alloc (bo (m))) := (below_grow _ (Nat.le_refl _) (Below.refl _ _) _)
  have hn : Below w1.heap.size w1 w2 := hal.trans (hb2.mono hal.size)
  have HB2 : Hid (Below w.heap.size w w2) := HB1.out.trans (hn.mono HB1.out.size)
  have Ka2 : Hid (Bf (w.heap.size) (a) w2) := Ka1.out.later hn
  have Kp2 : Hid (Pf (w.heap.size + 1) (p) w2) := Kp1.out.later hn
  have Kr2 : Hid (Bf (w.heap.size + 1 + 1) (zB) w2) := Kr1.out.later hn
  have Km2 : Hid (Bf (w1.heap.size) (m) w2) := by
    have h := ((Bf.new w1 (m)).later (Below.refl _ _)).later hb2
    show Bf _ _ _
    simpa using h
  clear hal hn hb2
  obtain ⟨⟨rl, r0, r1, r2, r3, r4, r5⟩, rf0, rf1, rf2, rf3, rf4, rf5⟩ := Kr2.out
  simp only [Nat.zero_add] at r1 r2 r3 r4 r5
  go_wp2
  refine bodyPost_ret (v := .tuple #[bv (zB), .int .i64 (6)]) (by simp [results, Try.results12, go_sem, r0, r1, r2, r3, r4, r5]) rfl ⟨rfl, ?_⟩
  exact below_put6 (a := zB) HB2.out (by omega)
set_option maxHeartbeats 3200000 in
set_option maxRecDepth 100000 in
theorem sweep_ok (a m : Bx) (p : Pt) (w : World) (hm : moveR a p = (m, 0)) (hs : straight p = true) :
    Calls Try.prog 12 #[bv a, pv p] w fun e w' => e = .returned (.tuple #[bv (hullB a m), .int .i64 (0)]) ∧ Below w.heap.size w w' := by
  have HM : Hid (moveR a p = (m, 0)) := hm
  have HT : Hid (straight p = true) := hs
  clear hm hs
  have HB0 : Hid (Below w.heap.size w w) := Below.refl _ _
  go_enter Try.func12, Try.ntmps12
  go_wp2_with fail
  refine (move_r a p m 0 HM.out _).mono ?_
  rintro e w1 ⟨rfl, hb1⟩
  have hal : Below w.heap.size w (((w.alloc (bo (a))).alloc (po (p))).alloc (bo (zB))) := (below_grow _ (Nat.le_refl _) (below_grow _ (Nat.le_refl _) (below_grow _ (Nat.le_refl _) (Below.refl _ _) _) _) _)
  have hn : Below w.heap.size w w1 := hal.trans (hb1.mono hal.size)
  have HB1 : Hid (Below w.heap.size w w1) := HB0.out.trans (hn.mono HB0.out.size)
  have Ka1 : Hid (Bf (w.heap.size) (a) w1) := by
    have h := ((Bf.new w (a)).later (below_grow _ (Nat.le_refl _) (below_grow _ (Nat.le_refl _) (Below.refl _ _) _) _)).later hb1
    show Bf _ _ _
    simpa using h
  have Kp1 : Hid (Pf (w.heap.size + 1) (p) w1) := by
    have h := ((Pf.new (w.alloc (bo (a))) (p)).later (below_grow _ (Nat.le_refl _) (Below.refl _ _) _)).later hb1
    show Pf _ _ _
    simpa using h
  have Kr1 : Hid (Bf (w.heap.size + 1 + 1) (zB) w1) := by
    have h := ((Bf.new ((w.alloc (bo (a))).alloc (po (p))) (zB)).later (Below.refl _ _)).later hb1
    show Bf _ _ _
    simpa using h
  clear hal hn hb1
  obtain ⟨pl, p0, p1, p2⟩ := Kp1.out
  go_wp2_with fail
  refine (isStraight_r p true HT.out _).mono ?_
  rintro e w2 ⟨rfl, hb2⟩
  clear pl p0 p1 p2
  have hal : Below w1.heap.size w1 (w1.alloc (bo (m))) := (below_grow _ (Nat.le_refl _) (Below.refl _ _) _)
  have hn : Below w1.heap.size w1 w2 := hal.trans (hb2.mono hal.size)
  have HB2 : Hid (Below w.heap.size w w2) := HB1.out.trans (hn.mono HB1.out.size)
  have Ka2 : Hid (Bf (w.heap.size) (a) w2) := Ka1.out.later hn
  have Kp2 : Hid (Pf (w.heap.size + 1) (p) w2) := Kp1.out.later hn
  have Kr2 : Hid (Bf (w.heap.size + 1 + 1) (zB) w2) := Kr1.out.later hn
  have Km2 : Hid (Bf (w1.heap.size) (m) w2) := by
    have h := ((Bf.new w1 (m)).later (Below.refl _ _)).later hb2
    show Bf _ _ _
    simpa using h
  clear hal hn hb2
  obtain ⟨⟨al, a0, a1, a2, a3, a4, a5⟩, af0, af1, af2, af3, af4, af5⟩ := Ka2.out
  simp only [Nat.zero_add] at a1 a2 a3 a4 a5
  obtain ⟨⟨ml, m0, m1, m2, m3, m4, m5⟩, mf0, mf1, mf2, mf3, mf4, mf5⟩ := Km2.out
  simp only [Nat.zero_add] at m1 m2 m3 m4 m5
  go_wp2_with fail
  refine (hull_any a m _).mono ?_
  rintro e w3 ⟨rfl, hb3⟩
  clear al a0 a1 a2 a3 a4 a5 af0 af1 af2 af3 af4 af5 ml m0 m1 m2 m3 m4 m5 mf0 mf1 mf2 mf3 mf4 mf5
  have hal : Below w2.heap.size w2 w2 := (Below.refl _ _)
  have hn : Below w2.heap.size w2 w3 := hal.trans (hb3.mono hal.size)
  have HB3 : Hid (Below w.heap.size w w3) := HB2.out.trans (hn.mono HB2.out.size)
  have Ka3 : Hid (Bf (w.heap.size) (a) w3) := Ka2.out.later hn
  have Kp3 : Hid (Pf (w.heap.size + 1) (p) w3) := Kp2.out.later hn
  have Kr3 : Hid (Bf (w.heap.size + 1 + 1) (zB) w3) := Kr2.out.later hn
  have Km3 : Hid (Bf (w1.heap.size) (m) w3) := Km2.out.later hn
  clear hal hn hb3
  obtain ⟨⟨rl, r0, r1, r2, r3, r4, r5⟩, rf0, rf1, rf2, rf3, rf4, rf5⟩ := Kr3.out
  simp only [Nat.zero_add] at r1 r2 r3 r4 r5
  go_wp2
  refine bodyPost_ret (v := .tuple #[bv (hullB a m), .int .i64 (0)]) (by simp [results, Try.results12, go_sem, r0, r1, r2, r3, r4, r5]) rfl ⟨rfl, ?_⟩
  exact below_put6 (a := hullB a m) HB3.out (by omega)
theorem sweep_any (a : Bx) (p : Pt) (w : World) : Calls Try.prog 12 #[bv a, pv p] w fun e w' => e = .returned (.tuple #[bv (sweepR a p).1, .int .i64 (sweepR a p).2]) ∧ Below w.heap.size w w' := by
  obtain ⟨⟨m, r⟩, hm⟩ : ∃ x, moveR a p = x := ⟨_, rfl⟩
  unfold sweepR
  rw [hm]
  by_cases hr : r = 0
  · subst hr
    rw [if_pos rfl]
    cases hs : straight p with
    | false => exact sweep_kind a m p w hm hs
    | true => exact sweep_ok a m p w hm hs
  · rw [if_neg hr]
    exact sweep_bad a m p r w hm hr
end Go.Proofs.Ytiafcgbohckmmaa
