/- space.Hull walked. -/
import Derived.Test.YtiafcgbohckmmaaIs
namespace Go.Proofs.Ytiafcgbohckmmaa
open Go.RowKit

set_option maxHeartbeats 3200000 in
set_option maxRecDepth 100000 in
theorem fhull_any (a b : Bx) (w : World) : Calls Try.prog 10 #[bv a, bv b] w fun e w' => e = .returned (.tuple #[bv (hullR a b).1, .int .i64 (hullR a b).2]) ∧ Below w.heap.size w w' := by
  obtain ⟨w0, hw0⟩ : ∃ w0, w0 = (((w.alloc (bo a)).alloc (bo b)).alloc (bo zB)) := ⟨_, rfl⟩
  have HW0 : Hid (w0 = (((w.alloc (bo a)).alloc (bo b)).alloc (bo zB))) := hw0
  have HB0 : Hid (Below w.heap.size w w0) := by
    show Below _ _ _
    rw [hw0]
    exact (((Below.refl _ _).alloc (Nat.le_refl _) _).alloc (by simp) _).alloc (by simp; omega) _
  have HA : Hid (Bf w.heap.size a w0) := by
    show Bf _ _ _
    rw [hw0]
    exact (Bf.new w a).later (((Below.refl _ _).alloc (Nat.le_refl _) _).alloc (by simp) _)
  have HC : Hid (Bf (w.heap.size + 1) b w0) := by
    show Bf _ _ _
    rw [hw0]
    have h := (Bf.new (w.alloc (bo a)) b).later ((Below.refl _ _).alloc (Nat.le_refl _) (bo zB))
    simpa using h
  have HZ : Hid (Bf (w.heap.size + 1 + 1) zB w0) := by
    show Bf _ _ _
    rw [hw0]
    have h := Bf.new ((w.alloc (bo a)).alloc (bo b)) zB
    simpa using h
  have HS : Hid (w0.heap.size = w.heap.size + 1 + 1 + 1) := by show _ = _; rw [hw0]; simp
  clear hw0
  have hal : Below w0.heap.size w0 (w0.alloc (bo2 a b)) := (Below.refl _ _).alloc (Nat.le_refl _) _
  by_cases hr : badL [a, b] = 0
  · have HR : Hid (badL [a, b] = 0) := hr
    have HQ : Hid (hullR a b = (hullB a b, 0)) := if_pos hr
    clear hr
    go_enter Try.func10, Try.ntmps10
    go_wp2_with fail
    rw [← HW0.out]
    refine (refusal2 a b w0 (w.heap.size + 1 + 1 + 1) HS.out.symm).mono ?_
    rintro e w1 ⟨rfl, hb1⟩
    rw [HR.out]
    have hb : Below w0.heap.size w0 w1 := hal.trans (hb1.mono hal.size)
    have HB1 : Hid (Below w.heap.size w w1) := HB0.out.trans (hb.mono HB0.out.size)
    have hA := HA.out.later hb
    have hC := HC.out.later hb
    have HZ1 : Hid (Bf (w.heap.size + 1 + 1) zB w1) := HZ.out.later hb
    clear hb1 hb
    obtain ⟨⟨_, p0, p1, p2, p3, p4, p5⟩, pf0, pf1, pf2, pf3, pf4, pf5⟩ := hA
    simp only [Nat.zero_add] at p1 p2 p3 p4 p5
    obtain ⟨⟨_, q0, q1, q2, q3, q4, q5⟩, qf0, qf1, qf2, qf3, qf4, qf5⟩ := hC
    simp only [Nat.zero_add] at q1 q2 q3 q4 q5
    go_wp2_with fail
    refine (hull_any a b w1).mono ?_
    rintro e w2 ⟨rfl, hb2⟩
    have HB2 : Hid (Below w.heap.size w w2) := HB1.out.trans (hb2.mono HB1.out.size)
    have hZ := HZ1.out.later hb2
    clear hb2
    obtain ⟨⟨_, r0, r1, r2, r3, r4, r5⟩, rf0, rf1, rf2, rf3, rf4, rf5⟩ := hZ
    simp only [Nat.zero_add] at r1 r2 r3 r4 r5
    go_wp2
    refine bodyPost_ret (v := .tuple #[bv (hullB a b), .int .i64 0]) (by simp [results, Try.results10, go_sem, r0, r1, r2, r3, r4, r5]) rfl ⟨by rw [HQ.out], ?_⟩
    exact below_put6 (a := (hullB a b)) HB2.out (by omega)
  · have hne : (badL [a, b] != 0) = true := by simp [hr]
    have HQ : Hid (hullR a b = (zB, badL [a, b])) := if_neg hr
    clear hr
    go_enter Try.func10, Try.ntmps10
    go_wp2_with fail
    rw [← HW0.out]
    refine (refusal2 a b w0 (w.heap.size + 1 + 1 + 1) HS.out.symm).mono ?_
    rintro e w1 ⟨rfl, hb1⟩
    have hb : Below w0.heap.size w0 w1 := hal.trans (hb1.mono hal.size)
    have HB1 : Hid (Below w.heap.size w w1) := HB0.out.trans (hb.mono HB0.out.size)
    have hZ := HZ.out.later hb
    clear hb1 hb
    obtain ⟨⟨_, r0, r1, r2, r3, r4, r5⟩, rf0, rf1, rf2, rf3, rf4, rf5⟩ := hZ
    simp only [Nat.zero_add] at r1 r2 r3 r4 r5
    go_wp2
    refine bodyPost_ret (v := .tuple #[bv zB, .int .i64 (badL [a, b])]) (by simp [results, Try.results10, go_sem, r0, r1, r2, r3, r4, r5]) rfl ⟨by rw [HQ.out], ?_⟩
    exact below_put6 (a := zB) HB1.out (by omega)
end Go.Proofs.Ytiafcgbohckmmaa
