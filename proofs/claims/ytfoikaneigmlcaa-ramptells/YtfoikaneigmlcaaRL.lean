/- RampTurned walked. -/
import Derived.Test.YtfoikaneigmlcaaRK
import Derived.Test.YtfoikaneigmlcaaRJ
import Derived.Test.YtfoikaneigmlcaaRH
namespace Go.Proofs.Ytfoikaneigmlcaa
open Go.RowKit

attribute [local go_sem] Oper.semAt_some
theorem five_sp : speedsL ⟨1000, 100, 300, 100⟩ 5 = [100, 200, 300, 200, 100] := by decide
set_option maxHeartbeats 6400000 in
set_option maxRecDepth 100000 in
theorem turned_any (r : Rp) (steps : Int) (w : World) (hs1 : -9223372036854775808 ≤ steps) (hs2 : steps ≤ 9223372036854775807) :
    Calls Try.prog 4 #[rv r, .int .i64 steps] w fun e w' => e = .returned (.bool true) ∧ Below w.heap.size w w' := by
  obtain ⟨p, hp, HP0⟩ : ∃ p : Nat, p < 300 ∧ Hid (∀ W, Calls Try.prog 17 #[.int .i64 steps, .int .i64 300] W fun e w' => e = .returned (.int .i64 (p : Int)) ∧ w' = W) := by
    obtain ⟨h1, h2⟩ := pkN_bd (n := steps) (of := 300) hs1 (by omega)
    refine ⟨(pkN steps 300).toNat, by omega, fun W => ?_⟩
    rw [Int.toNat_of_nonneg h1]
    exact picked_is steps 300 W hs1 hs2 (by omega)
  have HT5 : Hid (∀ W, Calls Try.prog 6 #[.agg #[.int .i64 1000, .int .i64 100, .int .i64 300, .int .i64 100], .int .i64 5] W fun e w' => ∃ G, e = .returned (.tuple #[.slice (some ⟨G, 0, none⟩) 5 5, .int .i64 0]) ∧ W.heap.size ≤ G ∧ Ints [100, 200, 300, 200, 100] G w' ∧ Below W.heap.size W w') := fun W => (speedsF_yes ⟨1000, 100, 300, 100⟩ 5 W (by decide) (by decide)).mono fun e w' ⟨G, h1, h2, h3, h4⟩ => ⟨G, h1, h2, by rw [five_sp] at h3; exact h3, h4⟩
  have HB0 : Hid (Below w.heap.size w (w.alloc (ro r))) := (Below.refl _ _).alloc (Nat.le_refl _) _
  have KA0 : Hid (Bk w.heap.size (rcl r) (w.alloc (ro r))) := Bk.new w (rcl r) 23 w.heap.size rfl
  have HNO : Hid (rpOk r = false → ∀ W, Calls Try.prog 6 #[rv r, .int .i64 (p : Int)] W fun e w' => e = .returned (.tuple #[.slice none 0 0, .int .i64 2]) ∧ Below W.heap.size W w') := fun h W => (speedsF_no r p W (by rw [refR_range h]; decide)).mono fun e w' ⟨h1, h2⟩ => ⟨by rw [h1, refR_range h], h2⟩
  have HYES : Hid (rpOk r = true → ∀ W, Calls Try.prog 6 #[rv r, .int .i64 (p : Int)] W fun e w' => ∃ G, e = .returned (.tuple #[.slice (some ⟨G, 0, none⟩) p p, .int .i64 0]) ∧ W.heap.size ≤ G ∧ Ints (speedsL r p) G w' ∧ Below W.heap.size W w') := fun h W => speedsF_yes r p W h (by omega)
  go_enter Try.func4, Try.ntmps4
  go_wp2_with fail
  refine Calls.mono (HT5.out _) ?_
  rintro e w1 ⟨G0, rfl, hG0, hI0, hb1⟩
  have HB1 : Hid (Below w.heap.size w w1) := HB0.out.trans (hb1.mono HB0.out.size)
  have KA1 : Hid (Bk w.heap.size (rcl r) w1) := KA0.out.later hb1
  have i2 := hI0.2 2 (by decide)
  have i4 := hI0.2 4 (by decide)
  simp only [List.getElem_cons_succ, List.getElem_cons_zero] at i2 i4
  clear hb1 hI0 hG0
  go_wp2_with fail
  clear i2 i4
  refine Calls.mono (HP0.out _) ?_
  rintro e w2 ⟨rfl, rfl⟩
  have a0 := KA1.out.c 0 rfl
  have a1 := KA1.out.c 1 rfl
  have a2 := KA1.out.c 2 rfl
  have a3 := KA1.out.c 3 rfl
  go_wp2_with fail
  clear a0 a1 a2 a3
  cases hok : rpOk r with
  | false =>
    refine Calls.mono (HNO.out hok _) ?_
    rintro e w2 ⟨rfl, hb2⟩
    have HB2 : Hid (Below w.heap.size w w2) := HB1.out.trans (hb2.mono HB1.out.size)
    clear hb2
    go_wp2
    go_ret
    exact ⟨rfl, HB2.out⟩
  | true =>
    refine Calls.mono (HYES.out hok _) ?_
    rintro e w2 ⟨G, rfl, hG, hI, hb2⟩
    have HB2 : Hid (Below w.heap.size w w2) := HB1.out.trans (hb2.mono HB1.out.size)
    have KA2 : Hid (Bk w.heap.size (rcl r) w2) := KA1.out.later hb2
    have HI : Hid (Ints (speedsL r p) G w2) := hI
    have HOK : Hid (rpOk r = true) := hok
    clear hok hb2 hI hG
    go_wp2_with fail
    go_loopw [9] (fun i wr => ∃ k : Nat, k ≤ p ∧ i = .int .i64 ((k : Nat) : Int) ∧ ∃ q, wr = w2.drewN q) (fun i _ => p - (intOf i).toNat)
    case atStart => exact ⟨0, Nat.zero_le _, rfl, 0, rfl⟩
    case round =>
      obtain ⟨k, hk, rfl, q, rfl⟩ := hrel
      by_cases hlt : k < p
      · have hkl : k < (speedsL r p).length := by rw [speedsL_length]; exact hlt
        obtain ⟨j, hj⟩ : ∃ j, j = p - 1 - k := ⟨_, rfl⟩
        have hjl : j < (speedsL r p).length := by rw [speedsL_length]; omega
        obtain ⟨x, hx⟩ : ∃ x, x = (speedsL r p)[k]'hkl := ⟨_, rfl⟩
        have c1 := HI.out.2 k hkl
        have c2 := HI.out.2 j hjl
        have e2 : (speedsL r p)[j]'hjl = x := by rw [hx]; subst hj; exact speedsL_back r p hlt
        have hbd := speedsL_bd HOK.out (by omega) hkl
        rw [e2] at c2
        rw [← hx] at c1 hbd
        obtain ⟨hb1, hb2⟩ := hbd
        have HJ : Hid (j = p - 1 - k) := hj
        have a1 := KA2.out.c 1 rfl
        have a2 := KA2.out.c 2 rfl
        have d1 : decide (x < r.f) = false := decide_eq_false (by omega)
        have d2 : decide (r.m < x) = false := decide_eq_false (by omega)
        have hj2 : (p : Int) - 1 - k = (j : Int) := by omega
        have hj3 : j < p := by omega
        clear hx e2 hj
        go_wp2_with fail
        go_big_quiet (fail)
        go_wp2
        go_roundw
        case rel => exact ⟨k + 1, by omega, by go_num, q + nq, by first | rfl | simp⟩
        case measure => simp [intOf]; omega
      · have HBQ : Hid (Below w.heap.size w (w2.drewN q)) := ⟨HB2.out.os, HB2.out.tape, HB2.out.output, HB2.out.size, HB2.out.block⟩
        have KQ : Hid (Bk w.heap.size (rcl r) (w2.drewN q)) := KA2.out
        have HT1 : Hid (∀ W, Calls Try.prog 8 #[rv r, .int .i64 (p : Int)] W fun e w' => e = .returned (.tuple #[.int .i64 (totR r p), .int .i64 0]) ∧ Below W.heap.size W w') := fun W => total_yes r p W HOK.out (by omega)
        have HT2 : Hid (∀ W, Calls Try.prog 8 #[rv r, .int .i64 ((p : Int) + 1)] W fun e w' => e = .returned (.tuple #[.int .i64 (totR r (p + 1)), .int .i64 0]) ∧ Below W.heap.size W w') := fun W => total_yes r (p + 1) W HOK.out (by omega)
        have hbd := totR_bd HOK.out (n := p) (by omega)
        have HA1 : Hid (∀ W, Calls Try.prog 9 #[rv r, .int .i64 (p : Int), .int .i64 (totR r p)] W fun e w' => e = .returned (.tuple #[.int .i64 (p : Int), .int .i64 0]) ∧ Below W.heap.size W w') := fun W => (at_yes r p (totR r p) W HOK.out (by omega) hbd.1 (by omega)).mono fun e w' ⟨h1, h2⟩ => ⟨by rw [h1, at_tot HOK.out (by omega)], h2⟩
        have HL1 : Hid (∀ W, Calls Try.prog 10 #[rv r, .int .i64 (totR r p)] W fun e w' => e = .returned (.tuple #[.int .i64 (p : Int), .int .i64 0]) ∧ Below W.heap.size W w') := fun W => (longest_yes r (totR r p) W HOK.out hbd.1 (by omega)).mono fun e w' ⟨h1, h2⟩ => ⟨by rw [h1, longest_tot HOK.out (by omega)], h2⟩
        have HA2 : Hid (0 < p → ∀ W, Calls Try.prog 9 #[rv r, .int .i64 (p : Int), .int .i64 (totR r p - 1)] W fun e w' => e = .returned (.tuple #[.int .i64 (((p - 1 : Nat)) : Int), .int .i64 0]) ∧ Below W.heap.size W w') := fun h0 W => (at_yes r p (totR r p - 1) W HOK.out (by omega) (by have := tot_pos HOK.out (n := p) (by omega) h0; omega) (by omega)).mono fun e w' ⟨h1, h2⟩ => ⟨by rw [h1, at_less HOK.out (by omega) h0], h2⟩
        have hlt2 := totR_lt HOK.out (n := p) (by omega)
        have HZ : Hid (p = 0 → totR r p = 0) := fun h => by subst h; rfl
        obtain ⟨hbd0, hbd1⟩ := hbd
        have HLT : Hid (¬ k < p) := hlt
        generalize totR r (p + 1) = t2 at *
        generalize totR r p = t1 at *
        have a0 := KQ.out.c 0 rfl
        have a1 := KQ.out.c 1 rfl
        have a2 := KQ.out.c 2 rfl
        have a3 := KQ.out.c 3 rfl
        go_wp2_with fail
        clear a0 a1 a2 a3
        refine Calls.mono (HT1.out _) ?_
        rintro e w3 ⟨rfl, hb3⟩
        have HB3 : Hid (Below w.heap.size w w3) := HBQ.out.trans (hb3.mono HBQ.out.size)
        have K3 : Hid (Bk w.heap.size (rcl r) w3) := KQ.out.later hb3
        have a0 := K3.out.c 0 rfl
        have a1 := K3.out.c 1 rfl
        have a2 := K3.out.c 2 rfl
        have a3 := K3.out.c 3 rfl
        clear hb3
        go_wp2_with fail
        clear a0 a1 a2 a3
        refine Calls.mono (HT2.out _) ?_
        rintro e w4 ⟨rfl, hb4⟩
        have HB4 : Hid (Below w.heap.size w w4) := HB3.out.trans (hb4.mono HB3.out.size)
        have K4 : Hid (Bk w.heap.size (rcl r) w4) := K3.out.later hb4
        have a0 := K4.out.c 0 rfl
        have a1 := K4.out.c 1 rfl
        have a2 := K4.out.c 2 rfl
        have a3 := K4.out.c 3 rfl
        clear hb4
        go_wp2_with fail
        clear a0 a1 a2 a3
        refine Calls.mono (HA1.out _) ?_
        rintro e w5 ⟨rfl, hb5⟩
        have HB5 : Hid (Below w.heap.size w w5) := HB4.out.trans (hb5.mono HB4.out.size)
        have K5 : Hid (Bk w.heap.size (rcl r) w5) := K4.out.later hb5
        have a0 := K5.out.c 0 rfl
        have a1 := K5.out.c 1 rfl
        have a2 := K5.out.c 2 rfl
        have a3 := K5.out.c 3 rfl
        clear hb5
        go_wp2_with fail
        clear a0 a1 a2 a3
        refine Calls.mono (HL1.out _) ?_
        rintro e w6 ⟨rfl, hb6⟩
        have HB6 : Hid (Below w.heap.size w w6) := HB5.out.trans (hb6.mono HB5.out.size)
        have K6 : Hid (Bk w.heap.size (rcl r) w6) := K5.out.later hb6
        have a0 := K6.out.c 0 rfl
        have a1 := K6.out.c 1 rfl
        have a2 := K6.out.c 2 rfl
        have a3 := K6.out.c 3 rfl
        clear hb6
        by_cases h0 : p = 0
        · have HZ2 : Hid (t1 = 0) := HZ.out h0
          have hz := HZ2.out
          subst hz
          subst h0
          go_wp2
          go_ret
          exact ⟨rfl, HB6.out⟩
        · have HP1 : Hid (0 < p) := by show _ < _; omega
          have hp0 : (p : Int) ≠ 0 := by omega
          go_wp2_with fail
          clear a0 a1 a2 a3
          refine Calls.mono (HA2.out HP1.out _) ?_
          rintro e w7 ⟨rfl, hb7⟩
          have HB7 : Hid (Below w.heap.size w w7) := HB6.out.trans (hb7.mono HB6.out.size)
          have K7 : Hid (Bk w.heap.size (rcl r) w7) := K6.out.later hb7
          have a0 := K7.out.c 0 rfl
          have a1 := K7.out.c 1 rfl
          have a2 := K7.out.c 2 rfl
          have a3 := K7.out.c 3 rfl
          clear hb7
          obtain ⟨p', hp'⟩ : ∃ p', p' = p - 1 := ⟨_, rfl⟩
          have hpp : (p : Int) - 1 = ((p' : Nat) : Int) := by omega
          rw [← hp']
          go_wp2
          go_ret
          exact ⟨rfl, HB7.out⟩
end Go.Proofs.Ytfoikaneigmlcaa
