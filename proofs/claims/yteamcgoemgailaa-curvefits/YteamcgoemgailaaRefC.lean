/- The document's answers for curves: within, CurveMay, CurveSteps, CurveVolume walked; knots copied. -/
import Derived.Test.YteamcgoemgailaaVol
import Derived.Maps.AppendAt
namespace Go.Proofs.Yteamcgoemgailaa
open Go.RowKit

theorem within_any (n lo hi : Int) (w : World) : Calls Try.prog 24 #[.int .i64 n, .int .i64 lo, .int .i64 hi] w fun e w' => e = .returned (.bool (decide (lo ≤ n) && decide (n ≤ hi))) ∧ w' = w := by
  go_enter Try.func24, Try.ntmps24
  go_wp2
  all_goals
    go_ret
    exact ⟨ret_bool (by first | (simp_all; done) | (simp_all; omega)), rfl⟩
theorem within_r (n lo hi : Int) (r : Bool) (h : (decide (lo ≤ n) && decide (n ≤ hi)) = r) (w : World) : Calls Try.prog 24 #[.int .i64 n, .int .i64 lo, .int .i64 hi] w fun e w' => e = .returned (.bool r) ∧ w' = w := by
  rw [← h]; exact within_any n lo hi w

set_option maxHeartbeats 6400000 in
theorem may_any (ao : Option Addr) (cap : Nat) (l : List Kn) (w : World) (hL : Kns w ao l) (hl : l.length ≤ 9223372036854775807) :
    Calls Try.prog 12 #[.slice ao l.length cap] w fun e w' => e = .returned (.int .i64 (chk l)) ∧ Below w.heap.size w w' := by
  have HL : Hid (Kns w ao l) := hL
  clear hL
  by_cases hn : l.length < 2 ∨ 50 < l.length
  · have HR : Hid (chk l = 7) := chk_count hn
    have HW : Hid ((decide ((2 : Int) ≤ (l.length : Int)) && decide ((l.length : Int) ≤ 50)) = false) := by
      show _ = false
      rw [Bool.and_eq_false_iff, decide_eq_false_iff_not, decide_eq_false_iff_not]; omega
    clear hn
    go_enter Try.func12, Try.ntmps12
    go_wp2_with fail
    refine (within_r _ 2 50 false HW.out w).mono ?_
    rintro e w' ⟨rfl, rfl⟩
    go_wp2
    go_ret
    exact ⟨ret_int HR.out.symm, Below.refl _ _⟩
  have HN : Hid (¬ (l.length < 2 ∨ 50 < l.length)) := hn
  have HW : Hid ((decide ((2 : Int) ≤ (l.length : Int)) && decide ((l.length : Int) ≤ 50)) = true) := by
    show _ = true
    rw [Bool.and_eq_true, decide_eq_true_eq, decide_eq_true_eq]; omega
  have hn2 : 2 ≤ l.length := by omega
  have hm2 : l.length ≤ 50 := by omega
  clear hn
  go_enter Try.func12, Try.ntmps12
  go_wp2_with fail
  refine (within_r _ 2 50 true HW.out w).mono ?_
  rintro e w' ⟨rfl, rfl⟩
  go_wp2
  go_loopw [3] (fun i wr => ∃ k : Nat, k ≤ l.length ∧ i = .int .i64 k ∧ (∀ b ∈ l.take k, outK b = false) ∧ Below w'.heap.size w' wr) (fun i _ => l.length - (intOf i).toNat)
  case atStart => exact ⟨0, Nat.zero_le _, rfl, (fun f hf => by simp at hf), Below.refl _ _⟩
  case round =>
    obtain ⟨k, hk, rfl, hok, hb⟩ := hrel
    obtain ⟨w1, rfl⟩ : ∃ w1, w1 = wr := ⟨_, rfl⟩
    have HB : Hid (Below w'.heap.size w' w1) := hb
    have HO : Hid (∀ b ∈ l.take k, outK b = false) := hok
    clear hb hok
    by_cases hlt : k < l.length
    · obtain ⟨b, off, rfl, hbx⟩ := (HL.out.next HB.out).at hlt
      have HHit : Hid (outK (l[k]'hlt) = true → chk l = 2) := fun h => chk_range HN.out (by rw [List.any_eq_true]; exact ⟨_, List.getElem_mem hlt, h⟩)
      have HMiss : Hid (outK (l[k]'hlt) = false → ∀ b ∈ l.take (k + 1), outK b = false) := take_succ_all hlt HO.out
      generalize l[k]'hlt = a at *
      obtain ⟨_, c0, c1⟩ := hbx
      obtain ⟨v, s⟩ := a
      simp only at c0 c1
      by_cases hv : 0 ≤ v ∧ v ≤ 1000000000
      · have HV : Hid ((decide ((0 : Int) ≤ v) && decide (v ≤ 1000000000)) = true) := by show _ = true; simp [hv.1, hv.2]
        by_cases hs : 0 ≤ s ∧ s ≤ 1000000000
        · have HS : Hid ((decide ((0 : Int) ≤ s) && decide (s ≤ 1000000000)) = true) := by show _ = true; simp [hs.1, hs.2]
          go_wp2_with fail
          refine (within_r v 0 1000000000 true HV.out w1).mono ?_
          rintro e w2 ⟨rfl, rfl⟩
          go_wp2_with fail
          refine (within_r s 0 1000000000 true HS.out w2).mono ?_
          rintro e w1 ⟨rfl, rfl⟩
          go_wp2
          go_roundw
          case rel => exact ⟨k + 1, by omega, by go_num, HMiss.out (outK_no.2 ⟨hv, hs⟩), HB.out⟩
          case measure => simp [intOf]; omega
        · have HS : Hid ((decide ((0 : Int) ≤ s) && decide (s ≤ 1000000000)) = false) := by
            show _ = false
            rw [Bool.and_eq_false_iff, decide_eq_false_iff_not, decide_eq_false_iff_not]; omega
          have HR : Hid (chk l = 2) := HHit.out (by
            cases h : outK ⟨v, s⟩ with
            | true => rfl
            | false => exact absurd (outK_no.1 h).2 hs)
          clear hs
          go_wp2_with fail
          refine (within_r v 0 1000000000 true HV.out w1).mono ?_
          rintro e w2 ⟨rfl, rfl⟩
          go_wp2_with fail
          refine (within_r s 0 1000000000 false HS.out w2).mono ?_
          rintro e w1 ⟨rfl, rfl⟩
          go_wp2
          go_ret
          exact ⟨ret_int HR.out.symm, HB.out⟩
      · have HV : Hid ((decide ((0 : Int) ≤ v) && decide (v ≤ 1000000000)) = false) := by
          show _ = false
          rw [Bool.and_eq_false_iff, decide_eq_false_iff_not, decide_eq_false_iff_not]; omega
        have HR : Hid (chk l = 2) := HHit.out (by
          cases h : outK ⟨v, s⟩ with
          | true => rfl
          | false => exact absurd (outK_no.1 h).1 hv)
        clear hv
        go_wp2_with fail
        refine (within_r v 0 1000000000 false HV.out w1).mono ?_
        rintro e w2 ⟨rfl, rfl⟩
        go_wp2
        go_ret
        exact ⟨ret_int HR.out.symm, HB.out⟩
    · have HA : Hid (l.any outK = false) := by
        show _ = false
        rw [List.any_eq_false]
        intro b hb
        have := HO.out b (by rw [List.take_of_length_le (by omega)]; exact hb)
        simp [this]
      clear HO
      go_wp2
      go_loopw [4] (fun i wr => ∃ k : Nat, 1 ≤ k ∧ k ≤ l.length ∧ i = .int .i64 k ∧ (∀ j, j + 1 < k → cv l j < cv l (j + 1) ∧ cs l j < cs l (j + 1)) ∧ Below w'.heap.size w' wr) (fun i _ => l.length - (intOf i).toNat)
      case atStart => exact ⟨1, Nat.le_refl _, by omega, rfl, (fun f hf => by omega), HB.out⟩
      case round =>
        obtain ⟨k, hk1, hk, rfl, hok, hb⟩ := hrel
        have HB2 : Hid (Below w'.heap.size w' wr) := hb
        have HO : Hid (∀ j, j + 1 < k → cv l j < cv l (j + 1) ∧ cs l j < cs l (j + 1)) := hok
        clear hb hok HB
        obtain ⟨j, rfl⟩ : ∃ j, k = j + 1 := ⟨k - 1, by omega⟩
        by_cases hlt2 : j + 1 < l.length
        · have e0 := (HL.out.next HB2.out).at (k := j) (by omega)
          have e1 := (HL.out.next HB2.out).at (k := j + 1) (by omega)
          obtain ⟨b, off, rfl, _, c0, c1⟩ := e0
          obtain ⟨b', off', e, _, d0, d1⟩ := e1
          injection e with e
          injection e with e e'
          subst e e'
          rw [← cv_at] at c0 d0
          rw [← cs_at] at c1 d1
          have HX : Hid (¬ (cv l j < cv l (j + 1) ∧ cs l j < cs l (j + 1)) → chk l = 15) := fun h => chk_order HN.out HA.out fun h2 => h (h2 j (by omega))
          have HY : Hid (cv l j < cv l (j + 1) ∧ cs l j < cs l (j + 1) → ∀ i, i + 1 < j + 1 + 1 → cv l i < cv l (i + 1) ∧ cs l i < cs l (i + 1)) := by
            intro h i hi
            by_cases e : i = j
            · subst e; exact h
            · exact HO.out i (by omega)
          generalize cv l j = v0 at *
          generalize cv l (j + 1) = v1 at *
          generalize cs l j = s0 at *
          generalize cs l (j + 1) = s1 at *
          by_cases hv : v0 < v1
          · have tv : decide (v1 ≤ v0) = false := decide_eq_false (by omega)
            by_cases hs : s0 < s1
            · have ts : decide (s1 ≤ s0) = false := decide_eq_false (by omega)
              go_wp2_with fail
              go_big_quiet (fail)
              go_wp2
              go_roundw
              case rel => exact ⟨j + 1 + 1, by omega, by omega, by go_num, HY.out ⟨hv, hs⟩, below_drewN HB2.out _⟩
              case measure => simp [intOf]; omega
            · have ts : decide (s1 ≤ s0) = true := decide_eq_true (by omega)
              go_wp2_with fail
              go_big_quiet (fail)
              go_wp2
              go_ret
              exact ⟨ret_int (HX.out (by omega)).symm, below_drewN HB2.out _⟩
          · have tv : decide (v1 ≤ v0) = true := decide_eq_true (by omega)
            go_wp2_with fail
            go_big_quiet (fail)
            go_wp2
            go_ret
            exact ⟨ret_int (HX.out (by omega)).symm, below_drewN HB2.out _⟩
        · have HS : Hid (Rises l) := fun i hi => HO.out i (by omega)
          obtain ⟨b, off, rfl, _, c0, c1⟩ := (HL.out.next HB2.out).at (k := 0) (by omega)
          rw [← cv_at] at c0
          rw [← cs_at] at c1
          rw [Nat.zero_mul, Nat.add_zero] at c0 c1
          have HZ : Hid (∀ x y : Bool, (x = true ↔ cv l 0 = 0) → (y = true ↔ cs l 0 = 0) → chk l = if x && y then 0 else 1) := by
            intro x y hx hy
            split
            · rename_i h; rw [Bool.and_eq_true, hx, hy] at h; exact chk_fine HN.out HA.out HS.out h
            · rename_i h; rw [Bool.and_eq_true, hx, hy] at h; exact chk_form HN.out HA.out HS.out h
          generalize cv l 0 = v at *
          generalize cs l 0 = s at *
          by_cases hv : v = 0
          · by_cases hs : s = 0
            · have HR : Hid (chk l = 0) := HZ.out true true (by simp [hv]) (by simp [hs])
              clear HZ
              subst hv hs
              go_wp2
              go_ret
              exact ⟨ret_int HR.out.symm, HB2.out⟩
            · have HR : Hid (chk l = 1) := HZ.out true false (by simp [hv]) (by simp [hs])
              have ts : (s == 0) = false := by simp [hs]
              clear HZ hs
              subst hv
              go_wp2
              go_ret
              exact ⟨ret_int HR.out.symm, HB2.out⟩
          · have HR : Hid (chk l = 1) := HZ.out false (decide (s = 0)) (by simp [hv]) (by simp)
            have tv : (v == 0) = false := by simp [hv]
            clear HZ hv
            go_wp2
            go_ret
            exact ⟨ret_int HR.out.symm, HB2.out⟩
end Go.Proofs.Yteamcgoemgailaa
