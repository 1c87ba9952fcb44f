/- CommandMay of the document walked. -/
import Derived.Test.YtgahlhfgpkklaaaDoorGBH
namespace Go.Proofs.YtgahlhfgpkklaaaDoor
open Go.RowKit Go.Maps

theorem chk_used {k x y z v : Int} (h1 : 1 ≤ k) (h8 : k ≤ 8) (hr : inRg x y z v = true) : chkC k x y z v = if (k ≠ 2 ∧ (x ≠ 0 ∨ y ≠ 0 ∨ z ≠ 0)) ∨ ((k = 1 ∨ k = 2 ∨ k = 4 ∨ k = 5) ∧ v ≠ 0) then 1 else 0 := by
  have hk : k = 1 ∨ k = 2 ∨ k = 3 ∨ k = 4 ∨ k = 5 ∨ k = 6 ∨ k = 7 ∨ k = 8 := by omega
  unfold chkC
  rw [if_neg (by omega), if_neg (by rw [hr]; simp)]
  rcases hk with rfl | rfl | rfl | rfl | rfl | rfl | rfl | rfl <;> by_cases hx : x = 0 <;> by_cases hy : y = 0 <;> by_cases hz : z = 0 <;> by_cases hv : v = 0 <;> simp [usedC, letW, hx, hy, hz, hv]
theorem inRg_pt (x y z v : Int) : inRg x y z v = (ptM ⟨x, y, z⟩ && inR 0 1000000000 v) := by
  rw [Bool.eq_iff_iff]
  simp only [inRg_iff, ptM, Bool.and_eq_true, inR_iff]
  constructor
  · rintro ⟨a, b, c, d⟩
    exact ⟨⟨a, b, c⟩, d⟩
  · rintro ⟨⟨a, b, c⟩, d⟩
    exact ⟨a, b, c, d⟩
set_option maxHeartbeats 6400000 in
set_option maxRecDepth 100000 in
theorem commandMay_any (c : Cm) (w : World) : Calls Tryd.prog 32 #[cmv c] w fun e w' => e = .returned (.int .i64 (chkM c)) ∧ Below w.heap.size w w' := by
  obtain ⟨k, x, y, z, v⟩ := c
  show Calls Tryd.prog 32 #[.agg #[.int .i64 k, .int .i64 x, .int .i64 y, .int .i64 z, .int .i64 v]] w fun e w' => e = .returned (.int .i64 (chkC k x y z v)) ∧ Below w.heap.size w w'
  obtain ⟨N, hN⟩ : ∃ N, N = chkC k x y z v := ⟨_, rfl⟩
  rw [← hN]
  have HN : Hid (N = chkC k x y z v) := hN
  clear hN
  have HC : Hid (∀ x lo hi W, Calls Tryd.prog 27 #[.int .i64 x, .int .i64 lo, .int .i64 hi] W fun e w' => e = .returned (.bool (inR lo hi x)) ∧ w' = W) := withinRef_any
  have HP : Hid (∀ W, Calls Tryd.prog 24 #[.agg #[.int .i64 x, .int .i64 y, .int .i64 z]] W fun e w' => e = .returned (.bool (ptM ⟨x, y, z⟩)) ∧ Below W.heap.size W w') := fun W => pointMay_any ⟨x, y, z⟩ W
  obtain ⟨w0, hw0⟩ : ∃ a, a = w.alloc (o5 k x y z v) := ⟨_, rfl⟩
  have HB0 : Hid (Below w.heap.size w w0) := by show Below _ _ _; rw [hw0]; exact one_new _ _
  have KC0 : Hid (Bk w.heap.size (c5 k x y z v) w0) := by show Bk _ _ _; rw [hw0]; exact Bk.new w (c5 k x y z v) 31 w.heap.size rfl
  obtain ⟨C, hC⟩ : ∃ b, b = w.heap.size := ⟨_, rfl⟩
  rw [← hC] at KC0
  go_enter Tryd.func32, Tryd.ntmps32
  go_wp2_with fail
  simp only [show w.alloc (.cells #[.int .i64 k, .int .i64 x, .int .i64 y, .int .i64 z, .int .i64 v] 31) = w0 from hw0.symm]
  simp only [← hC]
  clear hw0 hC
  refine (HC.out _ _ _ _).mono ?_
  rintro e w1 ⟨rfl, hw1⟩
  subst w1
  cases h1 : inR 1 8 k with
  | false =>
    go_wp2
    go_ret
    refine ⟨ret_int ?_, HB0.out⟩
    have h2 : ¬ (1 ≤ k ∧ k ≤ 8) := fun h => by rw [inR_yes h.1 h.2] at h1; cases h1
    rw [HN.out]
    unfold chkC
    rw [if_pos (by omega)]
  | true =>
    have hk := inR_iff.1 h1
    have q0 := KC0.out.c 0 rfl
    have q1 := KC0.out.c 1 rfl
    have q2 := KC0.out.c 2 rfl
    have q3 := KC0.out.c 3 rfl
    have q4 := KC0.out.c 4 rfl
    go_wp2_with fail
    clear q0 q1 q2 q3 q4
    refine (HP.out _).mono ?_
    rintro e w1 ⟨rfl, hb1⟩
    have HB1 : Hid (Below w.heap.size w w1) := below_on HB0.out hb1
    have KC1 : Hid (Bk C (c5 k x y z v) w1) := KC0.out.later hb1
    clear hb1 HB0 KC0
    have q0 := KC1.out.c 0 rfl
    have q1 := KC1.out.c 1 rfl
    have q2 := KC1.out.c 2 rfl
    have q3 := KC1.out.c 3 rfl
    have q4 := KC1.out.c 4 rfl
    clear KC1 HP
    cases h2 : ptM ⟨x, y, z⟩ with
    | false =>
      go_wp2
      go_ret
      refine ⟨ret_int ?_, HB1.out⟩
      rw [HN.out]
      unfold chkC
      rw [if_neg (by omega), inRg_pt, h2]
      rfl
    | true =>
      go_wp2_with fail
      refine (HC.out _ _ _ _).mono ?_
      rintro e w2 ⟨rfl, hw2⟩
      subst w2
      cases h3 : inR 0 1000000000 v with
      | false =>
        go_wp2
        go_ret
        refine ⟨ret_int ?_, HB1.out⟩
        rw [HN.out]
        unfold chkC
        rw [if_neg (by omega), inRg_pt, h2, h3]
        rfl
      | true =>
        have HU := (show Hid _ from HN.out.trans (chk_used hk.1 hk.2 (by rw [inRg_pt, h2, h3]; rfl)))
        clear h1 h2 h3 HC HN
        have HN := HU
        clear HU
        by_cases k2 : k = 2
        · subst k2
          by_cases hv : v = 0
          · (go_wp2; all_goals first | (go_ret; exact ⟨ret_int (by rw [HN.out, if_neg (by omega)]), HB1.out⟩) | (exfalso; clear HN HB1 q0 q1 q2 q3 q4; simp_all; done))
          · have hv2 : (v != 0) = true := by simp [hv]
            (go_wp2; all_goals first | (go_ret; exact ⟨ret_int (by rw [HN.out, if_pos (by simp [hv])]), HB1.out⟩) | (exfalso; clear HN HB1 q0 q1 q2 q3 q4; simp_all; done))
        · have hk2 : (k != 2) = true := by simp [k2]
          by_cases hx : x = 0
          · by_cases hy : y = 0
            · by_cases hz : z = 0
              · by_cases k3 : k = 3
                · subst k3
                  (go_wp2; all_goals first | (go_ret; exact ⟨ret_int (by rw [HN.out, if_neg (by omega)]), HB1.out⟩) | (exfalso; clear HN HB1 q0 q1 q2 q3 q4; simp_all; done))
                · by_cases k6 : k = 6
                  · subst k6
                    (go_wp2; all_goals first | (go_ret; exact ⟨ret_int (by rw [HN.out, if_neg (by omega)]), HB1.out⟩) | (exfalso; clear HN HB1 q0 q1 q2 q3 q4; simp_all; done))
                  · by_cases k7 : k = 7
                    · subst k7
                      (go_wp2; all_goals first | (go_ret; exact ⟨ret_int (by rw [HN.out, if_neg (by omega)]), HB1.out⟩) | (exfalso; clear HN HB1 q0 q1 q2 q3 q4; simp_all; done))
                    · by_cases k8 : k = 8
                      · subst k8
                        (go_wp2; all_goals first | (go_ret; exact ⟨ret_int (by rw [HN.out, if_neg (by omega)]), HB1.out⟩) | (exfalso; clear HN HB1 q0 q1 q2 q3 q4; simp_all; done))
                      · have e3 : (k == 3) = false := by simp [k3]
                        have e6 : (k == 6) = false := by simp [k6]
                        have e7 : (k == 7) = false := by simp [k7]
                        have e8 : (k == 8) = false := by simp [k8]
                        by_cases hv : v = 0
                        · (go_wp2; all_goals first | (go_ret; exact ⟨ret_int (by rw [HN.out, if_neg (by omega)]), HB1.out⟩) | (exfalso; clear HN HB1 q0 q1 q2 q3 q4; simp_all; done))
                        · have hv2 : (v != 0) = true := by simp [hv]
                          (go_wp2; all_goals first | (go_ret; exact ⟨ret_int (by rw [HN.out, if_pos (by omega)]), HB1.out⟩) | (exfalso; clear HN HB1 q0 q1 q2 q3 q4; simp_all; done))
              · have hz2 : (z != 0) = true := by simp [hz]
                (go_wp2; all_goals first | (go_ret; exact ⟨ret_int (by rw [HN.out, if_pos (by omega)]), HB1.out⟩) | (exfalso; clear HN HB1 q0 q1 q2 q3 q4; simp_all; done))
            · have hy2 : (y != 0) = true := by simp [hy]
              (go_wp2; all_goals first | (go_ret; exact ⟨ret_int (by rw [HN.out, if_pos (by omega)]), HB1.out⟩) | (exfalso; clear HN HB1 q0 q1 q2 q3 q4; simp_all; done))
          · have hx2 : (x != 0) = true := by simp [hx]
            (go_wp2; all_goals first | (go_ret; exact ⟨ret_int (by rw [HN.out, if_pos (by omega)]), HB1.out⟩) | (exfalso; clear HN HB1 q0 q1 q2 q3 q4; simp_all; done))
end Go.Proofs.YtgahlhfgpkklaaaDoor
