/- FirmMay of the document walked. -/
import Derived.Test.YtgahlhfgpkklaaaDoorGBH
namespace Go.Proofs.YtgahlhfgpkklaaaDoor
open Go.RowKit Go.Maps

set_option maxHeartbeats 6400000 in
set_option maxRecDepth 100000 in
theorem firmMay_any (r : Rg) (f : Fm) (w : World) : Calls Tryd.prog 12 #[rgv r, fv f] w fun e w' => e = .returned (.bool (fmOk r f)) ∧ Below w.heap.size w w' := by
  have HC : Hid (∀ x lo hi W, Calls Tryd.prog 27 #[.int .i64 x, .int .i64 lo, .int .i64 hi] W fun e w' => e = .returned (.bool (inR lo hi x)) ∧ w' = W) := withinRef_any
  have HI : Hid (∀ W, Calls Tryd.prog 25 #[rgv r, v3 f.pt] W fun e w' => e = .returned (.bool (inS r f.pt)) ∧ Below W.heap.size W w') := fun W => inside_any r f.pt W
  obtain ⟨w0, hw0⟩ : ∃ x, x = ((w.alloc (rgo r)).alloc (fo f)).alloc (o3 p0 23) := ⟨_, rfl⟩
  have HB0 : Hid (Below w.heap.size w w0) := by show Below _ _ _; rw [hw0]; exact three_new _ _ _ _
  have KR0 : Hid (Bk w.heap.size (rgc r) w0) := by show Bk _ _ _; rw [hw0]; exact ((Bk.new w (rgc r) 27 w.heap.size rfl).later (one_new _ _)).later (one_new _ _)
  have KF0 : Hid (Bk (w.heap.size + 1) (fc f) w0) := by show Bk _ _ _; rw [hw0]; exact (Bk.new (w.alloc (rgo r)) (fc f) 29 (w.heap.size + 1) (by simp)).later (one_new _ _)
  have KZ0 : Hid (Bk (w.heap.size + 1 + 1) [.int .i64 0, .int .i64 0, .int .i64 0] w0) := by show Bk _ _ _; rw [hw0]; exact Bk.new ((w.alloc (rgo r)).alloc (fo f)) [.int .i64 0, .int .i64 0, .int .i64 0] 23 (w.heap.size + 1 + 1) (by simp)
  obtain ⟨Z, hZ⟩ : ∃ b, b = w.heap.size + 1 + 1 := ⟨_, rfl⟩
  obtain ⟨F, hF⟩ : ∃ b, b = w.heap.size + 1 := ⟨_, rfl⟩
  obtain ⟨R, hR⟩ : ∃ b, b = w.heap.size := ⟨_, rfl⟩
  rw [← hZ] at KZ0
  rw [← hF] at KF0
  rw [← hR] at KR0
  go_enter Tryd.func12, Tryd.ntmps12
  go_wp2_with fail
  simp only [show ((w.alloc (rgo r)).alloc (fo f)).alloc (.cells #[.int .i64 0, .int .i64 0, .int .i64 0] 23) = w0 from hw0.symm, ← hZ]
  simp only [← hF]
  simp only [← hR]
  clear hw0 hZ hF hR
  refine (HI.out _).mono ?_
  rintro e w1 ⟨rfl, hb1⟩
  have HB1 : Hid (Below w.heap.size w w1) := below_on HB0.out hb1
  have KR1 : Hid (Bk R (rgc r) w1) := KR0.out.later hb1
  have KF1 : Hid (Bk F (fc f) w1) := KF0.out.later hb1
  have KZ1 : Hid (Bk Z [.int .i64 0, .int .i64 0, .int .i64 0] w1) := KZ0.out.later hb1
  clear hb1 HB0 KR0 KF0 KZ0
  cases h1 : inS r f.pt with
  | false => (go_wp2; go_ret; exact ⟨ret_bool (by simp [fmOk, hereB, h1]), HB1.out⟩)
  | true =>
    have r11 := KR1.out.c 11 rfl
    have q0 := KF1.out.c 0 rfl
    have q1 := KF1.out.c 1 rfl
    have q2 := KF1.out.c 2 rfl
    have q3 := KF1.out.c 3 rfl
    have q4 := KF1.out.c 4 rfl
    have q5 := KF1.out.c 5 rfl
    have q6 := KF1.out.c 6 rfl
    have q7 := KF1.out.c 7 rfl
    have q8 := KF1.out.c 8 rfl
    have z0 := KZ1.out.c 0 rfl
    have z1 := KZ1.out.c 1 rfl
    have z2 := KZ1.out.c 2 rfl
    clear KR1 KF1 KZ1
    cases h2 : f.hm with
    | true =>
      rw [h2] at q0
      go_wp2_with fail
      refine (HC.out _ _ _ _).mono ?_
      rintro e w2 ⟨rfl, rfl⟩
      cases h3 : inR 0 r.mo f.pl with
      | false => (go_wp2; go_ret; exact ⟨ret_bool (by simp [fmOk, hereB, onB, h3]), HB1.out⟩)
      | true =>
        go_wp2_with fail
        refine (HC.out _ _ _ _).mono ?_
        rintro e w2 ⟨rfl, rfl⟩
        cases h4 : inR 0 1000000000 f.ht with
        | false => (go_wp2; go_ret; exact ⟨ret_bool (by simp [fmOk, hereB, onB, h4]), HB1.out⟩)
        | true =>
          go_wp2_with fail
          refine (HC.out _ _ _ _).mono ?_
          rintro e w2 ⟨rfl, rfl⟩
          cases h5 : inR 0 1000000000 f.tu with
          | false => (go_wp2; go_ret; exact ⟨ret_bool (by simp [fmOk, hereB, onB, h5]), HB1.out⟩)
          | true =>
            go_wp2_with fail
            refine (HC.out _ _ _ _).mono ?_
            rintro e w2 ⟨rfl, rfl⟩
            go_wp2
            go_ret
            exact ⟨ret_bool (by simp [fmOk, hereB, onB, h1, h2, h3, h4, h5]), HB1.out⟩
    | false =>
      rw [h2] at q0
      by_cases hx : f.pt.x = 0
      · by_cases hy : f.pt.y = 0
        · by_cases hz : f.pt.z = 0
          · have hp : ptE f.pt p0 = true := by simp [ptE, p0, hx, hy, hz]
            go_wp2_with fail
            refine (HC.out _ _ _ _).mono ?_
            rintro e w2 ⟨rfl, rfl⟩
            cases h3 : inR 0 r.mo f.pl with
            | false => (go_wp2; go_ret; exact ⟨ret_bool (by simp [fmOk, hereB, onB, h3]), HB1.out⟩)
            | true =>
              go_wp2_with fail
              refine (HC.out _ _ _ _).mono ?_
              rintro e w2 ⟨rfl, rfl⟩
              cases h4 : inR 0 1000000000 f.ht with
              | false => (go_wp2; go_ret; exact ⟨ret_bool (by simp [fmOk, hereB, onB, h4]), HB1.out⟩)
              | true =>
                go_wp2_with fail
                refine (HC.out _ _ _ _).mono ?_
                rintro e w2 ⟨rfl, rfl⟩
                cases h5 : inR 0 1000000000 f.tu with
                | false => (go_wp2; go_ret; exact ⟨ret_bool (by simp [fmOk, hereB, onB, h5]), HB1.out⟩)
                | true =>
                  go_wp2_with fail
                  refine (HC.out _ _ _ _).mono ?_
                  rintro e w2 ⟨rfl, rfl⟩
                  go_wp2
                  go_ret
                  exact ⟨ret_bool (by simp [fmOk, hereB, onB, h1, hp, h3, h4, h5]), HB1.out⟩
          · (go_wp2; go_ret; exact ⟨ret_bool (by simp [fmOk, hereB, h2, ptE, p0, hz]), HB1.out⟩)
        · (go_wp2; go_ret; exact ⟨ret_bool (by simp [fmOk, hereB, h2, ptE, p0, hy]), HB1.out⟩)
      · (go_wp2; go_ret; exact ⟨ret_bool (by simp [fmOk, hereB, h2, ptE, p0, hx]), HB1.out⟩)
end Go.Proofs.YtgahlhfgpkklaaaDoor
