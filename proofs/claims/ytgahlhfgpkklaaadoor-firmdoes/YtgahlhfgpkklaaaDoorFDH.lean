/- isRig walked. -/
import Derived.Test.YtgahlhfgpkklaaaDoorFCH
namespace Go.Proofs.YtgahlhfgpkklaaaDoor
open Go.RowKit

set_option maxHeartbeats 6400000 in
set_option maxRecDepth 100000 in
theorem isRig_any (r : Rg) (w : World) : Calls Tryd.prog 33 #[rgv r] w fun e w' => e = .returned (.bool (rgOk r)) ∧ Below w.heap.size w w' := by
  have HN : Hid (∀ x W, Calls Tryd.prog 44 #[v3 x] W fun e w' => e = .returned (v3 x) ∧ Below W.heap.size W w') := numbersP_any
  have HI : Hid (∀ lo x hi W, Calls Tryd.prog 45 #[.int .i64 lo, .int .i64 x, .int .i64 hi] W fun e w' => e = .returned (.bool (inR lo hi x)) ∧ w' = W) := isFrom_any
  have HR : Hid (∀ x W, Calls Tryd.prog 46 #[rv x] W fun e w' => e = .returned (.bool (rpOk x)) ∧ Below W.heap.size W w') := isRampF_any
  obtain ⟨w0, hw0⟩ : ∃ x, x = w.alloc (rgo r) := ⟨_, rfl⟩
  have HB0 : Hid (Below w.heap.size w w0) := by show Below _ _ _; rw [hw0]; exact one_new _ _
  have KR0 : Hid (Bk w.heap.size (rgc r) w0) := by show Bk _ _ _; rw [hw0]; exact Bk.new w (rgc r) 27 w.heap.size rfl
  obtain ⟨R, hR⟩ : ∃ b, b = w.heap.size := ⟨_, rfl⟩
  go_enter Tryd.func33, Tryd.ntmps33
  go_wp2_with fail
  rename_i KK hkk
  have HKK := (show Hid _ from hkk)
  clear hkk
  simp only [← hw0, ← hR]
  have KR : Hid (Bk R (rgc r) w0) := by rw [hR]; exact KR0
  clear KR0 hw0 hR
  refine region_all [false, false, false, true, true, false, true, true, true, true, true, true, false, false, false, false, false, false, false, false, false, false, false, false, false, false, false, false, false, false, false, false, false, false, false, false, false, false, false, false, false]
    igP (igV R w0.heap.size r.lo r.hi) (Apart 3 4) (by kernel_rfl) (by kernel_rfl) ?_ ?_ ?_
  · refine fun w _ => ⟨fun b e => ?_, fun b e => ?_, fun b e _ => ?_⟩
    all_goals (simp [undef] at e)
  · refine ⟨?_, ?_, ?_, ?_, ?_, ?_, ?_, ?_, ?_, ?_, trivial⟩
    · intro f w1 hb hJ _ K hK
      simp only [over, overL, Nat.reduceAdd]
      go_simp
      exact hK _ _ ⟨_, by simp only [over, overL, Nat.reduceAdd]; rfl, rfl, hb, hJ.other (by decide) (by decide) (Below.refl _ _), fun _ h => h⟩
    · intro f w1 hb hJ ⟨h6, _⟩ K hK
      replace h6 : f 6 = _ := h6
      have q0 := (KR.out.later hb).c 0 rfl
      have q1 := (KR.out.later hb).c 1 rfl
      have q2 := (KR.out.later hb).c 2 rfl
      simp only [over, overL, Nat.reduceAdd, h6]
      go_simp
      exact hK _ _ ⟨_, by simp only [over, overL, Nat.reduceAdd, h6]; rfl, rfl, hb, hJ.other (by decide) (by decide) (Below.refl _ _), fun _ h => h⟩
    · intro f w1 hb hJ ⟨h7, _⟩ K hK
      replace h7 : f 7 = _ := h7
      simp only [over, overL, Nat.reduceAdd, h7]
      go_simp
      refine (HN.out _ _).mono ?_
      rintro e w2 ⟨rfl, hb2⟩
      exact hK _ _ ⟨_, by simp only [over, overL, Nat.reduceAdd, h7]; rfl, rfl, below_on hb hb2, hJ.other (by decide) (by decide) hb2, fun j h => igV_mono R w0.heap.size r.lo r.hi j _ _ _ h hb2⟩
    · intro f w1 hb hJ _ K hK
      simp only [over, overL, Nat.reduceAdd]
      go_simp
      exact hK _ _ ⟨_, by simp only [over, overL, Nat.reduceAdd]; rfl, rfl, hb, hJ.other (by decide) (by decide) (Below.refl _ _), fun _ h => h⟩
    · intro f w1 hb hJ ⟨h9, _⟩ K hK
      replace h9 : f 9 = _ := h9
      have q3 := (KR.out.later hb).c 3 rfl
      have q4 := (KR.out.later hb).c 4 rfl
      have q5 := (KR.out.later hb).c 5 rfl
      simp only [over, overL, Nat.reduceAdd, h9]
      go_simp
      exact hK _ _ ⟨_, by simp only [over, overL, Nat.reduceAdd, h9]; rfl, rfl, hb, hJ.other (by decide) (by decide) (Below.refl _ _), fun _ h => h⟩
    · intro f w1 hb hJ ⟨h10, _⟩ K hK
      replace h10 : f 10 = _ := h10
      simp only [over, overL, Nat.reduceAdd, h10]
      go_simp
      refine (HN.out _ _).mono ?_
      rintro e w2 ⟨rfl, hb2⟩
      exact hK _ _ ⟨_, by simp only [over, overL, Nat.reduceAdd, h10]; rfl, rfl, below_on hb hb2, hJ.other (by decide) (by decide) hb2, fun j h => igV_mono R w0.heap.size r.lo r.hi j _ _ _ h hb2⟩
    · intro f w1 hb hJ _ K hK
      simp only [over, overL, Nat.reduceAdd]
      go_simp
      exact hK _ _ ⟨_, by simp only [over, overL, Nat.reduceAdd]; rfl, ⟨w1.heap.size, rfl, hb.size, _, _, _, Bk.new w1 [.int .i64 0, .int .i64 0, .int .i64 0] 78 w1.heap.size rfl⟩, below_on hb (one_new _ _), hJ.left (by decide), fun j h => igV_mono R w0.heap.size r.lo r.hi j _ _ _ h (one_new _ _)⟩
    · intro f w1 hb hJ _ K hK
      simp only [over, overL, Nat.reduceAdd]
      go_simp
      exact hK _ _ ⟨_, by simp only [over, overL, Nat.reduceAdd]; rfl, ⟨w1.heap.size, rfl, hb.size, _, _, _, Bk.new w1 [.int .i64 0, .int .i64 0, .int .i64 0] 78 w1.heap.size rfl⟩, below_on hb (one_new _ _), hJ.right (by decide), fun j h => igV_mono R w0.heap.size r.lo r.hi j _ _ _ h (one_new _ _)⟩
    · intro f w1 hb hJ ⟨h3, h8, _⟩ K hK
      replace h8 : f 8 = _ := h8
      obtain ⟨B, h3, nB, u0, u1, u2, AB⟩ := (show ∃ B, f 3 = ptr B ∧ w0.heap.size ≤ B ∧ ∃ u0 u1 u2, Bk B [u0, u1, u2] w1 from h3)
      have q0 := (AB).c 0 rfl
      have qf0 := (AB).f 0 rfl
      have q1 := (AB).c 1 rfl
      have qf1 := (AB).f 1 rfl
      have q2 := (AB).c 2 rfl
      have qf2 := (AB).f 2 rfl
      simp only [over, overL, Nat.reduceAdd, h3, h8]
      go_simp
      refine hK _ _ ⟨undef, by simp only [over, overL, Nat.reduceAdd, h3, h8]; rfl, ?_, ((hb.setCell nB _).setCell nB _).setCell nB _, hJ.same (by simp), ?_⟩
      · exact ⟨B, h3, AB.put3 r.lo⟩
      · exact ig_low hJ h3 AB
    · intro f w1 hb hJ ⟨h4, h11, _⟩ K hK
      replace h11 : f 11 = _ := h11
      obtain ⟨B, h4, nB, u0, u1, u2, AB⟩ := (show ∃ B, f 4 = ptr B ∧ w0.heap.size ≤ B ∧ ∃ u0 u1 u2, Bk B [u0, u1, u2] w1 from h4)
      have q0 := (AB).c 0 rfl
      have qf0 := (AB).f 0 rfl
      have q1 := (AB).c 1 rfl
      have qf1 := (AB).f 1 rfl
      have q2 := (AB).c 2 rfl
      have qf2 := (AB).f 2 rfl
      simp only [over, overL, Nat.reduceAdd, h4, h11]
      go_simp
      refine hK _ _ ⟨undef, by simp only [over, overL, Nat.reduceAdd, h4, h11]; rfl, ?_, ((hb.setCell nB _).setCell nB _).setCell nB _, hJ.same (by simp), ?_⟩
      · exact ⟨B, h4, AB.put3 r.hi⟩
      · exact ig_high hJ h4 AB
  intro f w1 hb1 hJ h
  have h6 : f 6 = _ := h.1
  have h7 : f 7 = _ := h.2.1
  have h8 : f 8 = _ := h.2.2.1
  have h9 : f 9 = _ := h.2.2.2.1
  have h10 : f 10 = _ := h.2.2.2.2.1
  have h11 : f 11 = _ := h.2.2.2.2.2.1
  obtain ⟨S, h3, A5⟩ := (show ∃ b, f 3 = ptr b ∧ Bk b (c3 r.lo) w1 from h.2.2.2.2.2.2.2.2.1)
  obtain ⟨T, h4, A6⟩ := (show ∃ b, f 4 = ptr b ∧ Bk b (c3 r.hi) w1 from h.2.2.2.2.2.2.2.2.2.1)
  simp only [over, overL, Nat.reduceAdd, h6, h7, h8, h9, h10, h11, h3, h4]
  have KS : Hid (Bk S (c3 r.lo) w1) := A5
  have KT : Hid (Bk T (c3 r.hi) w1) := A6
  have HB1 : Hid (Below w0.heap.size w0 w1) := hb1
  clear h h6 h7 h8 h9 h10 h11 h3 h4 A5 A6 hJ hb1
  refine HKK.out _ _ ?_
  have HB2 : Hid (Below w.heap.size w w1) := below_on HB0.out HB1.out
  have KR2 : Hid (Bk R (rgc r) w1) := KR.out.later HB1.out
  clear HB0 HB1 HN KR HKK
  go_wp2_with fail
  refine wp_loop_rounds 4 ?_
  rw [rounds_succ]
  cases hx : inR (-10000000) 0 r.lo.x with
  | false =>
    have s0 := KS.out.c 0 rfl
    go_wp2_with fail
    refine (HI.out _ _ _ _).mono ?_
    rintro e w3 ⟨rfl, rfl⟩
    rw [hx]
    go_wp2
    go_ret
    exact ⟨ret_bool (by simp [rgOk, endsB, endB, hx]), HB2.out⟩
  | true =>
    have s0 := KS.out.c 0 rfl
    have t0 := KT.out.c 0 rfl
    go_wp2_with fail
    refine (HI.out _ _ _ _).mono ?_
    rintro e w3 ⟨rfl, rfl⟩
    rw [hx]
    go_wp2_with fail
    refine (HI.out _ _ _ _).mono ?_
    rintro e w4 ⟨rfl, rfl⟩
    cases gx : inR 0 10000000 r.hi.x with
    | false =>
      go_wp2
      go_ret
      exact ⟨ret_bool (by simp [rgOk, endsB, endB, gx]), HB2.out⟩
    | true =>
      go_wp2_with fail
      clear s0 t0
      rw [rounds_succ]
      cases hy : inR (-10000000) 0 r.lo.y with
      | false =>
        have s0 := KS.out.c 1 rfl
        go_wp2_with fail
        refine (HI.out _ _ _ _).mono ?_
        rintro e w3 ⟨rfl, rfl⟩
        rw [hy]
        go_wp2
        go_ret
        exact ⟨ret_bool (by simp [rgOk, endsB, endB, hy]), HB2.out⟩
      | true =>
        have s0 := KS.out.c 1 rfl
        have t0 := KT.out.c 1 rfl
        go_wp2_with fail
        refine (HI.out _ _ _ _).mono ?_
        rintro e w3 ⟨rfl, rfl⟩
        rw [hy]
        go_wp2_with fail
        refine (HI.out _ _ _ _).mono ?_
        rintro e w4 ⟨rfl, rfl⟩
        cases gy : inR 0 10000000 r.hi.y with
        | false =>
          go_wp2
          go_ret
          exact ⟨ret_bool (by simp [rgOk, endsB, endB, gy]), HB2.out⟩
        | true =>
          go_wp2_with fail
          clear s0 t0
          rw [rounds_succ]
          cases hz : inR (-10000000) 0 r.lo.z with
          | false =>
            have s0 := KS.out.c 2 rfl
            go_wp2_with fail
            refine (HI.out _ _ _ _).mono ?_
            rintro e w3 ⟨rfl, rfl⟩
            rw [hz]
            go_wp2
            go_ret
            exact ⟨ret_bool (by simp [rgOk, endsB, endB, hz]), HB2.out⟩
          | true =>
            have s0 := KS.out.c 2 rfl
            have t0 := KT.out.c 2 rfl
            go_wp2_with fail
            refine (HI.out _ _ _ _).mono ?_
            rintro e w3 ⟨rfl, rfl⟩
            rw [hz]
            go_wp2_with fail
            refine (HI.out _ _ _ _).mono ?_
            rintro e w4 ⟨rfl, rfl⟩
            cases gz : inR 0 10000000 r.hi.z with
            | false =>
              go_wp2
              go_ret
              exact ⟨ret_bool (by simp [rgOk, endsB, endB, gz]), HB2.out⟩
            | true =>
              go_wp2_with fail
              clear s0 t0
              rw [rounds_succ]
              have HE : Hid (endsB r = true) := by show _ = _; simp [endsB, endB, hx, gx, hy, gy, hz, gz]
              have q6 := KR2.out.c 6 rfl
              have q7 := KR2.out.c 7 rfl
              have q8 := KR2.out.c 8 rfl
              have q9 := KR2.out.c 9 rfl
              have q10 := KR2.out.c 10 rfl
              have q11 := KR2.out.c 11 rfl
              go_wp2_with fail
              refine (HR.out _ _).mono ?_
              rintro e w5 ⟨rfl, hb5⟩
              have HB5 : Hid (Below w.heap.size w w5) := below_on HB2.out hb5
              have KR5 := KR2.out.later hb5
              clear q6 q7 q8 q9 q10 q11
              have q10 := KR5.c 10 rfl
              have q11 := KR5.c 11 rfl
              clear KR5 hb5
              cases h1 : rpOk r.rp with
              | false =>
                go_wp2
                go_ret
                exact ⟨ret_bool (by simp [rgOk, h1]), HB5.out⟩
              | true =>
                go_wp2_with fail
                refine (HI.out _ _ _ _).mono ?_
                rintro e w6 ⟨rfl, rfl⟩
                cases h2 : inR 1 100000 r.ps with
                | false =>
                  go_wp2
                  go_ret
                  exact ⟨ret_bool (by simp [rgOk, h2]), HB5.out⟩
                | true =>
                  go_wp2_with fail
                  refine (HI.out _ _ _ _).mono ?_
                  rintro e w7 ⟨rfl, rfl⟩
                  go_wp2
                  go_ret
                  exact ⟨ret_bool (by simp [rgOk, HE.out, h1, h2]), HB5.out⟩
end Go.Proofs.YtgahlhfgpkklaaaDoor
