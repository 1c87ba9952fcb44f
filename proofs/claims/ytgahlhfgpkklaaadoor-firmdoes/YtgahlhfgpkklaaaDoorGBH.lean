/- The document's side: pointMay, inside, RigMay, FirmMay, greater, size, roundUp walked. -/
import Derived.Test.YtgahlhfgpkklaaaDoorFRH
namespace Go.Proofs.YtgahlhfgpkklaaaDoor
open Go.RowKit

def ptM (p : Pt) : Bool := inR (-10000000) 10000000 p.x && (inR (-10000000) 10000000 p.y && inR (-10000000) 10000000 p.z)
theorem greater_any (x y : Int) (w : World) : Calls Tryd.prog 28 #[.int .i64 x, .int .i64 y] w fun e w' => e = .returned (.int .i64 (max x y)) ∧ w' = w := by
  by_cases h : y < x
  · go_enter Tryd.func28, Tryd.ntmps28
    go_wp2
    go_ret
    exact ⟨ret_int (by omega), rfl⟩
  · go_enter Tryd.func28, Tryd.ntmps28
    go_wp2
    go_ret
    exact ⟨ret_int (by omega), rfl⟩
theorem size_any (x : Int) (w : World) (h0 : -9223372036854775807 ≤ x) (h1 : x ≤ 9223372036854775807) : Calls Tryd.prog 29 #[.int .i64 x] w fun e w' => e = .returned (.int .i64 (max x (-x))) ∧ w' = w := by
  by_cases h : x < 0
  · go_enter Tryd.func29, Tryd.ntmps29
    go_wp2
    go_ret
    exact ⟨ret_int (by omega), rfl⟩
  · go_enter Tryd.func29, Tryd.ntmps29
    go_wp2
    go_ret
    exact ⟨ret_int (by omega), rfl⟩
theorem roundUp_any (n b : Int) (w : World) (h0 : 0 ≤ n) (h1 : n ≤ 1000000000000000000) (hb : 1 ≤ b) (hb2 : b ≤ 100000) : Calls Tryd.prog 30 #[.int .i64 n, .int .i64 b] w fun e w' => e = .returned (.int .i64 (upB n b)) ∧ w' = w := by
  have hz : ¬ b = 0 := by omega
  have hm : ¬ b = -1 := by omega
  have hr := upB_ref (n := n) hb
  have hd0 : 0 ≤ n / b := Int.ediv_nonneg h0 (by omega)
  have hd1 : n / b ≤ n := Int.ediv_le_self b h0
  by_cases h : n % b = 0
  · rw [if_pos h] at hr
    have HR : Hid (upB n b = n / b) := hr
    clear hr
    go_enter Tryd.func30, Tryd.ntmps30
    go_wp2
    go_ret
    exact ⟨ret_int HR.out.symm, rfl⟩
  · rw [if_neg h] at hr
    have HR : Hid (upB n b = n / b + 1) := hr
    clear hr
    go_enter Tryd.func30, Tryd.ntmps30
    go_wp2
    go_ret
    exact ⟨ret_int HR.out.symm, rfl⟩
set_option maxHeartbeats 1600000 in
theorem pointMay_any (p : Pt) (w : World) : Calls Tryd.prog 24 #[v3 p] w fun e w' => e = .returned (.bool (ptM p)) ∧ Below w.heap.size w w' := by
  have HC : Hid (∀ x lo hi W, Calls Tryd.prog 27 #[.int .i64 x, .int .i64 lo, .int .i64 hi] W fun e w' => e = .returned (.bool (inR lo hi x)) ∧ w' = W) := withinRef_any
  have HB : Hid (Below w.heap.size w (w.alloc (o3 p 23))) := one_new _ _
  go_enter Tryd.func24, Tryd.ntmps24
  go_wp2_with fail
  refine (HC.out _ _ _ _).mono ?_
  rintro e w1 ⟨rfl, rfl⟩
  cases h1 : inR (-10000000) 10000000 p.x with
  | false => (go_wp2; go_ret; exact ⟨ret_bool (by simp [ptM, h1]), HB.out⟩)
  | true =>
    go_wp2_with fail
    refine (HC.out _ _ _ _).mono ?_
    rintro e w2 ⟨rfl, rfl⟩
    cases h2 : inR (-10000000) 10000000 p.y with
    | false => (go_wp2; go_ret; exact ⟨ret_bool (by simp [ptM, h2]), HB.out⟩)
    | true =>
      go_wp2_with fail
      refine (HC.out _ _ _ _).mono ?_
      rintro e w3 ⟨rfl, rfl⟩
      go_wp2
      go_ret
      exact ⟨ret_bool (by simp [ptM, h1, h2]), HB.out⟩
set_option maxHeartbeats 1600000 in
set_option maxRecDepth 100000 in
theorem inside_any (r : Rg) (p : Pt) (w : World) : Calls Tryd.prog 25 #[rgv r, v3 p] w fun e w' => e = .returned (.bool (inS r p)) ∧ Below w.heap.size w w' := by
  have HC : Hid (∀ x lo hi W, Calls Tryd.prog 27 #[.int .i64 x, .int .i64 lo, .int .i64 hi] W fun e w' => e = .returned (.bool (inR lo hi x)) ∧ w' = W) := withinRef_any
  have HB : Hid (Below w.heap.size w ((w.alloc (rgo r)).alloc (o3 p 23))) := two_new _ _ _
  go_enter Tryd.func25, Tryd.ntmps25
  go_wp2_with fail
  refine (HC.out _ _ _ _).mono ?_
  rintro e w1 ⟨rfl, rfl⟩
  cases h1 : inR r.lo.x r.hi.x p.x with
  | false => (go_wp2; go_ret; exact ⟨ret_bool (by simp [inS, h1]), HB.out⟩)
  | true =>
    go_wp2_with fail
    refine (HC.out _ _ _ _).mono ?_
    rintro e w2 ⟨rfl, rfl⟩
    cases h2 : inR r.lo.y r.hi.y p.y with
    | false => (go_wp2; go_ret; exact ⟨ret_bool (by simp [inS, h2]), HB.out⟩)
    | true =>
      go_wp2_with fail
      refine (HC.out _ _ _ _).mono ?_
      rintro e w3 ⟨rfl, rfl⟩
      go_wp2
      go_ret
      exact ⟨ret_bool (by simp [inS, h1, h2]), HB.out⟩
/-- What RigMay tells. -/
def rgM (r : Rg) : Bool := ptM r.lo && (ptM r.hi && (inS r p0 && (rpOk r.rp && (inR 1 100000 r.ps && inR 1 1000000000 r.mo))))
theorem rgM_is (r : Rg) : rgM r = rgOk r := by
  rw [Bool.eq_iff_iff]
  simp only [rgM, rgOk, endsB, ptM, inS, endB_iff, Bool.and_eq_true, inR_iff, p0]
  constructor
  · rintro ⟨⟨h1, h2, h3⟩, ⟨h4, h5, h6⟩, ⟨h7, h8, h9⟩, h10, h11, h12⟩
    exact ⟨⟨by omega, by omega, by omega⟩, h10, h11, h12⟩
  · rintro ⟨⟨h1, h2, h3⟩, h10, h11, h12⟩
    exact ⟨⟨by omega, by omega, by omega⟩, ⟨by omega, by omega, by omega⟩, ⟨by omega, by omega, by omega⟩, h10, h11, h12⟩
set_option maxHeartbeats 3200000 in
set_option maxRecDepth 100000 in
theorem rigMay_any (r : Rg) (w : World) : Calls Tryd.prog 11 #[rgv r] w fun e w' => e = .returned (.bool (rgOk r)) ∧ Below w.heap.size w w' := by
  rw [← rgM_is]
  have HC : Hid (∀ x lo hi W, Calls Tryd.prog 27 #[.int .i64 x, .int .i64 lo, .int .i64 hi] W fun e w' => e = .returned (.bool (inR lo hi x)) ∧ w' = W) := withinRef_any
  have HP : Hid (∀ p W, Calls Tryd.prog 24 #[v3 p] W fun e w' => e = .returned (.bool (ptM p)) ∧ Below W.heap.size W w') := pointMay_any
  have HI : Hid (∀ W, Calls Tryd.prog 25 #[rgv r, v3 p0] W fun e w' => e = .returned (.bool (inS r p0)) ∧ Below W.heap.size W w') := fun W => inside_any r p0 W
  have HR : Hid (∀ W, Calls Tryd.prog 26 #[rv r.rp] W fun e w' => e = .returned (.bool (rpOk r.rp)) ∧ Below W.heap.size W w') := fun W => rampMay_any r.rp W
  have HB0 : Hid (Below w.heap.size w (w.alloc (rgo r))) := one_new _ _
  have KR0 : Hid (Bk w.heap.size (rgc r) (w.alloc (rgo r))) := Bk.new w (rgc r) 27 w.heap.size rfl
  obtain ⟨R, hRe⟩ : ∃ b, b = w.heap.size := ⟨_, rfl⟩
  rw [← hRe] at KR0
  go_enter Tryd.func11, Tryd.ntmps11
  go_wp2_with fail
  simp only [← hRe]
  clear hRe
  refine (HP.out r.lo _).mono ?_
  rintro e w1 ⟨rfl, hb1⟩
  have HB1 : Hid (Below w.heap.size w w1) := below_on HB0.out hb1
  have KR1 : Hid (Bk R (rgc r) w1) := KR0.out.later hb1
  clear hb1 HB0 KR0
  cases h1 : ptM r.lo with
  | false => (go_wp2; go_ret; exact ⟨ret_bool (by simp [rgM, h1]), HB1.out⟩)
  | true =>
    have q3 := KR1.out.c 3 rfl
    have q4 := KR1.out.c 4 rfl
    have q5 := KR1.out.c 5 rfl
    go_wp2_with fail
    clear q3 q4 q5
    refine (HP.out r.hi _).mono ?_
    rintro e w2 ⟨rfl, hb2⟩
    have HB2 : Hid (Below w.heap.size w w2) := below_on HB1.out hb2
    have KR2 : Hid (Bk R (rgc r) w2) := KR1.out.later hb2
    clear hb2 HB1 KR1
    cases h2 : ptM r.hi with
    | false => (go_wp2; go_ret; exact ⟨ret_bool (by simp [rgM, h2]), HB2.out⟩)
    | true =>
      have q0 := KR2.out.c 0 rfl
      have q1 := KR2.out.c 1 rfl
      have q2 := KR2.out.c 2 rfl
      have q3 := KR2.out.c 3 rfl
      have q4 := KR2.out.c 4 rfl
      have q5 := KR2.out.c 5 rfl
      have q6 := KR2.out.c 6 rfl
      have q7 := KR2.out.c 7 rfl
      have q8 := KR2.out.c 8 rfl
      have q9 := KR2.out.c 9 rfl
      have q10 := KR2.out.c 10 rfl
      have q11 := KR2.out.c 11 rfl
      go_wp2_with fail
      clear q0 q1 q2 q3 q4 q5 q6 q7 q8 q9 q10 q11
      refine (HI.out _).mono ?_
      rintro e w3 ⟨rfl, hb3⟩
      have HB3 : Hid (Below w.heap.size w w3) := below_on HB2.out hb3
      have KR3 : Hid (Bk R (rgc r) w3) := KR2.out.later hb3
      clear hb3 HB2 KR2
      cases h3 : inS r p0 with
      | false => (go_wp2; go_ret; exact ⟨ret_bool (by simp [rgM, h3]), HB3.out⟩)
      | true =>
        have q6 := KR3.out.c 6 rfl
        have q7 := KR3.out.c 7 rfl
        have q8 := KR3.out.c 8 rfl
        have q9 := KR3.out.c 9 rfl
        go_wp2_with fail
        clear q6 q7 q8 q9
        refine (HR.out _).mono ?_
        rintro e w4 ⟨rfl, hb4⟩
        have HB4 : Hid (Below w.heap.size w w4) := below_on HB3.out hb4
        have KR4 : Hid (Bk R (rgc r) w4) := KR3.out.later hb4
        clear hb4 HB3 KR3
        cases h4 : rpOk r.rp with
        | false => (go_wp2; go_ret; exact ⟨ret_bool (by simp [rgM, h4]), HB4.out⟩)
        | true =>
          have q10 := KR4.out.c 10 rfl
          have q11 := KR4.out.c 11 rfl
          go_wp2_with fail
          refine (HC.out _ _ _ _).mono ?_
          rintro e w5 ⟨rfl, rfl⟩
          cases h5 : inR 1 100000 r.ps with
          | false => (go_wp2; go_ret; exact ⟨ret_bool (by simp [rgM, h5]), HB4.out⟩)
          | true =>
            go_wp2_with fail
            refine (HC.out _ _ _ _).mono ?_
            rintro e w6 ⟨rfl, rfl⟩
            go_wp2
            go_ret
            exact ⟨ret_bool (by simp [rgM, h1, h2, h3, h4, h5]), HB4.out⟩
end Go.Proofs.YtgahlhfgpkklaaaDoor
