/- workcellkeep.UnitOvers, walked: it answers true. -/
import Derived.Test.YtjlbheeipchpkaaSums
namespace Go.Proofs.Ytjlbheeipchpkaa
open Go.RowKit

theorem times_eq (k1 v1 k2 v2 : Int) {x y z : Int} (h : proQ k1 v1 k2 v2 = (x, y, z)) (w : World) :
    Calls Try.prog 8 #[.agg #[.int .i64 k1, .int .i64 v1], .agg #[.int .i64 k2, .int .i64 v2]] w fun e w' => e = .returned (.tuple #[.agg #[.int .i64 x, .int .i64 y], .int .i64 z]) ∧ Below w.heap.size w w' := by
  have := times_any k1 v1 k2 v2 w
  rw [h] at this; exact this
theorem add_eq (k1 v1 k2 v2 : Int) {x y z : Int} (h : sumQ k1 v1 k2 v2 = (x, y, z)) (w : World) :
    Calls Try.prog 7 #[.agg #[.int .i64 k1, .int .i64 v1], .agg #[.int .i64 k2, .int .i64 v2]] w fun e w' => e = .returned (.tuple #[.agg #[.int .i64 x, .int .i64 y], .int .i64 z]) ∧ Below w.heap.size w w' := by
  have := add_any k1 v1 k2 v2 w
  rw [h] at this; exact this
theorem over_eq (k1 v1 k2 v2 : Int) {x y z : Int} (h : quoQ k1 v1 k2 v2 = (x, y, z)) (w : World) :
    Calls Try.prog 9 #[.agg #[.int .i64 k1, .int .i64 v1], .agg #[.int .i64 k2, .int .i64 v2]] w fun e w' => e = .returned (.tuple #[.agg #[.int .i64 x, .int .i64 y], .int .i64 z]) ∧ Below w.heap.size w w' := by
  have := over_any k1 v1 k2 v2 w
  rw [h] at this; exact this
theorem may_eq (k v : Int) {b : Bool} (h : (ref1 k v == 0) = b) (w : World) :
    Calls Try.prog 16 #[.agg #[.int .i64 k, .int .i64 v]] w fun e w' => e = .returned (.bool b) ∧ Below w.heap.size w w' := by
  have := may_any k v w
  rw [h] at this; exact this

theorem pro_wrong {k1 v1 k2 v2 : Int} (h : ref1 k1 v1 ≠ 0 ∨ ref1 k2 v2 ≠ 0) : ∃ z, z ≠ 0 ∧ proQ k1 v1 k2 v2 = (0, 0, z) := by
  have hr : ref2 k1 v1 k2 v2 ≠ 0 := by
    unfold ref2; split
    · rcases h with h | h
      · exact absurd (by assumption) h
      · exact h
    · assumption
  exact ⟨_, hr, by unfold proQ; rw [if_neg hr]⟩
theorem ref2_ok {k1 v1 k2 v2 : Int} (h1 : ref1 k1 v1 = 0) (h2 : ref1 k2 v2 = 0) : ref2 k1 v1 k2 v2 = 0 := by unfold ref2; rw [if_pos h1, h2]
theorem pro_right {k v n : Int} (h1 : ref1 k v = 0) (h2 : ref1 0 n = 0) : proQ k v 0 n = mkQ k (v * n) := by
  unfold proQ; rw [if_pos (ref2_ok h1 h2)]
  by_cases h : k = 0
  · rw [if_pos h, h]
  · rw [if_neg h, if_pos rfl]
theorem pro_left {k v n : Int} (h1 : ref1 k v = 0) (h2 : ref1 0 n = 0) : proQ 0 n k v = mkQ k (v * n) := by
  unfold proQ; rw [if_pos (ref2_ok h2 h1), if_pos rfl, Int.mul_comm]
theorem mk_no {k v : Int} (h : ref1 k v ≠ 0) : mkQ k v = (0, 0, ref1 k v) := if_neg h
theorem mk_ok {k v : Int} (h : ref1 k v = 0) : mkQ k v = (k, v, 0) := if_pos h
theorem quo_right {k v n : Int} (h1 : ref1 k v = 0) (h2 : ref1 0 n = 0) (h3 : ref1 k (v * n) = 0) (hn : n ≠ 0) : quoQ k (v * n) 0 n = (k, v, 0) := by
  unfold quoQ; rw [if_pos (ref2_ok h3 h2), if_pos rfl, if_neg hn, Int.mul_tdiv_cancel _ hn, mk_ok h1]
theorem ref1_neg {k v : Int} (h : ref1 k v = 0) : ref1 k (-v) = 0 := by
  obtain ⟨⟨a, b⟩, c, d⟩ := ref1_in h
  exact ref1_ok a b (by omega) (by omega)
theorem ref1_nought {k v : Int} (h : ref1 k v = 0) : ref1 k 0 = 0 := by
  obtain ⟨⟨a, b⟩, c, d⟩ := ref1_in h
  exact ref1_ok a b (by omega) (by omega)
theorem less_is {k v : Int} (h : ref1 k v = 0) : proQ k v 0 (-1) = (k, -v, 0) := by
  rw [pro_right h (by decide), show v * -1 = -v by omega, mk_ok (ref1_neg h)]
theorem zero_is {k v : Int} (h : ref1 k v = 0) : sumQ k v k (-v) = (k, 0, 0) := by
  unfold sumQ; rw [if_pos (ref2_ok h (ref1_neg h)), if_pos rfl, show v + -v = 0 by omega, mk_ok (ref1_nought h)]
theorem other_is {k v : Int} (h : ref1 k v = 0) : sumQ k (-v) k v = (k, 0, 0) := by
  unfold sumQ; rw [if_pos (ref2_ok (ref1_neg h) h), if_pos rfl, show -v + v = 0 by omega, mk_ok (ref1_nought h)]

set_option maxHeartbeats 1600000 in
theorem overs_A (ka va n : Int) (w : World) (pe qe : Int) (h1 : proQ ka va 0 n = (0, 0, pe)) (h2 : proQ 0 n ka va = (0, 0, qe)) (n1 : pe ≠ 0) (n2 : qe ≠ 0) (hr : ref1 ka va ≠ 0) :
    Calls Try.prog 6 #[.agg #[.int .i64 ka, .int .i64 va], .int .i64 n] w fun e w' => e = .returned (.bool true) ∧ Below w.heap.size w w' := by
  have H1 : Hid (proQ ka va 0 n = (0, 0, pe)) := h1
  have H2 : Hid (proQ 0 n ka va = (0, 0, qe)) := h2
  have HM : Hid ((ref1 ka va == 0) = false) := (by simp [hr] : (ref1 ka va == 0) = false)
  have g1 : (pe == 0) = false := by simp [n1]
  have g2 : (qe == 0) = false := by simp [n2]
  clear h1 h2 n1 n2 hr
  go_enter Try.func6, Try.ntmps6
  go_wp2_with fail
  refine (times_eq 1 4 0 3 (show proQ 1 4 0 3 = (1, 12, 0) by decide) _).mono ?_
  rintro e w1 ⟨rfl, hb1⟩
  have hA := (Box.new w ka va).next hb1
  have hbel : Below w.heap.size w w1 := ((Below.refl _ _).alloc (Nat.le_refl _) _).trans (hb1.mono (by simp))
  clear hb1
  obtain ⟨pA0, pA1, pAl⟩ := hA
  have hs1 := hbel.size
  go_wp2_with fail
  refine (times_eq ka va 0 n H1.out _).mono ?_
  rintro e w2 ⟨rfl, hb2⟩
  have hA := (((Box.mk pA0 pA1 pAl).alloc _).alloc _).next hb2
  have hT := ((Box.new w1 _ _).alloc _).next hb2
  have hK := ((Box.two w1 _ _ _)).next hb2
  replace hbel := ((hbel.alloc hs1 _).alloc (by simp; omega) _).trans (hb2.mono (by simp; omega))
  clear hb2 pA0 pA1 pAl
  obtain ⟨pA0, pA1, pAl⟩ := hA
  obtain ⟨pT0, pT1, pTl⟩ := hT
  obtain ⟨pK0, pK1, pKl⟩ := hK
  have hs2 := hbel.size
  go_wp2_with fail
  refine (times_eq 0 n ka va H2.out _).mono ?_
  rintro e w3 ⟨rfl, hb3⟩
  have hA := ((Box.mk pA0 pA1 pAl).alloc _).next hb3
  have hT := ((Box.mk pT0 pT1 pTl).alloc _).next hb3
  have hK := ((Box.mk pK0 pK1 pKl).alloc _).next hb3
  have hP := (Box.new w2 _ _).next hb3
  replace hbel := (hbel.alloc hs2 _).trans (hb3.mono (by simp; omega))
  clear hb3 pA0 pA1 pAl pT0 pT1 pTl pK0 pK1 pKl
  obtain ⟨pA0, pA1, pAl⟩ := hA
  obtain ⟨pT0, pT1, pTl⟩ := hT
  obtain ⟨pK0, pK1, pKl⟩ := hK
  obtain ⟨pP0, pP1, pPl⟩ := hP
  have hs3 := hbel.size
  go_wp2_with fail
  refine (may_eq ka va HM.out _).mono ?_
  rintro e w4 ⟨rfl, hb4⟩
  have hA := ((Box.mk pA0 pA1 pAl).alloc _).next hb4
  have hT := ((Box.mk pT0 pT1 pTl).alloc _).next hb4
  have hK := ((Box.mk pK0 pK1 pKl).alloc _).next hb4
  have hP := ((Box.mk pP0 pP1 pPl).alloc _).next hb4
  have hQ := (Box.new w3 _ _).next hb4
  replace hbel := (hbel.alloc hs3 _).trans (hb4.mono (by simp; omega))
  clear hb4 pA0 pA1 pAl pT0 pT1 pTl pK0 pK1 pKl pP0 pP1 pPl
  obtain ⟨pA0, pA1, pAl⟩ := hA
  obtain ⟨pT0, pT1, pTl⟩ := hT
  obtain ⟨pK0, pK1, pKl⟩ := hK
  obtain ⟨pP0, pP1, pPl⟩ := hP
  obtain ⟨pQ0, pQ1, pQl⟩ := hQ
  go_wp2
  go_ret
  exact ⟨rfl, hbel⟩

set_option maxHeartbeats 1600000 in
theorem overs_no (ka va n : Int) (w : World) (pe qe : Int) (h1 : proQ ka va 0 n = (0, 0, pe)) (h2 : proQ 0 n ka va = (0, 0, qe)) (n1 : pe ≠ 0) (n2 : qe ≠ 0) (hr : ref1 ka va = 0) :
    Calls Try.prog 6 #[.agg #[.int .i64 ka, .int .i64 va], .int .i64 n] w fun e w' => e = .returned (.bool true) ∧ Below w.heap.size w w' := by
  have H1 : Hid (proQ ka va 0 n = (0, 0, pe)) := h1
  have H2 : Hid (proQ 0 n ka va = (0, 0, qe)) := h2
  have HM : Hid ((ref1 ka va == 0) = true) := (by simp [hr] : (ref1 ka va == 0) = true)
  have HR : Hid (ref1 ka va = 0) := hr
  have g1 : (pe == 0) = false := by simp [n1]
  have g2 : (qe == 0) = false := by simp [n2]
  clear h1 h2 n1 n2 hr
  go_enter Try.func6, Try.ntmps6
  go_wp2_with fail
  refine (times_eq 1 4 0 3 (show proQ 1 4 0 3 = (1, 12, 0) by decide) _).mono ?_
  rintro e w1 ⟨rfl, hb1⟩
  have hA := (Box.new w ka va).next hb1
  have hbel : Below w.heap.size w w1 := ((Below.refl _ _).alloc (Nat.le_refl _) _).trans (hb1.mono (by simp))
  clear hb1
  obtain ⟨pA0, pA1, pAl⟩ := hA
  have hs1 := hbel.size
  go_wp2_with fail
  refine (times_eq ka va 0 n H1.out _).mono ?_
  rintro e w2 ⟨rfl, hb2⟩
  have hA := (((Box.mk pA0 pA1 pAl).alloc _).alloc _).next hb2
  have hT := ((Box.new w1 _ _).alloc _).next hb2
  have hK := ((Box.two w1 _ _ _)).next hb2
  replace hbel := ((hbel.alloc hs1 _).alloc (by simp; omega) _).trans (hb2.mono (by simp; omega))
  clear hb2 pA0 pA1 pAl
  obtain ⟨pA0, pA1, pAl⟩ := hA
  obtain ⟨pT0, pT1, pTl⟩ := hT
  obtain ⟨pK0, pK1, pKl⟩ := hK
  have hs2 := hbel.size
  go_wp2_with fail
  refine (times_eq 0 n ka va H2.out _).mono ?_
  rintro e w3 ⟨rfl, hb3⟩
  have hA := ((Box.mk pA0 pA1 pAl).alloc _).next hb3
  have hT := ((Box.mk pT0 pT1 pTl).alloc _).next hb3
  have hK := ((Box.mk pK0 pK1 pKl).alloc _).next hb3
  have hP := (Box.new w2 _ _).next hb3
  replace hbel := (hbel.alloc hs2 _).trans (hb3.mono (by simp; omega))
  clear hb3 pA0 pA1 pAl pT0 pT1 pTl pK0 pK1 pKl
  obtain ⟨pA0, pA1, pAl⟩ := hA
  obtain ⟨pT0, pT1, pTl⟩ := hT
  obtain ⟨pK0, pK1, pKl⟩ := hK
  obtain ⟨pP0, pP1, pPl⟩ := hP
  have hs3 := hbel.size
  go_wp2_with fail
  refine (may_eq ka va HM.out _).mono ?_
  rintro e w4 ⟨rfl, hb4⟩
  have hA := ((Box.mk pA0 pA1 pAl).alloc _).next hb4
  have hT := ((Box.mk pT0 pT1 pTl).alloc _).next hb4
  have hK := ((Box.mk pK0 pK1 pKl).alloc _).next hb4
  have hP := ((Box.mk pP0 pP1 pPl).alloc _).next hb4
  have hQ := (Box.new w3 _ _).next hb4
  replace hbel := (hbel.alloc hs3 _).trans (hb4.mono (by simp; omega))
  clear hb4 pA0 pA1 pAl pT0 pT1 pTl pK0 pK1 pKl pP0 pP1 pPl
  obtain ⟨pA0, pA1, pAl⟩ := hA
  obtain ⟨pT0, pT1, pTl⟩ := hT
  obtain ⟨pK0, pK1, pKl⟩ := hK
  obtain ⟨pP0, pP1, pPl⟩ := hP
  obtain ⟨pQ0, pQ1, pQl⟩ := hQ
  have hs4 := hbel.size
  go_wp2_with fail
  refine (times_eq ka va 0 (-1) (less_is HR.out) _).mono ?_
  rintro e w5 ⟨rfl, hb5⟩
  have hA := (Box.mk pA0 pA1 pAl).next hb5
  have hT := (Box.mk pT0 pT1 pTl).next hb5
  have hK := (Box.mk pK0 pK1 pKl).next hb5
  have hP := (Box.mk pP0 pP1 pPl).next hb5
  have hQ := (Box.mk pQ0 pQ1 pQl).next hb5
  replace hbel := hbel.trans (hb5.mono hs4)
  clear hb5 pA0 pA1 pAl pT0 pT1 pTl pK0 pK1 pKl pP0 pP1 pPl pQ0 pQ1 pQl
  obtain ⟨pA0, pA1, pAl⟩ := hA
  obtain ⟨pT0, pT1, pTl⟩ := hT
  obtain ⟨pK0, pK1, pKl⟩ := hK
  obtain ⟨pP0, pP1, pPl⟩ := hP
  obtain ⟨pQ0, pQ1, pQl⟩ := hQ
  have hs5 := hbel.size
  go_wp2_with fail
  refine (add_eq ka va ka (-va) (zero_is HR.out) _).mono ?_
  rintro e w6 ⟨rfl, hb6⟩
  have hA := ((Box.mk pA0 pA1 pAl).alloc _).next hb6
  have hT := ((Box.mk pT0 pT1 pTl).alloc _).next hb6
  have hK := ((Box.mk pK0 pK1 pKl).alloc _).next hb6
  have hP := ((Box.mk pP0 pP1 pPl).alloc _).next hb6
  have hQ := ((Box.mk pQ0 pQ1 pQl).alloc _).next hb6
  have hL := (Box.new w5 _ _).next hb6
  replace hbel := (hbel.alloc hs5 _).trans (hb6.mono (by simp; omega))
  clear hb6 pA0 pA1 pAl pT0 pT1 pTl pK0 pK1 pKl pP0 pP1 pPl pQ0 pQ1 pQl
  obtain ⟨pA0, pA1, pAl⟩ := hA
  obtain ⟨pT0, pT1, pTl⟩ := hT
  obtain ⟨pK0, pK1, pKl⟩ := hK
  obtain ⟨pP0, pP1, pPl⟩ := hP
  obtain ⟨pQ0, pQ1, pQl⟩ := hQ
  obtain ⟨pL0, pL1, pLl⟩ := hL
  have hs6 := hbel.size
  go_wp2_with fail
  refine (add_eq ka (-va) ka va (other_is HR.out) _).mono ?_
  rintro e w7 ⟨rfl, hb7⟩
  have hA := ((Box.mk pA0 pA1 pAl).alloc _).next hb7
  have hT := ((Box.mk pT0 pT1 pTl).alloc _).next hb7
  have hK := ((Box.mk pK0 pK1 pKl).alloc _).next hb7
  have hP := ((Box.mk pP0 pP1 pPl).alloc _).next hb7
  have hQ := ((Box.mk pQ0 pQ1 pQl).alloc _).next hb7
  have hL := ((Box.mk pL0 pL1 pLl).alloc _).next hb7
  have hZ := (Box.new w6 _ _).next hb7
  replace hbel := (hbel.alloc hs6 _).trans (hb7.mono (by simp; omega))
  clear hb7 pA0 pA1 pAl pT0 pT1 pTl pK0 pK1 pKl pP0 pP1 pPl pQ0 pQ1 pQl pL0 pL1 pLl
  obtain ⟨pA0, pA1, pAl⟩ := hA
  obtain ⟨pT0, pT1, pTl⟩ := hT
  obtain ⟨pK0, pK1, pKl⟩ := hK
  obtain ⟨pP0, pP1, pPl⟩ := hP
  obtain ⟨pQ0, pQ1, pQl⟩ := hQ
  obtain ⟨pL0, pL1, pLl⟩ := hL
  obtain ⟨pZ0, pZ1, pZl⟩ := hZ
  have hsE := hbel.size
  go_wp2
  go_ret
  exact ⟨rfl, hbel.alloc hsE _⟩

set_option maxHeartbeats 1600000 in
theorem overs_zero (ka va n : Int) (w : World) (pv : Int) (h1 : proQ ka va 0 n = (ka, pv, 0)) (h2 : proQ 0 n ka va = (ka, pv, 0)) (hn : n = 0) (hr : ref1 ka va = 0) :
    Calls Try.prog 6 #[.agg #[.int .i64 ka, .int .i64 va], .int .i64 n] w fun e w' => e = .returned (.bool true) ∧ Below w.heap.size w w' := by
  subst hn
  have H1 : Hid (proQ ka va 0 0 = (ka, pv, 0)) := h1
  have H2 : Hid (proQ 0 0 ka va = (ka, pv, 0)) := h2
  have HM : Hid ((ref1 ka va == 0) = true) := (by simp [hr] : (ref1 ka va == 0) = true)
  have HR : Hid (ref1 ka va = 0) := hr
  clear h1 h2 hr
  go_enter Try.func6, Try.ntmps6
  go_wp2_with fail
  refine (times_eq 1 4 0 3 (show proQ 1 4 0 3 = (1, 12, 0) by decide) _).mono ?_
  rintro e w1 ⟨rfl, hb1⟩
  have hA := (Box.new w ka va).next hb1
  have hbel : Below w.heap.size w w1 := ((Below.refl _ _).alloc (Nat.le_refl _) _).trans (hb1.mono (by simp))
  clear hb1
  obtain ⟨pA0, pA1, pAl⟩ := hA
  have hs1 := hbel.size
  go_wp2_with fail
  refine (times_eq ka va 0 0 H1.out _).mono ?_
  rintro e w2 ⟨rfl, hb2⟩
  have hA := (((Box.mk pA0 pA1 pAl).alloc _).alloc _).next hb2
  have hT := ((Box.new w1 _ _).alloc _).next hb2
  have hK := ((Box.two w1 _ _ _)).next hb2
  replace hbel := ((hbel.alloc hs1 _).alloc (by simp; omega) _).trans (hb2.mono (by simp; omega))
  clear hb2 pA0 pA1 pAl
  obtain ⟨pA0, pA1, pAl⟩ := hA
  obtain ⟨pT0, pT1, pTl⟩ := hT
  obtain ⟨pK0, pK1, pKl⟩ := hK
  have hs2 := hbel.size
  go_wp2_with fail
  refine (times_eq 0 0 ka va H2.out _).mono ?_
  rintro e w3 ⟨rfl, hb3⟩
  have hA := ((Box.mk pA0 pA1 pAl).alloc _).next hb3
  have hT := ((Box.mk pT0 pT1 pTl).alloc _).next hb3
  have hK := ((Box.mk pK0 pK1 pKl).alloc _).next hb3
  have hP := (Box.new w2 _ _).next hb3
  replace hbel := (hbel.alloc hs2 _).trans (hb3.mono (by simp; omega))
  clear hb3 pA0 pA1 pAl pT0 pT1 pTl pK0 pK1 pKl
  obtain ⟨pA0, pA1, pAl⟩ := hA
  obtain ⟨pT0, pT1, pTl⟩ := hT
  obtain ⟨pK0, pK1, pKl⟩ := hK
  obtain ⟨pP0, pP1, pPl⟩ := hP
  have hs3 := hbel.size
  go_wp2_with fail
  refine (may_eq ka va HM.out _).mono ?_
  rintro e w4 ⟨rfl, hb4⟩
  have hA := ((Box.mk pA0 pA1 pAl).alloc _).next hb4
  have hT := ((Box.mk pT0 pT1 pTl).alloc _).next hb4
  have hK := ((Box.mk pK0 pK1 pKl).alloc _).next hb4
  have hP := ((Box.mk pP0 pP1 pPl).alloc _).next hb4
  have hQ := (Box.new w3 _ _).next hb4
  replace hbel := (hbel.alloc hs3 _).trans (hb4.mono (by simp; omega))
  clear hb4 pA0 pA1 pAl pT0 pT1 pTl pK0 pK1 pKl pP0 pP1 pPl
  obtain ⟨pA0, pA1, pAl⟩ := hA
  obtain ⟨pT0, pT1, pTl⟩ := hT
  obtain ⟨pK0, pK1, pKl⟩ := hK
  obtain ⟨pP0, pP1, pPl⟩ := hP
  obtain ⟨pQ0, pQ1, pQl⟩ := hQ
  have hs4 := hbel.size
  go_wp2_with fail
  refine (times_eq ka va 0 (-1) (less_is HR.out) _).mono ?_
  rintro e w5 ⟨rfl, hb5⟩
  have hA := (Box.mk pA0 pA1 pAl).next hb5
  have hT := (Box.mk pT0 pT1 pTl).next hb5
  have hK := (Box.mk pK0 pK1 pKl).next hb5
  have hP := (Box.mk pP0 pP1 pPl).next hb5
  have hQ := (Box.mk pQ0 pQ1 pQl).next hb5
  replace hbel := hbel.trans (hb5.mono hs4)
  clear hb5 pA0 pA1 pAl pT0 pT1 pTl pK0 pK1 pKl pP0 pP1 pPl pQ0 pQ1 pQl
  obtain ⟨pA0, pA1, pAl⟩ := hA
  obtain ⟨pT0, pT1, pTl⟩ := hT
  obtain ⟨pK0, pK1, pKl⟩ := hK
  obtain ⟨pP0, pP1, pPl⟩ := hP
  obtain ⟨pQ0, pQ1, pQl⟩ := hQ
  have hs5 := hbel.size
  go_wp2_with fail
  refine (add_eq ka va ka (-va) (zero_is HR.out) _).mono ?_
  rintro e w6 ⟨rfl, hb6⟩
  have hA := ((Box.mk pA0 pA1 pAl).alloc _).next hb6
  have hT := ((Box.mk pT0 pT1 pTl).alloc _).next hb6
  have hK := ((Box.mk pK0 pK1 pKl).alloc _).next hb6
  have hP := ((Box.mk pP0 pP1 pPl).alloc _).next hb6
  have hQ := ((Box.mk pQ0 pQ1 pQl).alloc _).next hb6
  have hL := (Box.new w5 _ _).next hb6
  replace hbel := (hbel.alloc hs5 _).trans (hb6.mono (by simp; omega))
  clear hb6 pA0 pA1 pAl pT0 pT1 pTl pK0 pK1 pKl pP0 pP1 pPl pQ0 pQ1 pQl
  obtain ⟨pA0, pA1, pAl⟩ := hA
  obtain ⟨pT0, pT1, pTl⟩ := hT
  obtain ⟨pK0, pK1, pKl⟩ := hK
  obtain ⟨pP0, pP1, pPl⟩ := hP
  obtain ⟨pQ0, pQ1, pQl⟩ := hQ
  obtain ⟨pL0, pL1, pLl⟩ := hL
  have hs6 := hbel.size
  go_wp2_with fail
  refine (add_eq ka (-va) ka va (other_is HR.out) _).mono ?_
  rintro e w7 ⟨rfl, hb7⟩
  have hA := ((Box.mk pA0 pA1 pAl).alloc _).next hb7
  have hT := ((Box.mk pT0 pT1 pTl).alloc _).next hb7
  have hK := ((Box.mk pK0 pK1 pKl).alloc _).next hb7
  have hP := ((Box.mk pP0 pP1 pPl).alloc _).next hb7
  have hQ := ((Box.mk pQ0 pQ1 pQl).alloc _).next hb7
  have hL := ((Box.mk pL0 pL1 pLl).alloc _).next hb7
  have hZ := (Box.new w6 _ _).next hb7
  replace hbel := (hbel.alloc hs6 _).trans (hb7.mono (by simp; omega))
  clear hb7 pA0 pA1 pAl pT0 pT1 pTl pK0 pK1 pKl pP0 pP1 pPl pQ0 pQ1 pQl pL0 pL1 pLl
  obtain ⟨pA0, pA1, pAl⟩ := hA
  obtain ⟨pT0, pT1, pTl⟩ := hT
  obtain ⟨pK0, pK1, pKl⟩ := hK
  obtain ⟨pP0, pP1, pPl⟩ := hP
  obtain ⟨pQ0, pQ1, pQl⟩ := hQ
  obtain ⟨pL0, pL1, pLl⟩ := hL
  obtain ⟨pZ0, pZ1, pZl⟩ := hZ
  have hsE := hbel.size
  go_wp2
  go_ret
  exact ⟨rfl, hbel.alloc hsE _⟩

set_option maxHeartbeats 1600000 in
theorem overs_over (ka va n : Int) (w : World) (pv : Int) (h1 : proQ ka va 0 n = (ka, pv, 0)) (h2 : proQ 0 n ka va = (ka, pv, 0)) (h3 : quoQ ka pv 0 n = (ka, va, 0)) (hn : n ≠ 0) (hr : ref1 ka va = 0) :
    Calls Try.prog 6 #[.agg #[.int .i64 ka, .int .i64 va], .int .i64 n] w fun e w' => e = .returned (.bool true) ∧ Below w.heap.size w w' := by
  have H1 : Hid (proQ ka va 0 n = (ka, pv, 0)) := h1
  have H2 : Hid (proQ 0 n ka va = (ka, pv, 0)) := h2
  have H3 : Hid (quoQ ka pv 0 n = (ka, va, 0)) := h3
  have HM : Hid ((ref1 ka va == 0) = true) := (by simp [hr] : (ref1 ka va == 0) = true)
  have HR : Hid (ref1 ka va = 0) := hr
  have g1 : (n == 0) = false := by simp [hn]
  have g2 : (n != 0) = true := by simp [hn]
  clear h1 h2 h3 hn hr
  go_enter Try.func6, Try.ntmps6
  go_wp2_with fail
  refine (times_eq 1 4 0 3 (show proQ 1 4 0 3 = (1, 12, 0) by decide) _).mono ?_
  rintro e w1 ⟨rfl, hb1⟩
  have hA := (Box.new w ka va).next hb1
  have hbel : Below w.heap.size w w1 := ((Below.refl _ _).alloc (Nat.le_refl _) _).trans (hb1.mono (by simp))
  clear hb1
  obtain ⟨pA0, pA1, pAl⟩ := hA
  have hs1 := hbel.size
  go_wp2_with fail
  refine (times_eq ka va 0 n H1.out _).mono ?_
  rintro e w2 ⟨rfl, hb2⟩
  have hA := (((Box.mk pA0 pA1 pAl).alloc _).alloc _).next hb2
  have hT := ((Box.new w1 _ _).alloc _).next hb2
  have hK := ((Box.two w1 _ _ _)).next hb2
  replace hbel := ((hbel.alloc hs1 _).alloc (by simp; omega) _).trans (hb2.mono (by simp; omega))
  clear hb2 pA0 pA1 pAl
  obtain ⟨pA0, pA1, pAl⟩ := hA
  obtain ⟨pT0, pT1, pTl⟩ := hT
  obtain ⟨pK0, pK1, pKl⟩ := hK
  have hs2 := hbel.size
  go_wp2_with fail
  refine (times_eq 0 n ka va H2.out _).mono ?_
  rintro e w3 ⟨rfl, hb3⟩
  have hA := ((Box.mk pA0 pA1 pAl).alloc _).next hb3
  have hT := ((Box.mk pT0 pT1 pTl).alloc _).next hb3
  have hK := ((Box.mk pK0 pK1 pKl).alloc _).next hb3
  have hP := (Box.new w2 _ _).next hb3
  replace hbel := (hbel.alloc hs2 _).trans (hb3.mono (by simp; omega))
  clear hb3 pA0 pA1 pAl pT0 pT1 pTl pK0 pK1 pKl
  obtain ⟨pA0, pA1, pAl⟩ := hA
  obtain ⟨pT0, pT1, pTl⟩ := hT
  obtain ⟨pK0, pK1, pKl⟩ := hK
  obtain ⟨pP0, pP1, pPl⟩ := hP
  have hs3 := hbel.size
  go_wp2_with fail
  refine (over_eq ka pv 0 n H3.out _).mono ?_
  rintro e w4 ⟨rfl, hb4⟩
  have hA := ((Box.mk pA0 pA1 pAl).alloc _).next hb4
  have hT := ((Box.mk pT0 pT1 pTl).alloc _).next hb4
  have hK := ((Box.mk pK0 pK1 pKl).alloc _).next hb4
  have hP := ((Box.mk pP0 pP1 pPl).alloc _).next hb4
  have hQ := (Box.new w3 _ _).next hb4
  replace hbel := (hbel.alloc hs3 _).trans (hb4.mono (by simp; omega))
  clear hb4 pA0 pA1 pAl pT0 pT1 pTl pK0 pK1 pKl pP0 pP1 pPl
  obtain ⟨pA0, pA1, pAl⟩ := hA
  obtain ⟨pT0, pT1, pTl⟩ := hT
  obtain ⟨pK0, pK1, pKl⟩ := hK
  obtain ⟨pP0, pP1, pPl⟩ := hP
  obtain ⟨pQ0, pQ1, pQl⟩ := hQ
  have hs4 := hbel.size
  go_wp2_with fail
  refine (may_eq ka va HM.out _).mono ?_
  rintro e w5 ⟨rfl, hb5⟩
  have hA := ((Box.mk pA0 pA1 pAl).alloc _).next hb5
  have hT := ((Box.mk pT0 pT1 pTl).alloc _).next hb5
  have hK := ((Box.mk pK0 pK1 pKl).alloc _).next hb5
  have hP := ((Box.mk pP0 pP1 pPl).alloc _).next hb5
  have hQ := ((Box.mk pQ0 pQ1 pQl).alloc _).next hb5
  have hX := (Box.new w4 _ _).next hb5
  replace hbel := (hbel.alloc hs4 _).trans (hb5.mono (by simp; omega))
  clear hb5 pA0 pA1 pAl pT0 pT1 pTl pK0 pK1 pKl pP0 pP1 pPl pQ0 pQ1 pQl
  obtain ⟨pA0, pA1, pAl⟩ := hA
  obtain ⟨pT0, pT1, pTl⟩ := hT
  obtain ⟨pK0, pK1, pKl⟩ := hK
  obtain ⟨pP0, pP1, pPl⟩ := hP
  obtain ⟨pQ0, pQ1, pQl⟩ := hQ
  obtain ⟨pX0, pX1, pXl⟩ := hX
  have hs5 := hbel.size
  go_wp2_with fail
  refine (times_eq ka va 0 (-1) (less_is HR.out) _).mono ?_
  rintro e w6 ⟨rfl, hb6⟩
  have hA := (Box.mk pA0 pA1 pAl).next hb6
  have hT := (Box.mk pT0 pT1 pTl).next hb6
  have hK := (Box.mk pK0 pK1 pKl).next hb6
  have hP := (Box.mk pP0 pP1 pPl).next hb6
  have hQ := (Box.mk pQ0 pQ1 pQl).next hb6
  have hX := (Box.mk pX0 pX1 pXl).next hb6
  replace hbel := hbel.trans (hb6.mono hs5)
  clear hb6 pA0 pA1 pAl pT0 pT1 pTl pK0 pK1 pKl pP0 pP1 pPl pQ0 pQ1 pQl pX0 pX1 pXl
  obtain ⟨pA0, pA1, pAl⟩ := hA
  obtain ⟨pT0, pT1, pTl⟩ := hT
  obtain ⟨pK0, pK1, pKl⟩ := hK
  obtain ⟨pP0, pP1, pPl⟩ := hP
  obtain ⟨pQ0, pQ1, pQl⟩ := hQ
  obtain ⟨pX0, pX1, pXl⟩ := hX
  have hs6 := hbel.size
  go_wp2_with fail
  refine (add_eq ka va ka (-va) (zero_is HR.out) _).mono ?_
  rintro e w7 ⟨rfl, hb7⟩
  have hA := ((Box.mk pA0 pA1 pAl).alloc _).next hb7
  have hT := ((Box.mk pT0 pT1 pTl).alloc _).next hb7
  have hK := ((Box.mk pK0 pK1 pKl).alloc _).next hb7
  have hP := ((Box.mk pP0 pP1 pPl).alloc _).next hb7
  have hQ := ((Box.mk pQ0 pQ1 pQl).alloc _).next hb7
  have hX := ((Box.mk pX0 pX1 pXl).alloc _).next hb7
  have hL := (Box.new w6 _ _).next hb7
  replace hbel := (hbel.alloc hs6 _).trans (hb7.mono (by simp; omega))
  clear hb7 pA0 pA1 pAl pT0 pT1 pTl pK0 pK1 pKl pP0 pP1 pPl pQ0 pQ1 pQl pX0 pX1 pXl
  obtain ⟨pA0, pA1, pAl⟩ := hA
  obtain ⟨pT0, pT1, pTl⟩ := hT
  obtain ⟨pK0, pK1, pKl⟩ := hK
  obtain ⟨pP0, pP1, pPl⟩ := hP
  obtain ⟨pQ0, pQ1, pQl⟩ := hQ
  obtain ⟨pX0, pX1, pXl⟩ := hX
  obtain ⟨pL0, pL1, pLl⟩ := hL
  have hs7 := hbel.size
  go_wp2_with fail
  refine (add_eq ka (-va) ka va (other_is HR.out) _).mono ?_
  rintro e w8 ⟨rfl, hb8⟩
  have hA := ((Box.mk pA0 pA1 pAl).alloc _).next hb8
  have hT := ((Box.mk pT0 pT1 pTl).alloc _).next hb8
  have hK := ((Box.mk pK0 pK1 pKl).alloc _).next hb8
  have hP := ((Box.mk pP0 pP1 pPl).alloc _).next hb8
  have hQ := ((Box.mk pQ0 pQ1 pQl).alloc _).next hb8
  have hX := ((Box.mk pX0 pX1 pXl).alloc _).next hb8
  have hL := ((Box.mk pL0 pL1 pLl).alloc _).next hb8
  have hZ := (Box.new w7 _ _).next hb8
  replace hbel := (hbel.alloc hs7 _).trans (hb8.mono (by simp; omega))
  clear hb8 pA0 pA1 pAl pT0 pT1 pTl pK0 pK1 pKl pP0 pP1 pPl pQ0 pQ1 pQl pX0 pX1 pXl pL0 pL1 pLl
  obtain ⟨pA0, pA1, pAl⟩ := hA
  obtain ⟨pT0, pT1, pTl⟩ := hT
  obtain ⟨pK0, pK1, pKl⟩ := hK
  obtain ⟨pP0, pP1, pPl⟩ := hP
  obtain ⟨pQ0, pQ1, pQl⟩ := hQ
  obtain ⟨pX0, pX1, pXl⟩ := hX
  obtain ⟨pL0, pL1, pLl⟩ := hL
  obtain ⟨pZ0, pZ1, pZl⟩ := hZ
  have hsE := hbel.size
  go_wp2
  go_ret
  exact ⟨rfl, hbel.alloc hsE _⟩

theorem unitOvers_any (ka va n : Int) (w : World) :
    Calls Try.prog 6 #[.agg #[.int .i64 ka, .int .i64 va], .int .i64 n] w fun e w' => e = .returned (.bool true) ∧ Below w.heap.size w w' := by
  by_cases ha : ref1 ka va = 0
  · by_cases hk : ref1 0 n = 0
    · have h1 := pro_right ha hk
      have h2 := pro_left ha hk
      by_cases hp : ref1 ka (va * n) = 0
      · rw [mk_ok hp] at h1 h2
        by_cases hn : n = 0
        · exact overs_zero ka va n w _ h1 h2 hn ha
        · exact overs_over ka va n w _ h1 h2 (quo_right ha hk hp hn) hn ha
      · rw [mk_no hp] at h1 h2
        exact overs_no ka va n w _ _ h1 h2 hp hp ha
    · obtain ⟨z1, y1, e1⟩ := pro_wrong (k1 := ka) (v1 := va) (k2 := 0) (v2 := n) (.inr hk)
      obtain ⟨z2, y2, e2⟩ := pro_wrong (k1 := 0) (v1 := n) (k2 := ka) (v2 := va) (.inl hk)
      exact overs_no ka va n w _ _ e1 e2 y1 y2 ha
  · obtain ⟨z1, y1, e1⟩ := pro_wrong (k1 := ka) (v1 := va) (k2 := 0) (v2 := n) (.inl ha)
    obtain ⟨z2, y2, e2⟩ := pro_wrong (k1 := 0) (v1 := n) (k2 := ka) (v2 := va) (.inr ha)
    exact overs_A ka va n w _ _ e1 e2 y1 y2 ha
end Go.Proofs.Ytjlbheeipchpkaa
